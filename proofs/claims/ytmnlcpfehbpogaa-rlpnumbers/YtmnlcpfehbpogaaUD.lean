/- rlp: RlpNumbers' walk. -/
import Derived.Test.YtmnlcpfehbpogaaUC
import Derived.Laws.StructEq
namespace Go.Proofs.Ytmnlcpfehbpogaa
open Go.RowKit Go.Maps Go.Joins
set_option linter.unusedSimpArgs false
set_option linter.unusedVariables false
theorem size48 (w : World) : (sizeOf 48).run Try.prog w = .ok 1 w := by kernel_rfl
theorem eq50 (a0 a1 a2 a3 : Int) (w : World) :
    (Op.equalIn 10000 50 (Wd.W4 a0 a1 a2 a3) (Wd.W4 a0 a1 a2 a3)).run Try.prog w = .ok true w := by
  unfold Wd.W4
  rw [Op.equalIn]
  simp only [Sem.run_bind, run_underlying Try.underlying50, Result.andThen_ok, size48]
  simp [Std.Legacy.Range.forIn_eq_forIn_range', List.range', go_sem]
theorem ItsV.up {w w' : World} {v : Value} {xs : List Tr} (h : ItsV w (fun b => b < w.heap.size) v xs) (hb : Below w.heap.size w w') : ItsV w' (fun b => b < w'.heap.size) v xs := h.mono (fun b hb' => hb.block b hb') (fun b hb' => Nat.lt_of_lt_of_le hb' hb.size)
theorem two_itsR {W : World} {s1 s2 t1 t2 : Value} (x1 x2 : Tr) (h1 : ItV W (fun b => b < W.heap.size) s1 t1 x1) (h2 : ItV W (fun b => b < W.heap.size) s2 t2 x2) :
    ItsV (W.alloc (.cells #[.bool x1.l, s1, t1, .bool x2.l, s2, t2] 25)) (fun b => b < (W.alloc (.cells #[.bool x1.l, s1, t1, .bool x2.l, s2, t2] 25)).heap.size) (.slice (some ⟨W.heap.size, 0, none⟩) 2 2) [x1, x2] := by
  have hb : Below W.heap.size W (W.alloc (.cells #[.bool x1.l, s1, t1, .bool x2.l, s2, t2] 25)) := by go_grown
  have hrow : (W.alloc (.cells #[.bool x1.l, s1, t1, .bool x2.l, s2, t2] 25)).ownsRow W.heap.size 25 3 (.slice (some ⟨W.heap.size, 0, none⟩) 2 2) [IC.mk x1 s1 t1, ⟨x2, s2, t2⟩].length (icL [⟨x1, s1, t1⟩, ⟨x2, s2, t2⟩]) :=
    ⟨rfl, Or.inr ⟨W.heap.size, 2, _, rfl, Nat.le_refl _, heap_alloc_new _ _, Nat.le_refl _, by decide, rfl, rfl⟩⟩
  refine row_itsR hrow (fun f hf => ?_) (fun b hb' => (hrow.lt b hb').2) (by show (2 : Nat) * 56 ≤ _; decide)
  rcases List.mem_cons.1 hf with rfl | hf
  · exact h1.up hb
  · rcases List.mem_cons.1 hf with rfl | hf
    · exact h2.up hb
    · cases hf
theorem own_f {T : Tr} {tl : Bool} {tk : Nat} (h1 : tl = T.l) (h2 : tk = T.xs.length) {V : World} {sb si : Value} (h : ItV V (fun b => b < V.heap.size) sb si T) :
    Calls Try.prog 9 #[.agg #[.bool tl, sb, si]] V fun e w' => Below V.heap.size V w' ∧ ∃ a9 c9, e = .returned (.agg #[.bool tl, sb, .slice a9 tk c9]) ∧ ItV w' (fun b => b < w'.heap.size) sb (.slice a9 tk c9) T := by
  rw [h1, h2]
  refine Calls.mono (own_any T V sb si _ h (fun b hb => hb)) ?_
  rintro e w' ⟨hb, si', rfl, hit⟩
  obtain ⟨a9, c9, rfl, -⟩ := hit.xs.form
  exact ⟨hb, a9, c9, rfl, hit.mono (fun _ _ => rfl) (fun b hb => hb.1)⟩
theorem th_f {T : Tr} {tl : Bool} {tk : Nat} (h1 : tl = T.l) (h2 : tk = T.xs.length) {V : World} {sb si : Value} (h : ItV V (fun b => b < V.heap.size) sb si T) :
    Calls Try.prog 18 #[.agg #[.bool tl, sb, si]] V fun e w' => Below V.heap.size V w' ∧ ∃ a9 c9, e = .returned (.agg #[.bool tl, sb, .slice a9 tk c9]) ∧ ItV w' (fun b => b < w'.heap.size) sb (.slice a9 tk c9) T := by
  rw [h1, h2]
  refine Calls.mono (theirs_any T V sb si _ h (fun b hb => hb)) ?_
  rintro e w' ⟨hb, si', rfl, hit⟩
  obtain ⟨a9, c9, rfl, -⟩ := hit.xs.form
  exact ⟨hb, a9, c9, rfl, hit.mono (fun _ _ => rfl) (fun b hb => hb.1)⟩
theorem rs_f {T : Tr} {tl : Bool} (h1 : tl = T.l) {V : World} {sb si sb' si' : Value} (h : ItV V (fun b => b < V.heap.size) sb si T) (h' : ItV V (fun b => b < V.heap.size) sb' si' T) :
    Calls Try.prog 17 #[.agg #[.bool tl, sb, si], .agg #[.bool tl, sb', si']] V fun e w' => Below V.heap.size V w' ∧ e = .returned (.bool true) := by
  rw [h1]
  exact rsame_t T V _ _ _ _ h h'
theorem tup_f {V : World} {f : Nat} {args : Array Value} {T : Tr} {tn : Nat} (h : Calls Try.prog f args V fun e w' => Below V.heap.size V w' ∧ ∃ sb, e = .returned (.agg #[.bool false, sb, .slice none 0 0]) ∧ ItV w' (fun b => b < w'.heap.size) sb (.slice none 0 0) T) (h1 : tn = T.b.length) :
    Calls Try.prog f args V fun e w' => Below V.heap.size V w' ∧ ∃ a9 c9, e = .returned (.agg #[.bool false, .slice a9 tn c9, .slice none 0 0]) ∧ ItV w' (fun b => b < w'.heap.size) (.slice a9 tn c9) (.slice none 0 0) T := by
  rw [h1]
  refine Calls.mono h ?_
  rintro e w' ⟨hb, sb, rfl, hit⟩
  obtain ⟨a9, c9, rfl⟩ := hit.b.is.form
  exact ⟨hb, a9, c9, rfl, hit⟩
theorem itB_of {V : World} {a : Option Addr} {n cap : Nat} {si : Value} {T : Tr} (h : ItV V (fun b => b < V.heap.size) (.slice a n cap) si T) (hb : BytT T) : ItB V a cap T.b ∧ n = T.b.length := by
  obtain ⟨a', c', e⟩ := h.b.is.form
  injection e with e1 e2 e3
  subst e1 e2 e3
  refine ⟨⟨h.b.is, ?_, h.b.len⟩, rfl⟩
  cases T
  unfold BytT at hb
  exact hb.1
theorem n19_f {T : Tr} {tl : Bool} (h1 : tl = T.l) {V : World} {a : Option Addr} {n cap : Nat} {si0 : Option Addr} {si1 si2 : Nat} (h : ItV V (fun b => b < V.heap.size) (.slice a n cap) (.slice si0 si1 si2) T) (hb : BytT T) (r0 r1 r2 r3 : Int) (hr : Wd.L4 r0 r1 r2 r3) (hn : Wd.num r0 r1 r2 r3 = (wrdN T 8 : Nat)) :
    Calls Try.prog 19 #[.agg #[.bool tl, .slice a n cap, .slice si0 si1 si2]] V fun e w' => Below V.heap.size V w' ∧ e = .returned (.tuple #[.int .u64 r0, .int .i64 (wrdE T 8)]) := by
  obtain ⟨hB, hn2⟩ := itB_of h hb
  subst hn2 h1
  obtain ⟨l0, b0, xs0⟩ := T
  exact uint_any (xs := xs0) hB ⟨_, _, _, rfl⟩ r0 r1 r2 r3 hr hn
theorem n20_f {T : Tr} {tl : Bool} (h1 : tl = T.l) {V : World} {a : Option Addr} {n cap : Nat} {si0 : Option Addr} {si1 si2 : Nat} (h : ItV V (fun b => b < V.heap.size) (.slice a n cap) (.slice si0 si1 si2) T) (hb : BytT T) (r0 r1 r2 r3 : Int) (hr : Wd.L4 r0 r1 r2 r3) (hn : Wd.num r0 r1 r2 r3 = (wrdN T 8 : Nat)) :
    Calls Try.prog 20 #[.agg #[.bool tl, .slice a n cap, .slice si0 si1 si2]] V fun e w' => Below V.heap.size V w' ∧ e = .returned (.tuple #[.int .u64 r0, .int .i64 (wrdE T 8)]) := by
  obtain ⟨hB, hn2⟩ := itB_of h hb
  subst hn2 h1
  obtain ⟨l0, b0, xs0⟩ := T
  exact ruint_any (xs := xs0) hB ⟨_, _, _, rfl⟩ r0 r1 r2 r3 hr hn
theorem n21_f {T : Tr} {tl : Bool} (h1 : tl = T.l) {V : World} {a : Option Addr} {n cap : Nat} {si0 : Option Addr} {si1 si2 : Nat} (h : ItV V (fun b => b < V.heap.size) (.slice a n cap) (.slice si0 si1 si2) T) (hb : BytT T) (s0 s1 s2 s3 : Int) (hr : Wd.L4 s0 s1 s2 s3) (hn : Wd.num s0 s1 s2 s3 = (wrdN T 32 : Nat)) :
    Calls Try.prog 21 #[.agg #[.bool tl, .slice a n cap, .slice si0 si1 si2]] V fun e w' => Below V.heap.size V w' ∧ e = .returned (.tuple #[.agg #[.int .u64 s0, .int .u64 s1, .int .u64 s2, .int .u64 s3], .int .i64 (wrdE T 32)]) := by
  obtain ⟨hB, hn2⟩ := itB_of h hb
  subst hn2 h1
  obtain ⟨l0, b0, xs0⟩ := T
  exact word_any (xs := xs0) hB ⟨_, _, _, rfl⟩ s0 s1 s2 s3 hr hn
theorem n22_f {T : Tr} {tl : Bool} (h1 : tl = T.l) {V : World} {a : Option Addr} {n cap : Nat} {si0 : Option Addr} {si1 si2 : Nat} (h : ItV V (fun b => b < V.heap.size) (.slice a n cap) (.slice si0 si1 si2) T) (hb : BytT T) (s0 s1 s2 s3 : Int) (hr : Wd.L4 s0 s1 s2 s3) (hn : Wd.num s0 s1 s2 s3 = (wrdN T 32 : Nat)) :
    Calls Try.prog 22 #[.agg #[.bool tl, .slice a n cap, .slice si0 si1 si2], .int .i64 32] V fun e w' => Below V.heap.size V w' ∧ e = .returned (.tuple #[.agg #[.int .u64 s0, .int .u64 s1, .int .u64 s2, .int .u64 s3], .int .i64 (wrdE T 32)]) := by
  obtain ⟨hB, hn2⟩ := itB_of h hb
  subst hn2 h1
  obtain ⟨l0, b0, xs0⟩ := T
  exact rword_any (xs := xs0) hB ⟨_, _, _, rfl⟩ 32 (Nat.le_refl _) s0 s1 s2 s3 hr hn
theorem wrdN_bd (T : Tr) (most : Nat) (hm : most ≤ 32) (hb : BytT T) : ((wrdN T most : Nat) : Int) < Wd.T256 := by
  unfold wrdN
  split
  · rename_i h
    obtain ⟨l0, b0, xs0⟩ := T
    unfold BytT at hb
    have hlen : b0.length ≤ 32 := by
      cases l0 with
      | true => simp [wrdE, Tr.l] at h
      | false =>
        rw [wrdE_mk] at h
        split at h
        · cases h
        · omega
    have h1 := numB_lt b0 hb.1
    have h2 : (256 : Nat) ^ b0.length ≤ 256 ^ 32 := Nat.pow_le_pow_right (by decide) hlen
    show ((numB b0 : Nat) : Int) < _
    unfold Wd.T256
    have h3 : (256 : Nat) ^ 32 = 115792089237316195423570985008687907853269984665640564039457584007913129639936 := by decide
    omega
  · unfold Wd.T256; decide
set_option maxRecDepth 100000 in
set_option maxHeartbeats 16000000 in
theorem numbers_any {w : World} (n : Nat) (hn : n < 18446744073709551616) (a0 a1 a2 a3 : Int) (ha : Wd.L4 a0 a1 a2 a3) (X Y : Tr) (sbx six sby siy : Value) (hx : ItV w (fun b => b < w.heap.size) sbx six X) (hy : ItV w (fun b => b < w.heap.size) sby siy Y) (hbx : BytT X) (hby : BytT Y) :
    Calls Try.prog 5 #[.int .u64 n, Wd.W4 a0 a1 a2 a3, .agg #[.bool X.l, sbx, six], .agg #[.bool Y.l, sby, siy]] w fun e w' => Below w.heap.size w w' ∧ e = .returned (.bool true) := by
  obtain ⟨ab, cb, rfl⟩ := hx.b.is.form
  obtain ⟨ai, ci, rfl, -⟩ := hx.xs.form
  obtain ⟨ab', cb', rfl⟩ := hy.b.is.form
  obtain ⟨ai', ci', rfl, -⟩ := hy.xs.form
  obtain ⟨l, hl⟩ : ∃ l, l = X.l := ⟨_, rfl⟩
  obtain ⟨m, hm⟩ : ∃ m, m = X.b.length := ⟨_, rfl⟩
  obtain ⟨k, hk⟩ : ∃ k, k = X.xs.length := ⟨_, rfl⟩
  obtain ⟨l', hl'⟩ : ∃ l', l' = Y.l := ⟨_, rfl⟩
  obtain ⟨m', hm'⟩ : ∃ m', m' = Y.b.length := ⟨_, rfl⟩
  obtain ⟨k', hk'⟩ : ∃ k', k' = Y.xs.length := ⟨_, rfl⟩
  rw [← hm, ← hk] at hx
  rw [← hm', ← hk'] at hy
  rw [← hl, ← hm, ← hk, ← hl', ← hm', ← hk']
  obtain ⟨Nn, hNn⟩ : ∃ Nn : Nat, Wd.num a0 a1 a2 a3 = Nn := ⟨(Wd.num a0 a1 a2 a3).toNat, by have := (Wd.num_bd ha).1; omega⟩
  obtain ⟨r0, r1, r2, r3, hr, hrn⟩ := num_ex (wrdN X 8 : Nat) (by omega) (wrdN_bd X 8 (by decide) hbx)
  obtain ⟨s0, s1, s2, s3, hs, hsn⟩ := num_ex (wrdN X 32 : Nat) (by omega) (wrdN_bd X 32 (by decide) hbx)
  obtain ⟨E8, hE8⟩ : ∃ E8, E8 = wrdE X 8 := ⟨_, rfl⟩
  obtain ⟨E32, hE32⟩ : ∃ E32, E32 = wrdE X 32 := ⟨_, rfl⟩
  obtain ⟨T1, hT1⟩ : ∃ T1 : Tr, T1 = .mk false (shortB n) [] := ⟨_, rfl⟩
  obtain ⟨t1, ht1⟩ : ∃ t1, t1 = T1.b.length := ⟨_, rfl⟩
  obtain ⟨T2, hT2⟩ : ∃ T2 : Tr, T2 = .mk false (shortB Nn) [] := ⟨_, rfl⟩
  obtain ⟨t2, ht2⟩ : ∃ t2, t2 = T2.b.length := ⟨_, rfl⟩
  obtain ⟨T3, hT3⟩ : ∃ T3 : Tr, T3 = .mk true [] [X, Y] := ⟨_, rfl⟩
  have HL : Hid (l = X.l ∧ k = X.xs.length ∧ l' = Y.l ∧ k' = Y.xs.length) := ⟨hl, hk, hl', hk'⟩
  have HT : Hid (T1 = .mk false (shortB n) [] ∧ T2 = .mk false (shortB Nn) [] ∧ T3 = .mk true [] [X, Y]) := ⟨hT1, hT2, hT3⟩
  have HBT : Hid (BytT X ∧ BytT Y) := ⟨hbx, hby⟩
  have c19 : ∀ (V : World) (a9 : Option Addr) (c9 : Nat), ItV V (fun b => b < V.heap.size) (.slice ab m cb) (.slice a9 k c9) X → Calls Try.prog 19 #[.agg #[.bool l, .slice ab m cb, .slice a9 k c9]] V fun e w' => Below V.heap.size V w' ∧ e = .returned (.tuple #[.int .u64 r0, .int .i64 E8]) := fun V a9 c9 h => by rw [hE8]; exact n19_f hl h hbx r0 r1 r2 r3 hr hrn
  have c20 : ∀ (V : World), ItV V (fun b => b < V.heap.size) (.slice ab m cb) (.slice ai k ci) X → Calls Try.prog 20 #[.agg #[.bool l, .slice ab m cb, .slice ai k ci]] V fun e w' => Below V.heap.size V w' ∧ e = .returned (.tuple #[.int .u64 r0, .int .i64 E8]) := fun V h => by rw [hE8]; exact n20_f hl h hbx r0 r1 r2 r3 hr hrn
  have c21 : ∀ (V : World) (a9 : Option Addr) (c9 : Nat), ItV V (fun b => b < V.heap.size) (.slice ab m cb) (.slice a9 k c9) X → Calls Try.prog 21 #[.agg #[.bool l, .slice ab m cb, .slice a9 k c9]] V fun e w' => Below V.heap.size V w' ∧ e = .returned (.tuple #[.agg #[.int .u64 s0, .int .u64 s1, .int .u64 s2, .int .u64 s3], .int .i64 E32]) := fun V a9 c9 h => by rw [hE32]; exact n21_f hl h hbx s0 s1 s2 s3 hs hsn
  have c22 : ∀ (V : World), ItV V (fun b => b < V.heap.size) (.slice ab m cb) (.slice ai k ci) X → Calls Try.prog 22 #[.agg #[.bool l, .slice ab m cb, .slice ai k ci], .int .i64 32] V fun e w' => Below V.heap.size V w' ∧ e = .returned (.tuple #[.agg #[.int .u64 s0, .int .u64 s1, .int .u64 s2, .int .u64 s3], .int .i64 E32]) := fun V h => by rw [hE32]; exact n22_f hl h hbx s0 s1 s2 s3 hs hsn
  have c23 : ∀ V : World, Calls Try.prog 23 #[.int .u64 n] V fun e w' => Below V.heap.size V w' ∧ ∃ a9 c9, e = .returned (.agg #[.bool false, .slice a9 t1 c9, .slice none 0 0]) ∧ ItV w' (fun b => b < w'.heap.size) (.slice a9 t1 c9) (.slice none 0 0) T1 := fun V => tup_f (by rw [hT1]; exact Calls.mono (num_any n hn) fun e w' ⟨hb, sb, he, hi⟩ => ⟨hb, sb, he, hi.mono (fun _ _ => rfl) (fun b hb => hb.2)⟩) ht1
  have c24 : ∀ V : World, Calls Try.prog 24 #[.int .u64 n] V fun e w' => Below V.heap.size V w' ∧ ∃ a9 c9, e = .returned (.agg #[.bool false, .slice a9 t1 c9, .slice none 0 0]) ∧ ItV w' (fun b => b < w'.heap.size) (.slice a9 t1 c9) (.slice none 0 0) T1 := fun V => tup_f (by rw [hT1]; exact rnum_any n hn) ht1
  have c25 : ∀ V : World, Calls Try.prog 25 #[.agg #[.int .u64 a0, .int .u64 a1, .int .u64 a2, .int .u64 a3]] V fun e w' => Below V.heap.size V w' ∧ ∃ a9 c9, e = .returned (.agg #[.bool false, .slice a9 t2 c9, .slice none 0 0]) ∧ ItV w' (fun b => b < w'.heap.size) (.slice a9 t2 c9) (.slice none 0 0) T2 := fun V => tup_f (by rw [hT2]; exact Calls.mono (big_any a0 a1 a2 a3 ha Nn hNn) fun e w' ⟨hb, sb, he, hi⟩ => ⟨hb, sb, he, hi.mono (fun _ _ => rfl) (fun b hb => hb.2)⟩) ht2
  have c26 : ∀ V : World, Calls Try.prog 26 #[.agg #[.int .u64 a0, .int .u64 a1, .int .u64 a2, .int .u64 a3]] V fun e w' => Below V.heap.size V w' ∧ ∃ a9 c9, e = .returned (.agg #[.bool false, .slice a9 t2 c9, .slice none 0 0]) ∧ ItV w' (fun b => b < w'.heap.size) (.slice a9 t2 c9) (.slice none 0 0) T2 := fun V => tup_f (by rw [hT2]; exact rbig_any a0 a1 a2 a3 ha Nn hNn) ht2
  have c28 : ∀ (V : World) (v : Value), ItsV V (fun b => b < V.heap.size) v [X, Y] → Calls Try.prog 28 #[v] V fun e w' => Below V.heap.size V w' ∧ ∃ a9 c9, e = .returned (.agg #[.bool true, .slice none 0 0, .slice a9 2 c9]) ∧ ItV w' (fun b => b < w'.heap.size) (.slice none 0 0) (.slice a9 2 c9) T3 := fun V v h => by
    rw [hT3]
    refine Calls.mono (list_any h (fun b hb => hb)) ?_
    rintro e w' ⟨hb, si, rfl, hit⟩
    obtain ⟨a9, c9, rfl, -⟩ := hit.xs.form
    exact ⟨hb, a9, c9, rfl, hit.mono (fun _ _ => rfl) (fun b hb => hb.2)⟩
  have C19 : Hid _ := c19
  have C20 : Hid _ := c20
  have C21 : Hid _ := c21
  have C22 : Hid _ := c22
  have C23 : Hid _ := c23
  have C24 : Hid _ := c24
  have C25 : Hid _ := c25
  have C26 : Hid _ := c26
  have C28 : Hid _ := c28
  clear c19 c20 c21 c22 c23 c24 c25 c26 c28
  have hb0 : Below w.heap.size w (((w.alloc (.cells #[.int .u64 a0, .int .u64 a1, .int .u64 a2, .int .u64 a3] 50)).alloc (.cells #[.bool l, .slice ab m cb, .slice ai k ci] 25)).alloc (.cells #[.bool l', .slice ab' m' cb', .slice ai' k' ci'] 25)) := by go_grown
  have hh0 := allocs_heap [Obj.cells #[.int .u64 a0, .int .u64 a1, .int .u64 a2, .int .u64 a3] 50, .cells #[.bool l, .slice ab m cb, .slice ai k ci] 25, .cells #[.bool l', .slice ab' m' cb', .slice ai' k' ci'] 25] w
  have HW : Hid (Below w.heap.size w (((w.alloc (.cells #[.int .u64 a0, .int .u64 a1, .int .u64 a2, .int .u64 a3] 50)).alloc (.cells #[.bool l, .slice ab m cb, .slice ai k ci] 25)).alloc (.cells #[.bool l', .slice ab' m' cb', .slice ai' k' ci'] 25)) ∧ (((w.alloc (.cells #[.int .u64 a0, .int .u64 a1, .int .u64 a2, .int .u64 a3] 50)).alloc (.cells #[.bool l, .slice ab m cb, .slice ai k ci] 25)).alloc (.cells #[.bool l', .slice ab' m' cb', .slice ai' k' ci'] 25)).heap[w.heap.size]? = some (.cells #[.int .u64 a0, .int .u64 a1, .int .u64 a2, .int .u64 a3] 50) ∧ (((w.alloc (.cells #[.int .u64 a0, .int .u64 a1, .int .u64 a2, .int .u64 a3] 50)).alloc (.cells #[.bool l, .slice ab m cb, .slice ai k ci] 25)).alloc (.cells #[.bool l', .slice ab' m' cb', .slice ai' k' ci'] 25)).heap[w.heap.size + 1]? = some (.cells #[.bool l, .slice ab m cb, .slice ai k ci] 25) ∧ (((w.alloc (.cells #[.int .u64 a0, .int .u64 a1, .int .u64 a2, .int .u64 a3] 50)).alloc (.cells #[.bool l, .slice ab m cb, .slice ai k ci] 25)).alloc (.cells #[.bool l', .slice ab' m' cb', .slice ai' k' ci'] 25)).heap[w.heap.size + 1 + 1]? = some (.cells #[.bool l', .slice ab' m' cb', .slice ai' k' ci'] 25) ∧ ItV (((w.alloc (.cells #[.int .u64 a0, .int .u64 a1, .int .u64 a2, .int .u64 a3] 50)).alloc (.cells #[.bool l, .slice ab m cb, .slice ai k ci] 25)).alloc (.cells #[.bool l', .slice ab' m' cb', .slice ai' k' ci'] 25)) (fun b => b < (((w.alloc (.cells #[.int .u64 a0, .int .u64 a1, .int .u64 a2, .int .u64 a3] 50)).alloc (.cells #[.bool l, .slice ab m cb, .slice ai k ci] 25)).alloc (.cells #[.bool l', .slice ab' m' cb', .slice ai' k' ci'] 25)).heap.size) (.slice ab m cb) (.slice ai k ci) X ∧ ItV (((w.alloc (.cells #[.int .u64 a0, .int .u64 a1, .int .u64 a2, .int .u64 a3] 50)).alloc (.cells #[.bool l, .slice ab m cb, .slice ai k ci] 25)).alloc (.cells #[.bool l', .slice ab' m' cb', .slice ai' k' ci'] 25)) (fun b => b < (((w.alloc (.cells #[.int .u64 a0, .int .u64 a1, .int .u64 a2, .int .u64 a3] 50)).alloc (.cells #[.bool l, .slice ab m cb, .slice ai k ci] 25)).alloc (.cells #[.bool l', .slice ab' m' cb', .slice ai' k' ci'] 25)).heap.size) (.slice ab' m' cb') (.slice ai' k' ci') Y) := ⟨hb0, hh0 0 _ rfl, hh0 1 _ rfl, hh0 2 _ rfl, hx.up hb0, hy.up hb0⟩
  have he50 : ∀ w : World, (Op.equalIn 10000 50 (.agg #[.int .u64 s0, .int .u64 s1, .int .u64 s2, .int .u64 s3]) (.agg #[.int .u64 s0, .int .u64 s1, .int .u64 s2, .int .u64 s3])).run Try.prog w = .ok true w := fun w => eq50 s0 s1 s2 s3 w
  clear hb0 hh0 hx hy hl hm hk hl' hm' hk' hNn hr hrn hs hsn hE8 hE32 hT1 ht1 hT2 ht2 hT3 hbx hby hn ha
  show Calls Try.prog 5 #[.int .u64 n, .agg #[.int .u64 a0, .int .u64 a1, .int .u64 a2, .int .u64 a3], .agg #[.bool l, .slice ab m cb, .slice ai k ci], .agg #[.bool l', .slice ab' m' cb', .slice ai' k' ci']] w _
  go_enter Try.func5, Try.ntmps5
  go_wp2_with fail
  generalize (((w.alloc (.cells #[.int .u64 a0, .int .u64 a1, .int .u64 a2, .int .u64 a3] 50)).alloc (.cells #[.bool l, .slice ab m cb, .slice ai k ci] 25)).alloc (.cells #[.bool l', .slice ab' m' cb', .slice ai' k' ci'] 25)) = W0 at HW ⊢
  have x0 : W0.cell? ⟨w.heap.size + 1, 0, none⟩ = some (.bool l) := (cell_of_block HW.out.2.2.1 0).trans rfl
  have x1 : W0.cell? ⟨w.heap.size + 1, 1, none⟩ = some (.slice ab m cb) := (cell_of_block HW.out.2.2.1 1).trans rfl
  have x2 : W0.cell? ⟨w.heap.size + 1, 2, none⟩ = some (.slice ai k ci) := (cell_of_block HW.out.2.2.1 2).trans rfl
  go_wp2_with fail
  refine Calls.mono (own_f HL.out.1 HL.out.2.1 HW.out.2.2.2.2.1) ?_
  rintro e W1 ⟨hb7, a9, c9, rfl, hit⟩
  have HIT : Hid (ItV W1 (fun b => b < W1.heap.size) (.slice ab m cb) (.slice a9 k c9) X) := hit
  have hz : Hid (Below w.heap.size w W1 ∧ W1.heap[w.heap.size]? = some (.cells #[.int .u64 a0, .int .u64 a1, .int .u64 a2, .int .u64 a3] 50) ∧ W1.heap[w.heap.size + 1]? = some (.cells #[.bool l, .slice ab m cb, .slice ai k ci] 25) ∧ W1.heap[w.heap.size + 1 + 1]? = some (.cells #[.bool l', .slice ab' m' cb', .slice ai' k' ci'] 25) ∧ ItV W1 (fun b => b < W1.heap.size) (.slice ab m cb) (.slice ai k ci) X ∧ ItV W1 (fun b => b < W1.heap.size) (.slice ab' m' cb') (.slice ai' k' ci') Y) := ⟨HW.out.1.trans (hb7.mono HW.out.1.size), (hb7.block _ (heap_lt HW.out.2.1)).trans HW.out.2.1, (hb7.block _ (heap_lt HW.out.2.2.1)).trans HW.out.2.2.1, (hb7.block _ (heap_lt HW.out.2.2.2.1)).trans HW.out.2.2.2.1, HW.out.2.2.2.2.1.up hb7, HW.out.2.2.2.2.2.up hb7⟩
  clear HW hb7 hit x0 x1 x2
  have HW : Hid (Below w.heap.size w W1 ∧ W1.heap[w.heap.size]? = some (.cells #[.int .u64 a0, .int .u64 a1, .int .u64 a2, .int .u64 a3] 50) ∧ W1.heap[w.heap.size + 1]? = some (.cells #[.bool l, .slice ab m cb, .slice ai k ci] 25) ∧ W1.heap[w.heap.size + 1 + 1]? = some (.cells #[.bool l', .slice ab' m' cb', .slice ai' k' ci'] 25) ∧ ItV W1 (fun b => b < W1.heap.size) (.slice ab m cb) (.slice ai k ci) X ∧ ItV W1 (fun b => b < W1.heap.size) (.slice ab' m' cb') (.slice ai' k' ci') Y) := hz.out
  clear hz
  go_wp2_with fail
  refine Calls.mono (C19.out W1 a9 c9 HIT.out) ?_
  rintro e W2 ⟨hb7, rfl⟩
  have hz : Hid (Below w.heap.size w W2 ∧ W2.heap[w.heap.size]? = some (.cells #[.int .u64 a0, .int .u64 a1, .int .u64 a2, .int .u64 a3] 50) ∧ W2.heap[w.heap.size + 1]? = some (.cells #[.bool l, .slice ab m cb, .slice ai k ci] 25) ∧ W2.heap[w.heap.size + 1 + 1]? = some (.cells #[.bool l', .slice ab' m' cb', .slice ai' k' ci'] 25) ∧ ItV W2 (fun b => b < W2.heap.size) (.slice ab m cb) (.slice ai k ci) X ∧ ItV W2 (fun b => b < W2.heap.size) (.slice ab' m' cb') (.slice ai' k' ci') Y) := ⟨HW.out.1.trans (hb7.mono HW.out.1.size), (hb7.block _ (heap_lt HW.out.2.1)).trans HW.out.2.1, (hb7.block _ (heap_lt HW.out.2.2.1)).trans HW.out.2.2.1, (hb7.block _ (heap_lt HW.out.2.2.2.1)).trans HW.out.2.2.2.1, HW.out.2.2.2.2.1.up hb7, HW.out.2.2.2.2.2.up hb7⟩
  clear HW hb7 HIT
  have HW : Hid (Below w.heap.size w W2 ∧ W2.heap[w.heap.size]? = some (.cells #[.int .u64 a0, .int .u64 a1, .int .u64 a2, .int .u64 a3] 50) ∧ W2.heap[w.heap.size + 1]? = some (.cells #[.bool l, .slice ab m cb, .slice ai k ci] 25) ∧ W2.heap[w.heap.size + 1 + 1]? = some (.cells #[.bool l', .slice ab' m' cb', .slice ai' k' ci'] 25) ∧ ItV W2 (fun b => b < W2.heap.size) (.slice ab m cb) (.slice ai k ci) X ∧ ItV W2 (fun b => b < W2.heap.size) (.slice ab' m' cb') (.slice ai' k' ci') Y) := hz.out
  clear hz
  have x0 : W2.cell? ⟨w.heap.size + 1, 0, none⟩ = some (.bool l) := (cell_of_block HW.out.2.2.1 0).trans rfl
  have x1 : W2.cell? ⟨w.heap.size + 1, 1, none⟩ = some (.slice ab m cb) := (cell_of_block HW.out.2.2.1 1).trans rfl
  have x2 : W2.cell? ⟨w.heap.size + 1, 2, none⟩ = some (.slice ai k ci) := (cell_of_block HW.out.2.2.1 2).trans rfl
  go_wp2_with fail
  refine Calls.mono (C20.out W2 HW.out.2.2.2.2.1) ?_
  rintro e W3 ⟨hb7, rfl⟩
  have hz : Hid (Below w.heap.size w W3 ∧ W3.heap[w.heap.size]? = some (.cells #[.int .u64 a0, .int .u64 a1, .int .u64 a2, .int .u64 a3] 50) ∧ W3.heap[w.heap.size + 1]? = some (.cells #[.bool l, .slice ab m cb, .slice ai k ci] 25) ∧ W3.heap[w.heap.size + 1 + 1]? = some (.cells #[.bool l', .slice ab' m' cb', .slice ai' k' ci'] 25) ∧ ItV W3 (fun b => b < W3.heap.size) (.slice ab m cb) (.slice ai k ci) X ∧ ItV W3 (fun b => b < W3.heap.size) (.slice ab' m' cb') (.slice ai' k' ci') Y) := ⟨HW.out.1.trans (hb7.mono HW.out.1.size), (hb7.block _ (heap_lt HW.out.2.1)).trans HW.out.2.1, (hb7.block _ (heap_lt HW.out.2.2.1)).trans HW.out.2.2.1, (hb7.block _ (heap_lt HW.out.2.2.2.1)).trans HW.out.2.2.2.1, HW.out.2.2.2.2.1.up hb7, HW.out.2.2.2.2.2.up hb7⟩
  clear HW hb7 x0 x1 x2
  have HW : Hid (Below w.heap.size w W3 ∧ W3.heap[w.heap.size]? = some (.cells #[.int .u64 a0, .int .u64 a1, .int .u64 a2, .int .u64 a3] 50) ∧ W3.heap[w.heap.size + 1]? = some (.cells #[.bool l, .slice ab m cb, .slice ai k ci] 25) ∧ W3.heap[w.heap.size + 1 + 1]? = some (.cells #[.bool l', .slice ab' m' cb', .slice ai' k' ci'] 25) ∧ ItV W3 (fun b => b < W3.heap.size) (.slice ab m cb) (.slice ai k ci) X ∧ ItV W3 (fun b => b < W3.heap.size) (.slice ab' m' cb') (.slice ai' k' ci') Y) := hz.out
  clear hz
  have x0 : W3.cell? ⟨w.heap.size + 1, 0, none⟩ = some (.bool l) := (cell_of_block HW.out.2.2.1 0).trans rfl
  have x1 : W3.cell? ⟨w.heap.size + 1, 1, none⟩ = some (.slice ab m cb) := (cell_of_block HW.out.2.2.1 1).trans rfl
  have x2 : W3.cell? ⟨w.heap.size + 1, 2, none⟩ = some (.slice ai k ci) := (cell_of_block HW.out.2.2.1 2).trans rfl
  go_wp2_with fail
  refine Calls.mono (own_f HL.out.1 HL.out.2.1 HW.out.2.2.2.2.1) ?_
  rintro e W4 ⟨hb7, a8, c8, rfl, hit⟩
  have HIT : Hid (ItV W4 (fun b => b < W4.heap.size) (.slice ab m cb) (.slice a8 k c8) X) := hit
  have hz : Hid (Below w.heap.size w W4 ∧ W4.heap[w.heap.size]? = some (.cells #[.int .u64 a0, .int .u64 a1, .int .u64 a2, .int .u64 a3] 50) ∧ W4.heap[w.heap.size + 1]? = some (.cells #[.bool l, .slice ab m cb, .slice ai k ci] 25) ∧ W4.heap[w.heap.size + 1 + 1]? = some (.cells #[.bool l', .slice ab' m' cb', .slice ai' k' ci'] 25) ∧ ItV W4 (fun b => b < W4.heap.size) (.slice ab m cb) (.slice ai k ci) X ∧ ItV W4 (fun b => b < W4.heap.size) (.slice ab' m' cb') (.slice ai' k' ci') Y) := ⟨HW.out.1.trans (hb7.mono HW.out.1.size), (hb7.block _ (heap_lt HW.out.2.1)).trans HW.out.2.1, (hb7.block _ (heap_lt HW.out.2.2.1)).trans HW.out.2.2.1, (hb7.block _ (heap_lt HW.out.2.2.2.1)).trans HW.out.2.2.2.1, HW.out.2.2.2.2.1.up hb7, HW.out.2.2.2.2.2.up hb7⟩
  clear HW hb7 hit x0 x1 x2
  have HW : Hid (Below w.heap.size w W4 ∧ W4.heap[w.heap.size]? = some (.cells #[.int .u64 a0, .int .u64 a1, .int .u64 a2, .int .u64 a3] 50) ∧ W4.heap[w.heap.size + 1]? = some (.cells #[.bool l, .slice ab m cb, .slice ai k ci] 25) ∧ W4.heap[w.heap.size + 1 + 1]? = some (.cells #[.bool l', .slice ab' m' cb', .slice ai' k' ci'] 25) ∧ ItV W4 (fun b => b < W4.heap.size) (.slice ab m cb) (.slice ai k ci) X ∧ ItV W4 (fun b => b < W4.heap.size) (.slice ab' m' cb') (.slice ai' k' ci') Y) := hz.out
  clear hz
  go_wp2_with fail
  refine Calls.mono (C21.out W4 a8 c8 HIT.out) ?_
  rintro e W5 ⟨hb7, rfl⟩
  have hbz : Below W5.heap.size W5 (W5.alloc (.cells #[.int .u64 s0, .int .u64 s1, .int .u64 s2, .int .u64 s3] 50)) := by go_grown
  have hb8 : Below W4.heap.size W4 (W5.alloc (.cells #[.int .u64 s0, .int .u64 s1, .int .u64 s2, .int .u64 s3] 50)) := hb7.trans (hbz.mono hb7.size)
  have hz : Hid ((Below w.heap.size w (W5.alloc (.cells #[.int .u64 s0, .int .u64 s1, .int .u64 s2, .int .u64 s3] 50)) ∧ (W5.alloc (.cells #[.int .u64 s0, .int .u64 s1, .int .u64 s2, .int .u64 s3] 50)).heap[w.heap.size]? = some (.cells #[.int .u64 a0, .int .u64 a1, .int .u64 a2, .int .u64 a3] 50) ∧ (W5.alloc (.cells #[.int .u64 s0, .int .u64 s1, .int .u64 s2, .int .u64 s3] 50)).heap[w.heap.size + 1]? = some (.cells #[.bool l, .slice ab m cb, .slice ai k ci] 25) ∧ (W5.alloc (.cells #[.int .u64 s0, .int .u64 s1, .int .u64 s2, .int .u64 s3] 50)).heap[w.heap.size + 1 + 1]? = some (.cells #[.bool l', .slice ab' m' cb', .slice ai' k' ci'] 25) ∧ ItV (W5.alloc (.cells #[.int .u64 s0, .int .u64 s1, .int .u64 s2, .int .u64 s3] 50)) (fun b => b < (W5.alloc (.cells #[.int .u64 s0, .int .u64 s1, .int .u64 s2, .int .u64 s3] 50)).heap.size) (.slice ab m cb) (.slice ai k ci) X ∧ ItV (W5.alloc (.cells #[.int .u64 s0, .int .u64 s1, .int .u64 s2, .int .u64 s3] 50)) (fun b => b < (W5.alloc (.cells #[.int .u64 s0, .int .u64 s1, .int .u64 s2, .int .u64 s3] 50)).heap.size) (.slice ab' m' cb') (.slice ai' k' ci') Y) ∧ (W5.alloc (.cells #[.int .u64 s0, .int .u64 s1, .int .u64 s2, .int .u64 s3] 50)).heap[W5.heap.size]? = some (.cells #[.int .u64 s0, .int .u64 s1, .int .u64 s2, .int .u64 s3] 50)) := ⟨⟨HW.out.1.trans (hb8.mono HW.out.1.size), (hb8.block _ (heap_lt HW.out.2.1)).trans HW.out.2.1, (hb8.block _ (heap_lt HW.out.2.2.1)).trans HW.out.2.2.1, (hb8.block _ (heap_lt HW.out.2.2.2.1)).trans HW.out.2.2.2.1, HW.out.2.2.2.2.1.up hb8, HW.out.2.2.2.2.2.up hb8⟩, heap_alloc_new _ _⟩
  have hxz : (W5.alloc (.cells #[.int .u64 s0, .int .u64 s1, .int .u64 s2, .int .u64 s3] 50)).heap[w.heap.size + 1]? = some (.cells #[.bool l, .slice ab m cb, .slice ai k ci] 25) := hz.out.1.2.2.1
  have hlt : w.heap.size + 1 < W5.heap.size := by have h9 := heap_lt HW.out.2.2.1; have := hb7.size; omega
  have hxw : W5.heap[w.heap.size + 1]? = some (.cells #[.bool l, .slice ab m cb, .slice ai k ci] 25) := (hb7.block _ (heap_lt HW.out.2.2.1)).trans HW.out.2.2.1
  have x0 : W5.cell? ⟨w.heap.size + 1, 0, none⟩ = some (.bool l) := (cell_of_block hxw 0).trans rfl
  have x1 : W5.cell? ⟨w.heap.size + 1, 1, none⟩ = some (.slice ab m cb) := (cell_of_block hxw 1).trans rfl
  have x2 : W5.cell? ⟨w.heap.size + 1, 2, none⟩ = some (.slice ai k ci) := (cell_of_block hxw 2).trans rfl
  clear HW hb7 hb8 hbz HIT hxz hxw
  have HW : Hid ((Below w.heap.size w (W5.alloc (.cells #[.int .u64 s0, .int .u64 s1, .int .u64 s2, .int .u64 s3] 50)) ∧ (W5.alloc (.cells #[.int .u64 s0, .int .u64 s1, .int .u64 s2, .int .u64 s3] 50)).heap[w.heap.size]? = some (.cells #[.int .u64 a0, .int .u64 a1, .int .u64 a2, .int .u64 a3] 50) ∧ (W5.alloc (.cells #[.int .u64 s0, .int .u64 s1, .int .u64 s2, .int .u64 s3] 50)).heap[w.heap.size + 1]? = some (.cells #[.bool l, .slice ab m cb, .slice ai k ci] 25) ∧ (W5.alloc (.cells #[.int .u64 s0, .int .u64 s1, .int .u64 s2, .int .u64 s3] 50)).heap[w.heap.size + 1 + 1]? = some (.cells #[.bool l', .slice ab' m' cb', .slice ai' k' ci'] 25) ∧ ItV (W5.alloc (.cells #[.int .u64 s0, .int .u64 s1, .int .u64 s2, .int .u64 s3] 50)) (fun b => b < (W5.alloc (.cells #[.int .u64 s0, .int .u64 s1, .int .u64 s2, .int .u64 s3] 50)).heap.size) (.slice ab m cb) (.slice ai k ci) X ∧ ItV (W5.alloc (.cells #[.int .u64 s0, .int .u64 s1, .int .u64 s2, .int .u64 s3] 50)) (fun b => b < (W5.alloc (.cells #[.int .u64 s0, .int .u64 s1, .int .u64 s2, .int .u64 s3] 50)).heap.size) (.slice ab' m' cb') (.slice ai' k' ci') Y) ∧ (W5.alloc (.cells #[.int .u64 s0, .int .u64 s1, .int .u64 s2, .int .u64 s3] 50)).heap[W5.heap.size]? = some (.cells #[.int .u64 s0, .int .u64 s1, .int .u64 s2, .int .u64 s3] 50)) := hz.out
  clear hz
  go_wp2_with fail
  clear x0 x1 x2 hlt
  generalize (W5.alloc (.cells #[.int .u64 s0, .int .u64 s1, .int .u64 s2, .int .u64 s3] 50)) = W6 at HW ⊢
  generalize W5.heap.size = p13 at HW ⊢
  refine Calls.mono (C22.out W6 HW.out.1.2.2.2.2.1) ?_
  rintro e W7 ⟨hb7, rfl⟩
  have hbz : Below W7.heap.size W7 (W7.alloc (.cells #[.int .u64 s0, .int .u64 s1, .int .u64 s2, .int .u64 s3] 50)) := by go_grown
  have hb8 : Below W6.heap.size W6 (W7.alloc (.cells #[.int .u64 s0, .int .u64 s1, .int .u64 s2, .int .u64 s3] 50)) := hb7.trans (hbz.mono hb7.size)
  have HW1 : Hid (Below w.heap.size w W6 ∧ W6.heap[w.heap.size]? = some (.cells #[.int .u64 a0, .int .u64 a1, .int .u64 a2, .int .u64 a3] 50) ∧ W6.heap[w.heap.size + 1]? = some (.cells #[.bool l, .slice ab m cb, .slice ai k ci] 25) ∧ W6.heap[w.heap.size + 1 + 1]? = some (.cells #[.bool l', .slice ab' m' cb', .slice ai' k' ci'] 25) ∧ ItV W6 (fun b => b < W6.heap.size) (.slice ab m cb) (.slice ai k ci) X ∧ ItV W6 (fun b => b < W6.heap.size) (.slice ab' m' cb') (.slice ai' k' ci') Y) := HW.out.1
  have hz : Hid ((Below w.heap.size w (W7.alloc (.cells #[.int .u64 s0, .int .u64 s1, .int .u64 s2, .int .u64 s3] 50)) ∧ (W7.alloc (.cells #[.int .u64 s0, .int .u64 s1, .int .u64 s2, .int .u64 s3] 50)).heap[w.heap.size]? = some (.cells #[.int .u64 a0, .int .u64 a1, .int .u64 a2, .int .u64 a3] 50) ∧ (W7.alloc (.cells #[.int .u64 s0, .int .u64 s1, .int .u64 s2, .int .u64 s3] 50)).heap[w.heap.size + 1]? = some (.cells #[.bool l, .slice ab m cb, .slice ai k ci] 25) ∧ (W7.alloc (.cells #[.int .u64 s0, .int .u64 s1, .int .u64 s2, .int .u64 s3] 50)).heap[w.heap.size + 1 + 1]? = some (.cells #[.bool l', .slice ab' m' cb', .slice ai' k' ci'] 25) ∧ ItV (W7.alloc (.cells #[.int .u64 s0, .int .u64 s1, .int .u64 s2, .int .u64 s3] 50)) (fun b => b < (W7.alloc (.cells #[.int .u64 s0, .int .u64 s1, .int .u64 s2, .int .u64 s3] 50)).heap.size) (.slice ab m cb) (.slice ai k ci) X ∧ ItV (W7.alloc (.cells #[.int .u64 s0, .int .u64 s1, .int .u64 s2, .int .u64 s3] 50)) (fun b => b < (W7.alloc (.cells #[.int .u64 s0, .int .u64 s1, .int .u64 s2, .int .u64 s3] 50)).heap.size) (.slice ab' m' cb') (.slice ai' k' ci') Y) ∧ (W7.alloc (.cells #[.int .u64 s0, .int .u64 s1, .int .u64 s2, .int .u64 s3] 50)).heap[p13]? = some (.cells #[.int .u64 s0, .int .u64 s1, .int .u64 s2, .int .u64 s3] 50) ∧ (W7.alloc (.cells #[.int .u64 s0, .int .u64 s1, .int .u64 s2, .int .u64 s3] 50)).heap[W7.heap.size]? = some (.cells #[.int .u64 s0, .int .u64 s1, .int .u64 s2, .int .u64 s3] 50)) := ⟨⟨HW1.out.1.trans (hb8.mono HW1.out.1.size), (hb8.block _ (heap_lt HW1.out.2.1)).trans HW1.out.2.1, (hb8.block _ (heap_lt HW1.out.2.2.1)).trans HW1.out.2.2.1, (hb8.block _ (heap_lt HW1.out.2.2.2.1)).trans HW1.out.2.2.2.1, HW1.out.2.2.2.2.1.up hb8, HW1.out.2.2.2.2.2.up hb8⟩, (hb8.block _ (heap_lt HW.out.2)).trans HW.out.2, heap_alloc_new _ _⟩
  clear HW HW1 hb7 hb8 hbz
  go_wp2_with fail
  generalize (W7.alloc (.cells #[.int .u64 s0, .int .u64 s1, .int .u64 s2, .int .u64 s3] 50)) = W8 at hz ⊢
  generalize W7.heap.size = p15 at hz ⊢
  have hS0 : (fun w' => w'.heap[w.heap.size]? = some (.cells #[.int .u64 a0, .int .u64 a1, .int .u64 a2, .int .u64 a3] 50) ∧ w'.heap[w.heap.size + 1]? = some (.cells #[.bool l, .slice ab m cb, .slice ai k ci] 25) ∧ w'.heap[w.heap.size + 1 + 1]? = some (.cells #[.bool l', .slice ab' m' cb', .slice ai' k' ci'] 25) ∧ w'.heap[p13]? = some (.cells #[.int .u64 s0, .int .u64 s1, .int .u64 s2, .int .u64 s3] 50) ∧ w'.heap[p15]? = some (.cells #[.int .u64 s0, .int .u64 s1, .int .u64 s2, .int .u64 s3] 50)) W8.drew := ⟨hz.out.1.2.1, hz.out.1.2.2.1, hz.out.1.2.2.2.1, hz.out.2.1, hz.out.2.2⟩
  have HI : Hid (Below w.heap.size w W8.drew ∧ ItV W8.drew (fun b => b < W8.drew.heap.size) (.slice ab m cb) (.slice ai k ci) X ∧ ItV W8.drew (fun b => b < W8.drew.heap.size) (.slice ab' m' cb') (.slice ai' k' ci') Y) := ⟨⟨hz.out.1.1.os, hz.out.1.1.tape, hz.out.1.1.output, hz.out.1.1.size, hz.out.1.1.block⟩, hz.out.1.2.2.2.2.1.mono (fun _ _ => rfl) (fun _ h => h), hz.out.1.2.2.2.2.2.mono (fun _ _ => rfl) (fun _ h => h)⟩
  clear hz
  refine wp_noP ?_
  refine wp_region_held_drew (S := (fun w' => w'.heap[w.heap.size]? = some (.cells #[.int .u64 a0, .int .u64 a1, .int .u64 a2, .int .u64 a3] 50) ∧ w'.heap[w.heap.size + 1]? = some (.cells #[.bool l, .slice ab m cb, .slice ai k ci] 25) ∧ w'.heap[w.heap.size + 1 + 1]? = some (.cells #[.bool l', .slice ab' m' cb', .slice ai' k' ci'] 25) ∧ w'.heap[p13]? = some (.cells #[.int .u64 s0, .int .u64 s1, .int .u64 s2, .int .u64 s3] 50) ∧ w'.heap[p15]? = some (.cells #[.int .u64 s0, .int .u64 s1, .int .u64 s2, .int .u64 s3] 50))) (by kernel_rfl) hS0 (fun hHeld => ?_)
  generalize W8.drew = U0 at HI hHeld ⊢
  clear hS0
  refine wpAnyH_take (i := 0) (v := .int .u64 r0) rfl (by kernel_rfl) (by kernel_rfl) (by kernel_rfl) (fun _ _ _ h => h) (Or.inl ⟨by rfl, fun w9 hSw => ?_⟩) hHeld ?_
  · go_simp
  simp only [List.getElem_toArray, List.getElem_cons_succ, List.getElem_cons_zero, Act.put, List.setIfInBounds_toArray, List.set_cons_zero, List.set_cons_succ]
  refine wpAnyH_take (i := 1) (v := .int .u64 r0) rfl (by kernel_rfl) (by kernel_rfl) (by kernel_rfl) (fun _ _ _ h => h) (Or.inl ⟨by rfl, fun w9 hSw => ?_⟩) hHeld ?_
  · go_simp
  simp only [List.getElem_toArray, List.getElem_cons_succ, List.getElem_cons_zero, Act.put, List.setIfInBounds_toArray, List.set_cons_zero, List.set_cons_succ]
  refine wpAnyH_take (i := 2) (v := .bool true) rfl (by kernel_rfl) (by kernel_rfl) (by kernel_rfl) (fun _ _ _ h => h) (Or.inl ⟨by rfl, fun w9 hSw => ?_⟩) hHeld ?_
  · go_simp
  simp only [List.getElem_toArray, List.getElem_cons_succ, List.getElem_cons_zero, Act.put, List.setIfInBounds_toArray, List.set_cons_zero, List.set_cons_succ]
  refine wpAnyH_take (i := 3) (v := .bool true) rfl (by kernel_rfl) (by kernel_rfl) (by kernel_rfl) (fun _ _ _ h => h) (Or.inl ⟨by rfl, fun w9 hSw => ?_⟩) hHeld ?_
  · go_simp
  simp only [List.getElem_toArray, List.getElem_cons_succ, List.getElem_cons_zero, Act.put, List.setIfInBounds_toArray, List.set_cons_zero, List.set_cons_succ]
  refine wpAnyH_take (i := 4) (v := .int .i64 E8) rfl (by kernel_rfl) (by kernel_rfl) (by kernel_rfl) (fun _ _ _ h => h) (Or.inl ⟨by rfl, fun w9 hSw => ?_⟩) hHeld ?_
  · go_simp
  simp only [List.getElem_toArray, List.getElem_cons_succ, List.getElem_cons_zero, Act.put, List.setIfInBounds_toArray, List.set_cons_zero, List.set_cons_succ]
  refine wpAnyH_take (i := 5) (v := .int .i64 E8) rfl (by kernel_rfl) (by kernel_rfl) (by kernel_rfl) (fun _ _ _ h => h) (Or.inl ⟨by rfl, fun w9 hSw => ?_⟩) hHeld ?_
  · go_simp
  simp only [List.getElem_toArray, List.getElem_cons_succ, List.getElem_cons_zero, Act.put, List.setIfInBounds_toArray, List.set_cons_zero, List.set_cons_succ]
  refine wpAnyH_take (i := 6) (v := .bool true) rfl (by kernel_rfl) (by kernel_rfl) (by kernel_rfl) (fun _ _ _ h => h) (Or.inl ⟨by rfl, fun w9 hSw => ?_⟩) hHeld ?_
  · go_simp
  simp only [List.getElem_toArray, List.getElem_cons_succ, List.getElem_cons_zero, Act.put, List.setIfInBounds_toArray, List.set_cons_zero, List.set_cons_succ]
  refine wpAnyH_take (i := 7) (v := .bool true) rfl (by kernel_rfl) (by kernel_rfl) (by kernel_rfl) (fun _ _ _ h => h) (Or.inl ⟨by rfl, fun w9 hSw => ?_⟩) hHeld ?_
  · go_simp
  simp only [List.getElem_toArray, List.getElem_cons_succ, List.getElem_cons_zero, Act.put, List.setIfInBounds_toArray, List.set_cons_zero, List.set_cons_succ]
  refine wpAnyH_take (i := 8) (v := .bool true) rfl (by kernel_rfl) (by kernel_rfl) (by kernel_rfl) (fun _ _ _ h => h) (Or.inl ⟨by rfl, fun w9 hSw => ?_⟩) hHeld ?_
  · go_simp
  simp only [List.getElem_toArray, List.getElem_cons_succ, List.getElem_cons_zero, Act.put, List.setIfInBounds_toArray, List.set_cons_zero, List.set_cons_succ]
  refine wpAnyH_take (i := 9) (v := .agg #[.int .u64 s0, .int .u64 s1, .int .u64 s2, .int .u64 s3]) rfl (by kernel_rfl) (by kernel_rfl) (by kernel_rfl) (fun _ _ _ h => h) (Or.inl ⟨by rfl, fun w9 hSw => ?_⟩) hHeld ?_
  · have h0 : w9.cell? ⟨p13, 0, none⟩ = some (.int .u64 s0) := (cell_of_block hSw.2.2.2.1 0).trans rfl
    have h1 : w9.cell? ⟨p13, 1, none⟩ = some (.int .u64 s1) := (cell_of_block hSw.2.2.2.1 1).trans rfl
    have h2 : w9.cell? ⟨p13, 2, none⟩ = some (.int .u64 s2) := (cell_of_block hSw.2.2.2.1 2).trans rfl
    have h3 : w9.cell? ⟨p13, 3, none⟩ = some (.int .u64 s3) := (cell_of_block hSw.2.2.2.1 3).trans rfl
    go_simp
  simp only [List.getElem_toArray, List.getElem_cons_succ, List.getElem_cons_zero, Act.put, List.setIfInBounds_toArray, List.set_cons_zero, List.set_cons_succ]
  refine wpAnyH_take (i := 10) (v := .agg #[.int .u64 s0, .int .u64 s1, .int .u64 s2, .int .u64 s3]) rfl (by kernel_rfl) (by kernel_rfl) (by kernel_rfl) (fun _ _ _ h => h) (Or.inl ⟨by rfl, fun w9 hSw => ?_⟩) hHeld ?_
  · have h0 : w9.cell? ⟨p15, 0, none⟩ = some (.int .u64 s0) := (cell_of_block hSw.2.2.2.2 0).trans rfl
    have h1 : w9.cell? ⟨p15, 1, none⟩ = some (.int .u64 s1) := (cell_of_block hSw.2.2.2.2 1).trans rfl
    have h2 : w9.cell? ⟨p15, 2, none⟩ = some (.int .u64 s2) := (cell_of_block hSw.2.2.2.2 2).trans rfl
    have h3 : w9.cell? ⟨p15, 3, none⟩ = some (.int .u64 s3) := (cell_of_block hSw.2.2.2.2 3).trans rfl
    go_simp
  simp only [List.getElem_toArray, List.getElem_cons_succ, List.getElem_cons_zero, Act.put, List.setIfInBounds_toArray, List.set_cons_zero, List.set_cons_succ]
  refine wpAnyH_take (i := 11) (v := .bool true) rfl (by kernel_rfl) (by kernel_rfl) (by kernel_rfl) (fun _ _ _ h => h) (Or.inl ⟨by rfl, fun w9 hSw => ?_⟩) hHeld ?_
  · go_simp
  simp only [List.getElem_toArray, List.getElem_cons_succ, List.getElem_cons_zero, Act.put, List.setIfInBounds_toArray, List.set_cons_zero, List.set_cons_succ]
  refine wpAnyH_take (i := 12) (v := .bool true) rfl (by kernel_rfl) (by kernel_rfl) (by kernel_rfl) (fun _ _ _ h => h) (Or.inl ⟨by rfl, fun w9 hSw => ?_⟩) hHeld ?_
  · go_simp
  simp only [List.getElem_toArray, List.getElem_cons_succ, List.getElem_cons_zero, Act.put, List.setIfInBounds_toArray, List.set_cons_zero, List.set_cons_succ]
  refine wpAnyH_take (i := 13) (v := .bool true) rfl (by kernel_rfl) (by kernel_rfl) (by kernel_rfl) (fun _ _ _ h => h) (Or.inl ⟨by rfl, fun w9 hSw => ?_⟩) hHeld ?_
  · go_simp
  simp only [List.getElem_toArray, List.getElem_cons_succ, List.getElem_cons_zero, Act.put, List.setIfInBounds_toArray, List.set_cons_zero, List.set_cons_succ]
  refine wpAnyH_take (i := 14) (v := .int .i64 E32) rfl (by kernel_rfl) (by kernel_rfl) (by kernel_rfl) (fun _ _ _ h => h) (Or.inl ⟨by rfl, fun w9 hSw => ?_⟩) hHeld ?_
  · go_simp
  simp only [List.getElem_toArray, List.getElem_cons_succ, List.getElem_cons_zero, Act.put, List.setIfInBounds_toArray, List.set_cons_zero, List.set_cons_succ]
  refine wpAnyH_take (i := 15) (v := .int .i64 E32) rfl (by kernel_rfl) (by kernel_rfl) (by kernel_rfl) (fun _ _ _ h => h) (Or.inl ⟨by rfl, fun w9 hSw => ?_⟩) hHeld ?_
  · go_simp
  simp only [List.getElem_toArray, List.getElem_cons_succ, List.getElem_cons_zero, Act.put, List.setIfInBounds_toArray, List.set_cons_zero, List.set_cons_succ]
  refine wpAnyH_take (i := 16) (v := .bool true) rfl (by kernel_rfl) (by kernel_rfl) (by kernel_rfl) (fun _ _ _ h => h) (Or.inl ⟨by rfl, fun w9 hSw => ?_⟩) hHeld ?_
  · go_simp
  simp only [List.getElem_toArray, List.getElem_cons_succ, List.getElem_cons_zero, Act.put, List.setIfInBounds_toArray, List.set_cons_zero, List.set_cons_succ]
  refine wpAnyH_take (i := 17) (v := .bool true) rfl (by kernel_rfl) (by kernel_rfl) (by kernel_rfl) (fun _ _ _ h => h) (Or.inl ⟨by rfl, fun w9 hSw => ?_⟩) hHeld ?_
  · go_simp
  simp only [List.getElem_toArray, List.getElem_cons_succ, List.getElem_cons_zero, Act.put, List.setIfInBounds_toArray, List.set_cons_zero, List.set_cons_succ]
  refine wpAnyH_take (i := 18) (v := .bool true) rfl (by kernel_rfl) (by kernel_rfl) (by kernel_rfl) (fun _ _ _ h => h) (Or.inl ⟨by rfl, fun w9 hSw => ?_⟩) hHeld ?_
  · go_simp
  simp only [List.getElem_toArray, List.getElem_cons_succ, List.getElem_cons_zero, Act.put, List.setIfInBounds_toArray, List.set_cons_zero, List.set_cons_succ]
  refine wpAnyH_take (i := 19) (v := .int .u64 n) rfl (by kernel_rfl) (by kernel_rfl) (by kernel_rfl) (fun _ _ _ h => h) (Or.inl ⟨by rfl, fun w9 hSw => ?_⟩) hHeld ?_
  · go_simp
  simp only [List.getElem_toArray, List.getElem_cons_succ, List.getElem_cons_zero, Act.put, List.setIfInBounds_toArray, List.set_cons_zero, List.set_cons_succ]
  refine wpAnyH_take (i := 22) (v := .int .u64 n) rfl (by kernel_rfl) (by kernel_rfl) (by kernel_rfl) (fun _ _ _ h => h) (Or.inl ⟨by rfl, fun w9 hSw => ?_⟩) hHeld ?_
  · go_simp
  simp only [List.getElem_toArray, List.getElem_cons_succ, List.getElem_cons_zero, Act.put, List.setIfInBounds_toArray, List.set_cons_zero, List.set_cons_succ]
  refine wpAnyH_ready (rs := [20]) (by kernel_rfl) (by simp) ?_
  refine AllReadyH.cons rfl (fun K hK => ?_) AllReadyH.nil
  have hC := C23.out U0
  go_simp
  refine Calls.mono hC ?_
  clear hC
  rintro e U1 ⟨hb7, qa, qc, rfl, hit⟩
  have hS7 : (fun w' => w'.heap[w.heap.size]? = some (.cells #[.int .u64 a0, .int .u64 a1, .int .u64 a2, .int .u64 a3] 50) ∧ w'.heap[w.heap.size + 1]? = some (.cells #[.bool l, .slice ab m cb, .slice ai k ci] 25) ∧ w'.heap[w.heap.size + 1 + 1]? = some (.cells #[.bool l', .slice ab' m' cb', .slice ai' k' ci'] 25) ∧ w'.heap[p13]? = some (.cells #[.int .u64 s0, .int .u64 s1, .int .u64 s2, .int .u64 s3] 50) ∧ w'.heap[p15]? = some (.cells #[.int .u64 s0, .int .u64 s1, .int .u64 s2, .int .u64 s3] 50)) U1 := ⟨(hb7.block _ (heap_lt hHeld.1)).trans hHeld.1, (hb7.block _ (heap_lt hHeld.2.1)).trans hHeld.2.1, (hb7.block _ (heap_lt hHeld.2.2.1)).trans hHeld.2.2.1, (hb7.block _ (heap_lt hHeld.2.2.2.1)).trans hHeld.2.2.2.1, (hb7.block _ (heap_lt hHeld.2.2.2.2)).trans hHeld.2.2.2.2⟩
  have HI7 : Hid (Below w.heap.size w U1 ∧ ItV U1 (fun b => b < U1.heap.size) (.slice ab m cb) (.slice ai k ci) X ∧ ItV U1 (fun b => b < U1.heap.size) (.slice ab' m' cb') (.slice ai' k' ci') Y ∧ ItV U1 (fun b => b < U1.heap.size) (.slice qa t1 qc) (.slice none 0 0) T1) := ⟨HI.out.1.trans (hb7.mono HI.out.1.size), (HI.out.2.1).up hb7, (HI.out.2.2).up hb7, hit⟩
  clear HI hb7
  have HI : Hid (Below w.heap.size w U1 ∧ ItV U1 (fun b => b < U1.heap.size) (.slice ab m cb) (.slice ai k ci) X ∧ ItV U1 (fun b => b < U1.heap.size) (.slice ab' m' cb') (.slice ai' k' ci') Y ∧ ItV U1 (fun b => b < U1.heap.size) (.slice qa t1 qc) (.slice none 0 0) T1) := HI7.out
  clear HI7
  refine hK.out _ _ hS7 (fun hHeld => ?_)
  clear hK K
  try simp only [List.getElem_toArray, List.getElem_cons_succ, List.getElem_cons_zero, Act.put, List.setIfInBounds_toArray, List.set_cons_zero, List.set_cons_succ]
  clear hS7
  clear hit
  refine wpAnyH_ready (rs := [21]) (by kernel_rfl) (by simp) ?_
  refine AllReadyH.cons rfl (fun K hK => ?_) AllReadyH.nil
  have hC := th_f (T := T1) (tl := false) (tk := 0) (by rw [HT.out.1]; rfl) (by rw [HT.out.1]; rfl) (HI.out.2.2.2)
  go_simp
  refine Calls.mono hC ?_
  clear hC
  rintro e U2 ⟨hb7, qa2, qc2, rfl, hit⟩
  have hS7 : (fun w' => w'.heap[w.heap.size]? = some (.cells #[.int .u64 a0, .int .u64 a1, .int .u64 a2, .int .u64 a3] 50) ∧ w'.heap[w.heap.size + 1]? = some (.cells #[.bool l, .slice ab m cb, .slice ai k ci] 25) ∧ w'.heap[w.heap.size + 1 + 1]? = some (.cells #[.bool l', .slice ab' m' cb', .slice ai' k' ci'] 25) ∧ w'.heap[p13]? = some (.cells #[.int .u64 s0, .int .u64 s1, .int .u64 s2, .int .u64 s3] 50) ∧ w'.heap[p15]? = some (.cells #[.int .u64 s0, .int .u64 s1, .int .u64 s2, .int .u64 s3] 50)) U2 := ⟨(hb7.block _ (heap_lt hHeld.1)).trans hHeld.1, (hb7.block _ (heap_lt hHeld.2.1)).trans hHeld.2.1, (hb7.block _ (heap_lt hHeld.2.2.1)).trans hHeld.2.2.1, (hb7.block _ (heap_lt hHeld.2.2.2.1)).trans hHeld.2.2.2.1, (hb7.block _ (heap_lt hHeld.2.2.2.2)).trans hHeld.2.2.2.2⟩
  have HI7 : Hid (Below w.heap.size w U2 ∧ ItV U2 (fun b => b < U2.heap.size) (.slice ab m cb) (.slice ai k ci) X ∧ ItV U2 (fun b => b < U2.heap.size) (.slice ab' m' cb') (.slice ai' k' ci') Y ∧ ItV U2 (fun b => b < U2.heap.size) (.slice qa t1 qc) (.slice qa2 0 qc2) T1) := ⟨HI.out.1.trans (hb7.mono HI.out.1.size), (HI.out.2.1).up hb7, (HI.out.2.2.1).up hb7, hit⟩
  clear HI hb7
  have HI : Hid (Below w.heap.size w U2 ∧ ItV U2 (fun b => b < U2.heap.size) (.slice ab m cb) (.slice ai k ci) X ∧ ItV U2 (fun b => b < U2.heap.size) (.slice ab' m' cb') (.slice ai' k' ci') Y ∧ ItV U2 (fun b => b < U2.heap.size) (.slice qa t1 qc) (.slice qa2 0 qc2) T1) := HI7.out
  clear HI7
  refine hK.out _ _ hS7 (fun hHeld => ?_)
  clear hK K
  try simp only [List.getElem_toArray, List.getElem_cons_succ, List.getElem_cons_zero, Act.put, List.setIfInBounds_toArray, List.set_cons_zero, List.set_cons_succ]
  clear hS7
  clear hit
  refine wpAnyH_ready (rs := [23]) (by kernel_rfl) (by simp) ?_
  refine AllReadyH.cons rfl (fun K hK => ?_) AllReadyH.nil
  have hC := C24.out U2
  go_simp
  refine Calls.mono hC ?_
  clear hC
  rintro e U3 ⟨hb7, qa3, qc3, rfl, hit⟩
  have hS7 : (fun w' => w'.heap[w.heap.size]? = some (.cells #[.int .u64 a0, .int .u64 a1, .int .u64 a2, .int .u64 a3] 50) ∧ w'.heap[w.heap.size + 1]? = some (.cells #[.bool l, .slice ab m cb, .slice ai k ci] 25) ∧ w'.heap[w.heap.size + 1 + 1]? = some (.cells #[.bool l', .slice ab' m' cb', .slice ai' k' ci'] 25) ∧ w'.heap[p13]? = some (.cells #[.int .u64 s0, .int .u64 s1, .int .u64 s2, .int .u64 s3] 50) ∧ w'.heap[p15]? = some (.cells #[.int .u64 s0, .int .u64 s1, .int .u64 s2, .int .u64 s3] 50)) U3 := ⟨(hb7.block _ (heap_lt hHeld.1)).trans hHeld.1, (hb7.block _ (heap_lt hHeld.2.1)).trans hHeld.2.1, (hb7.block _ (heap_lt hHeld.2.2.1)).trans hHeld.2.2.1, (hb7.block _ (heap_lt hHeld.2.2.2.1)).trans hHeld.2.2.2.1, (hb7.block _ (heap_lt hHeld.2.2.2.2)).trans hHeld.2.2.2.2⟩
  have HI7 : Hid (Below w.heap.size w U3 ∧ ItV U3 (fun b => b < U3.heap.size) (.slice ab m cb) (.slice ai k ci) X ∧ ItV U3 (fun b => b < U3.heap.size) (.slice ab' m' cb') (.slice ai' k' ci') Y ∧ ItV U3 (fun b => b < U3.heap.size) (.slice qa t1 qc) (.slice qa2 0 qc2) T1 ∧ ItV U3 (fun b => b < U3.heap.size) (.slice qa3 t1 qc3) (.slice none 0 0) T1) := ⟨HI.out.1.trans (hb7.mono HI.out.1.size), (HI.out.2.1).up hb7, (HI.out.2.2.1).up hb7, (HI.out.2.2.2).up hb7, hit⟩
  clear HI hb7
  have HI : Hid (Below w.heap.size w U3 ∧ ItV U3 (fun b => b < U3.heap.size) (.slice ab m cb) (.slice ai k ci) X ∧ ItV U3 (fun b => b < U3.heap.size) (.slice ab' m' cb') (.slice ai' k' ci') Y ∧ ItV U3 (fun b => b < U3.heap.size) (.slice qa t1 qc) (.slice qa2 0 qc2) T1 ∧ ItV U3 (fun b => b < U3.heap.size) (.slice qa3 t1 qc3) (.slice none 0 0) T1) := HI7.out
  clear HI7
  refine hK.out _ _ hS7 (fun hHeld => ?_)
  clear hK K
  try simp only [List.getElem_toArray, List.getElem_cons_succ, List.getElem_cons_zero, Act.put, List.setIfInBounds_toArray, List.set_cons_zero, List.set_cons_succ]
  clear hS7
  clear hit
  refine wpAnyH_ready (rs := [24]) (by kernel_rfl) (by simp) ?_
  refine AllReadyH.cons rfl (fun K hK => ?_) AllReadyH.nil
  have hC := rs_f (T := T1) (tl := false) (by rw [HT.out.1]; rfl) (HI.out.2.2.2.1) (HI.out.2.2.2.2)
  go_simp
  refine Calls.mono hC ?_
  clear hC
  rintro e U4 ⟨hb7, rfl⟩
  have hS7 : (fun w' => w'.heap[w.heap.size]? = some (.cells #[.int .u64 a0, .int .u64 a1, .int .u64 a2, .int .u64 a3] 50) ∧ w'.heap[w.heap.size + 1]? = some (.cells #[.bool l, .slice ab m cb, .slice ai k ci] 25) ∧ w'.heap[w.heap.size + 1 + 1]? = some (.cells #[.bool l', .slice ab' m' cb', .slice ai' k' ci'] 25) ∧ w'.heap[p13]? = some (.cells #[.int .u64 s0, .int .u64 s1, .int .u64 s2, .int .u64 s3] 50) ∧ w'.heap[p15]? = some (.cells #[.int .u64 s0, .int .u64 s1, .int .u64 s2, .int .u64 s3] 50)) U4 := ⟨(hb7.block _ (heap_lt hHeld.1)).trans hHeld.1, (hb7.block _ (heap_lt hHeld.2.1)).trans hHeld.2.1, (hb7.block _ (heap_lt hHeld.2.2.1)).trans hHeld.2.2.1, (hb7.block _ (heap_lt hHeld.2.2.2.1)).trans hHeld.2.2.2.1, (hb7.block _ (heap_lt hHeld.2.2.2.2)).trans hHeld.2.2.2.2⟩
  have HI7 : Hid (Below w.heap.size w U4 ∧ ItV U4 (fun b => b < U4.heap.size) (.slice ab m cb) (.slice ai k ci) X ∧ ItV U4 (fun b => b < U4.heap.size) (.slice ab' m' cb') (.slice ai' k' ci') Y) := ⟨HI.out.1.trans (hb7.mono HI.out.1.size), (HI.out.2.1).up hb7, (HI.out.2.2.1).up hb7⟩
  clear HI hb7
  have HI : Hid (Below w.heap.size w U4 ∧ ItV U4 (fun b => b < U4.heap.size) (.slice ab m cb) (.slice ai k ci) X ∧ ItV U4 (fun b => b < U4.heap.size) (.slice ab' m' cb') (.slice ai' k' ci') Y) := HI7.out
  clear HI7
  refine hK.out _ _ hS7 (fun hHeld => ?_)
  clear hK K
  try simp only [List.getElem_toArray, List.getElem_cons_succ, List.getElem_cons_zero, Act.put, List.setIfInBounds_toArray, List.set_cons_zero, List.set_cons_succ]
  clear hS7
  refine wpAnyH_take (i := 25) (v := .bool true) rfl (by kernel_rfl) (by kernel_rfl) (by kernel_rfl) (fun _ _ _ h => h) (Or.inl ⟨by rfl, fun w9 hSw => ?_⟩) hHeld ?_
  · go_simp
  simp only [List.getElem_toArray, List.getElem_cons_succ, List.getElem_cons_zero, Act.put, List.setIfInBounds_toArray, List.set_cons_zero, List.set_cons_succ]
  refine wpAnyH_take (i := 26) (v := .bool true) rfl (by kernel_rfl) (by kernel_rfl) (by kernel_rfl) (fun _ _ _ h => h) (Or.inl ⟨by rfl, fun w9 hSw => ?_⟩) hHeld ?_
  · go_simp
  simp only [List.getElem_toArray, List.getElem_cons_succ, List.getElem_cons_zero, Act.put, List.setIfInBounds_toArray, List.set_cons_zero, List.set_cons_succ]
  refine wpAnyH_take (i := 27) (v := .agg #[.int .u64 a0, .int .u64 a1, .int .u64 a2, .int .u64 a3]) rfl (by kernel_rfl) (by kernel_rfl) (by kernel_rfl) (fun _ _ _ h => h) (Or.inl ⟨by rfl, fun w9 hSw => ?_⟩) hHeld ?_
  · have h0 : w9.cell? ⟨w.heap.size, 0, none⟩ = some (.int .u64 a0) := (cell_of_block hSw.1 0).trans rfl
    have h1 : w9.cell? ⟨w.heap.size, 1, none⟩ = some (.int .u64 a1) := (cell_of_block hSw.1 1).trans rfl
    have h2 : w9.cell? ⟨w.heap.size, 2, none⟩ = some (.int .u64 a2) := (cell_of_block hSw.1 2).trans rfl
    have h3 : w9.cell? ⟨w.heap.size, 3, none⟩ = some (.int .u64 a3) := (cell_of_block hSw.1 3).trans rfl
    go_simp
  simp only [List.getElem_toArray, List.getElem_cons_succ, List.getElem_cons_zero, Act.put, List.setIfInBounds_toArray, List.set_cons_zero, List.set_cons_succ]
  refine wpAnyH_take (i := 30) (v := .agg #[.int .u64 a0, .int .u64 a1, .int .u64 a2, .int .u64 a3]) rfl (by kernel_rfl) (by kernel_rfl) (by kernel_rfl) (fun _ _ _ h => h) (Or.inl ⟨by rfl, fun w9 hSw => ?_⟩) hHeld ?_
  · have h0 : w9.cell? ⟨w.heap.size, 0, none⟩ = some (.int .u64 a0) := (cell_of_block hSw.1 0).trans rfl
    have h1 : w9.cell? ⟨w.heap.size, 1, none⟩ = some (.int .u64 a1) := (cell_of_block hSw.1 1).trans rfl
    have h2 : w9.cell? ⟨w.heap.size, 2, none⟩ = some (.int .u64 a2) := (cell_of_block hSw.1 2).trans rfl
    have h3 : w9.cell? ⟨w.heap.size, 3, none⟩ = some (.int .u64 a3) := (cell_of_block hSw.1 3).trans rfl
    go_simp
  simp only [List.getElem_toArray, List.getElem_cons_succ, List.getElem_cons_zero, Act.put, List.setIfInBounds_toArray, List.set_cons_zero, List.set_cons_succ]
  refine wpAnyH_ready (rs := [28]) (by kernel_rfl) (by simp) ?_
  refine AllReadyH.cons rfl (fun K hK => ?_) AllReadyH.nil
  have hC := C25.out U4
  go_simp
  refine Calls.mono hC ?_
  clear hC
  rintro e U5 ⟨hb7, za, zc, rfl, hit⟩
  have hS7 : (fun w' => w'.heap[w.heap.size]? = some (.cells #[.int .u64 a0, .int .u64 a1, .int .u64 a2, .int .u64 a3] 50) ∧ w'.heap[w.heap.size + 1]? = some (.cells #[.bool l, .slice ab m cb, .slice ai k ci] 25) ∧ w'.heap[w.heap.size + 1 + 1]? = some (.cells #[.bool l', .slice ab' m' cb', .slice ai' k' ci'] 25) ∧ w'.heap[p13]? = some (.cells #[.int .u64 s0, .int .u64 s1, .int .u64 s2, .int .u64 s3] 50) ∧ w'.heap[p15]? = some (.cells #[.int .u64 s0, .int .u64 s1, .int .u64 s2, .int .u64 s3] 50)) U5 := ⟨(hb7.block _ (heap_lt hHeld.1)).trans hHeld.1, (hb7.block _ (heap_lt hHeld.2.1)).trans hHeld.2.1, (hb7.block _ (heap_lt hHeld.2.2.1)).trans hHeld.2.2.1, (hb7.block _ (heap_lt hHeld.2.2.2.1)).trans hHeld.2.2.2.1, (hb7.block _ (heap_lt hHeld.2.2.2.2)).trans hHeld.2.2.2.2⟩
  have HI7 : Hid (Below w.heap.size w U5 ∧ ItV U5 (fun b => b < U5.heap.size) (.slice ab m cb) (.slice ai k ci) X ∧ ItV U5 (fun b => b < U5.heap.size) (.slice ab' m' cb') (.slice ai' k' ci') Y ∧ ItV U5 (fun b => b < U5.heap.size) (.slice za t2 zc) (.slice none 0 0) T2) := ⟨HI.out.1.trans (hb7.mono HI.out.1.size), (HI.out.2.1).up hb7, (HI.out.2.2).up hb7, hit⟩
  clear HI hb7
  have HI : Hid (Below w.heap.size w U5 ∧ ItV U5 (fun b => b < U5.heap.size) (.slice ab m cb) (.slice ai k ci) X ∧ ItV U5 (fun b => b < U5.heap.size) (.slice ab' m' cb') (.slice ai' k' ci') Y ∧ ItV U5 (fun b => b < U5.heap.size) (.slice za t2 zc) (.slice none 0 0) T2) := HI7.out
  clear HI7
  refine hK.out _ _ hS7 (fun hHeld => ?_)
  clear hK K
  try simp only [List.getElem_toArray, List.getElem_cons_succ, List.getElem_cons_zero, Act.put, List.setIfInBounds_toArray, List.set_cons_zero, List.set_cons_succ]
  clear hS7
  clear hit
  refine wpAnyH_ready (rs := [29]) (by kernel_rfl) (by simp) ?_
  refine AllReadyH.cons rfl (fun K hK => ?_) AllReadyH.nil
  have hC := th_f (T := T2) (tl := false) (tk := 0) (by rw [HT.out.2.1]; rfl) (by rw [HT.out.2.1]; rfl) (HI.out.2.2.2)
  go_simp
  refine Calls.mono hC ?_
  clear hC
  rintro e U6 ⟨hb7, za2, zc2, rfl, hit⟩
  have hS7 : (fun w' => w'.heap[w.heap.size]? = some (.cells #[.int .u64 a0, .int .u64 a1, .int .u64 a2, .int .u64 a3] 50) ∧ w'.heap[w.heap.size + 1]? = some (.cells #[.bool l, .slice ab m cb, .slice ai k ci] 25) ∧ w'.heap[w.heap.size + 1 + 1]? = some (.cells #[.bool l', .slice ab' m' cb', .slice ai' k' ci'] 25) ∧ w'.heap[p13]? = some (.cells #[.int .u64 s0, .int .u64 s1, .int .u64 s2, .int .u64 s3] 50) ∧ w'.heap[p15]? = some (.cells #[.int .u64 s0, .int .u64 s1, .int .u64 s2, .int .u64 s3] 50)) U6 := ⟨(hb7.block _ (heap_lt hHeld.1)).trans hHeld.1, (hb7.block _ (heap_lt hHeld.2.1)).trans hHeld.2.1, (hb7.block _ (heap_lt hHeld.2.2.1)).trans hHeld.2.2.1, (hb7.block _ (heap_lt hHeld.2.2.2.1)).trans hHeld.2.2.2.1, (hb7.block _ (heap_lt hHeld.2.2.2.2)).trans hHeld.2.2.2.2⟩
  have HI7 : Hid (Below w.heap.size w U6 ∧ ItV U6 (fun b => b < U6.heap.size) (.slice ab m cb) (.slice ai k ci) X ∧ ItV U6 (fun b => b < U6.heap.size) (.slice ab' m' cb') (.slice ai' k' ci') Y ∧ ItV U6 (fun b => b < U6.heap.size) (.slice za t2 zc) (.slice za2 0 zc2) T2) := ⟨HI.out.1.trans (hb7.mono HI.out.1.size), (HI.out.2.1).up hb7, (HI.out.2.2.1).up hb7, hit⟩
  clear HI hb7
  have HI : Hid (Below w.heap.size w U6 ∧ ItV U6 (fun b => b < U6.heap.size) (.slice ab m cb) (.slice ai k ci) X ∧ ItV U6 (fun b => b < U6.heap.size) (.slice ab' m' cb') (.slice ai' k' ci') Y ∧ ItV U6 (fun b => b < U6.heap.size) (.slice za t2 zc) (.slice za2 0 zc2) T2) := HI7.out
  clear HI7
  refine hK.out _ _ hS7 (fun hHeld => ?_)
  clear hK K
  try simp only [List.getElem_toArray, List.getElem_cons_succ, List.getElem_cons_zero, Act.put, List.setIfInBounds_toArray, List.set_cons_zero, List.set_cons_succ]
  clear hS7
  clear hit
  refine wpAnyH_ready (rs := [31]) (by kernel_rfl) (by simp) ?_
  refine AllReadyH.cons rfl (fun K hK => ?_) AllReadyH.nil
  have hC := C26.out U6
  go_simp
  refine Calls.mono hC ?_
  clear hC
  rintro e U7 ⟨hb7, za3, zc3, rfl, hit⟩
  have hS7 : (fun w' => w'.heap[w.heap.size]? = some (.cells #[.int .u64 a0, .int .u64 a1, .int .u64 a2, .int .u64 a3] 50) ∧ w'.heap[w.heap.size + 1]? = some (.cells #[.bool l, .slice ab m cb, .slice ai k ci] 25) ∧ w'.heap[w.heap.size + 1 + 1]? = some (.cells #[.bool l', .slice ab' m' cb', .slice ai' k' ci'] 25) ∧ w'.heap[p13]? = some (.cells #[.int .u64 s0, .int .u64 s1, .int .u64 s2, .int .u64 s3] 50) ∧ w'.heap[p15]? = some (.cells #[.int .u64 s0, .int .u64 s1, .int .u64 s2, .int .u64 s3] 50)) U7 := ⟨(hb7.block _ (heap_lt hHeld.1)).trans hHeld.1, (hb7.block _ (heap_lt hHeld.2.1)).trans hHeld.2.1, (hb7.block _ (heap_lt hHeld.2.2.1)).trans hHeld.2.2.1, (hb7.block _ (heap_lt hHeld.2.2.2.1)).trans hHeld.2.2.2.1, (hb7.block _ (heap_lt hHeld.2.2.2.2)).trans hHeld.2.2.2.2⟩
  have HI7 : Hid (Below w.heap.size w U7 ∧ ItV U7 (fun b => b < U7.heap.size) (.slice ab m cb) (.slice ai k ci) X ∧ ItV U7 (fun b => b < U7.heap.size) (.slice ab' m' cb') (.slice ai' k' ci') Y ∧ ItV U7 (fun b => b < U7.heap.size) (.slice za t2 zc) (.slice za2 0 zc2) T2 ∧ ItV U7 (fun b => b < U7.heap.size) (.slice za3 t2 zc3) (.slice none 0 0) T2) := ⟨HI.out.1.trans (hb7.mono HI.out.1.size), (HI.out.2.1).up hb7, (HI.out.2.2.1).up hb7, (HI.out.2.2.2).up hb7, hit⟩
  clear HI hb7
  have HI : Hid (Below w.heap.size w U7 ∧ ItV U7 (fun b => b < U7.heap.size) (.slice ab m cb) (.slice ai k ci) X ∧ ItV U7 (fun b => b < U7.heap.size) (.slice ab' m' cb') (.slice ai' k' ci') Y ∧ ItV U7 (fun b => b < U7.heap.size) (.slice za t2 zc) (.slice za2 0 zc2) T2 ∧ ItV U7 (fun b => b < U7.heap.size) (.slice za3 t2 zc3) (.slice none 0 0) T2) := HI7.out
  clear HI7
  refine hK.out _ _ hS7 (fun hHeld => ?_)
  clear hK K
  try simp only [List.getElem_toArray, List.getElem_cons_succ, List.getElem_cons_zero, Act.put, List.setIfInBounds_toArray, List.set_cons_zero, List.set_cons_succ]
  clear hS7
  clear hit
  refine wpAnyH_ready (rs := [32]) (by kernel_rfl) (by simp) ?_
  refine AllReadyH.cons rfl (fun K hK => ?_) AllReadyH.nil
  have hC := rs_f (T := T2) (tl := false) (by rw [HT.out.2.1]; rfl) (HI.out.2.2.2.1) (HI.out.2.2.2.2)
  go_simp
  refine Calls.mono hC ?_
  clear hC
  rintro e U8 ⟨hb7, rfl⟩
  have hS7 : (fun w' => w'.heap[w.heap.size]? = some (.cells #[.int .u64 a0, .int .u64 a1, .int .u64 a2, .int .u64 a3] 50) ∧ w'.heap[w.heap.size + 1]? = some (.cells #[.bool l, .slice ab m cb, .slice ai k ci] 25) ∧ w'.heap[w.heap.size + 1 + 1]? = some (.cells #[.bool l', .slice ab' m' cb', .slice ai' k' ci'] 25) ∧ w'.heap[p13]? = some (.cells #[.int .u64 s0, .int .u64 s1, .int .u64 s2, .int .u64 s3] 50) ∧ w'.heap[p15]? = some (.cells #[.int .u64 s0, .int .u64 s1, .int .u64 s2, .int .u64 s3] 50)) U8 := ⟨(hb7.block _ (heap_lt hHeld.1)).trans hHeld.1, (hb7.block _ (heap_lt hHeld.2.1)).trans hHeld.2.1, (hb7.block _ (heap_lt hHeld.2.2.1)).trans hHeld.2.2.1, (hb7.block _ (heap_lt hHeld.2.2.2.1)).trans hHeld.2.2.2.1, (hb7.block _ (heap_lt hHeld.2.2.2.2)).trans hHeld.2.2.2.2⟩
  have HI7 : Hid (Below w.heap.size w U8 ∧ ItV U8 (fun b => b < U8.heap.size) (.slice ab m cb) (.slice ai k ci) X ∧ ItV U8 (fun b => b < U8.heap.size) (.slice ab' m' cb') (.slice ai' k' ci') Y) := ⟨HI.out.1.trans (hb7.mono HI.out.1.size), (HI.out.2.1).up hb7, (HI.out.2.2.1).up hb7⟩
  clear HI hb7
  have HI : Hid (Below w.heap.size w U8 ∧ ItV U8 (fun b => b < U8.heap.size) (.slice ab m cb) (.slice ai k ci) X ∧ ItV U8 (fun b => b < U8.heap.size) (.slice ab' m' cb') (.slice ai' k' ci') Y) := HI7.out
  clear HI7
  refine hK.out _ _ hS7 (fun hHeld => ?_)
  clear hK K
  try simp only [List.getElem_toArray, List.getElem_cons_succ, List.getElem_cons_zero, Act.put, List.setIfInBounds_toArray, List.set_cons_zero, List.set_cons_succ]
  clear hS7
  refine wpAnyH_take (i := 33) (v := .bool true) rfl (by kernel_rfl) (by kernel_rfl) (by kernel_rfl) (fun _ _ _ h => h) (Or.inl ⟨by rfl, fun w9 hSw => ?_⟩) hHeld ?_
  · go_simp
  simp only [List.getElem_toArray, List.getElem_cons_succ, List.getElem_cons_zero, Act.put, List.setIfInBounds_toArray, List.set_cons_zero, List.set_cons_succ]
  refine wpAnyH_take (i := 34) (v := .bool true) rfl (by kernel_rfl) (by kernel_rfl) (by kernel_rfl) (fun _ _ _ h => h) (Or.inl ⟨by rfl, fun w9 hSw => ?_⟩) hHeld ?_
  · go_simp
  simp only [List.getElem_toArray, List.getElem_cons_succ, List.getElem_cons_zero, Act.put, List.setIfInBounds_toArray, List.set_cons_zero, List.set_cons_succ]
  refine wpAnyH_take (i := 35) (v := .agg #[.bool l, .slice ab m cb, .slice ai k ci]) rfl (by kernel_rfl) (by kernel_rfl) (by kernel_rfl) (fun _ _ _ h => h) (Or.inl ⟨by rfl, fun w9 hSw => ?_⟩) hHeld ?_
  · have h0 : w9.cell? ⟨w.heap.size + 1, 0, none⟩ = some (.bool l) := (cell_of_block hSw.2.1 0).trans rfl
    have h1 : w9.cell? ⟨w.heap.size + 1, 1, none⟩ = some (.slice ab m cb) := (cell_of_block hSw.2.1 1).trans rfl
    have h2 : w9.cell? ⟨w.heap.size + 1, 2, none⟩ = some (.slice ai k ci) := (cell_of_block hSw.2.1 2).trans rfl
    go_simp
  simp only [List.getElem_toArray, List.getElem_cons_succ, List.getElem_cons_zero, Act.put, List.setIfInBounds_toArray, List.set_cons_zero, List.set_cons_succ]
  refine wpAnyH_take (i := 37) (v := .agg #[.bool l', .slice ab' m' cb', .slice ai' k' ci']) rfl (by kernel_rfl) (by kernel_rfl) (by kernel_rfl) (fun _ _ _ h => h) (Or.inl ⟨by rfl, fun w9 hSw => ?_⟩) hHeld ?_
  · have h0 : w9.cell? ⟨w.heap.size + 1 + 1, 0, none⟩ = some (.bool l') := (cell_of_block hSw.2.2.1 0).trans rfl
    have h1 : w9.cell? ⟨w.heap.size + 1 + 1, 1, none⟩ = some (.slice ab' m' cb') := (cell_of_block hSw.2.2.1 1).trans rfl
    have h2 : w9.cell? ⟨w.heap.size + 1 + 1, 2, none⟩ = some (.slice ai' k' ci') := (cell_of_block hSw.2.2.1 2).trans rfl
    go_simp
  simp only [List.getElem_toArray, List.getElem_cons_succ, List.getElem_cons_zero, Act.put, List.setIfInBounds_toArray, List.set_cons_zero, List.set_cons_succ]
  refine wpAnyH_take (i := 40) (v := .agg #[.bool l, .slice ab m cb, .slice ai k ci]) rfl (by kernel_rfl) (by kernel_rfl) (by kernel_rfl) (fun _ _ _ h => h) (Or.inl ⟨by rfl, fun w9 hSw => ?_⟩) hHeld ?_
  · have h0 : w9.cell? ⟨w.heap.size + 1, 0, none⟩ = some (.bool l) := (cell_of_block hSw.2.1 0).trans rfl
    have h1 : w9.cell? ⟨w.heap.size + 1, 1, none⟩ = some (.slice ab m cb) := (cell_of_block hSw.2.1 1).trans rfl
    have h2 : w9.cell? ⟨w.heap.size + 1, 2, none⟩ = some (.slice ai k ci) := (cell_of_block hSw.2.1 2).trans rfl
    go_simp
  simp only [List.getElem_toArray, List.getElem_cons_succ, List.getElem_cons_zero, Act.put, List.setIfInBounds_toArray, List.set_cons_zero, List.set_cons_succ]
  refine wpAnyH_take (i := 41) (v := .agg #[.bool l', .slice ab' m' cb', .slice ai' k' ci']) rfl (by kernel_rfl) (by kernel_rfl) (by kernel_rfl) (fun _ _ _ h => h) (Or.inl ⟨by rfl, fun w9 hSw => ?_⟩) hHeld ?_
  · have h0 : w9.cell? ⟨w.heap.size + 1 + 1, 0, none⟩ = some (.bool l') := (cell_of_block hSw.2.2.1 0).trans rfl
    have h1 : w9.cell? ⟨w.heap.size + 1 + 1, 1, none⟩ = some (.slice ab' m' cb') := (cell_of_block hSw.2.2.1 1).trans rfl
    have h2 : w9.cell? ⟨w.heap.size + 1 + 1, 2, none⟩ = some (.slice ai' k' ci') := (cell_of_block hSw.2.2.1 2).trans rfl
    go_simp
  simp only [List.getElem_toArray, List.getElem_cons_succ, List.getElem_cons_zero, Act.put, List.setIfInBounds_toArray, List.set_cons_zero, List.set_cons_succ]
  refine wpAnyH_ready (rs := [36]) (by kernel_rfl) (by simp) ?_
  refine AllReadyH.cons rfl (fun K hK => ?_) AllReadyH.nil
  have hC := own_f HL.out.1 HL.out.2.1 (HI.out.2.1)
  go_simp
  refine Calls.mono hC ?_
  clear hC
  rintro e U9 ⟨hb7, xa, xc, rfl, hit⟩
  have hS7 : (fun w' => w'.heap[w.heap.size]? = some (.cells #[.int .u64 a0, .int .u64 a1, .int .u64 a2, .int .u64 a3] 50) ∧ w'.heap[w.heap.size + 1]? = some (.cells #[.bool l, .slice ab m cb, .slice ai k ci] 25) ∧ w'.heap[w.heap.size + 1 + 1]? = some (.cells #[.bool l', .slice ab' m' cb', .slice ai' k' ci'] 25) ∧ w'.heap[p13]? = some (.cells #[.int .u64 s0, .int .u64 s1, .int .u64 s2, .int .u64 s3] 50) ∧ w'.heap[p15]? = some (.cells #[.int .u64 s0, .int .u64 s1, .int .u64 s2, .int .u64 s3] 50)) U9 := ⟨(hb7.block _ (heap_lt hHeld.1)).trans hHeld.1, (hb7.block _ (heap_lt hHeld.2.1)).trans hHeld.2.1, (hb7.block _ (heap_lt hHeld.2.2.1)).trans hHeld.2.2.1, (hb7.block _ (heap_lt hHeld.2.2.2.1)).trans hHeld.2.2.2.1, (hb7.block _ (heap_lt hHeld.2.2.2.2)).trans hHeld.2.2.2.2⟩
  have HI7 : Hid (Below w.heap.size w U9 ∧ ItV U9 (fun b => b < U9.heap.size) (.slice ab m cb) (.slice ai k ci) X ∧ ItV U9 (fun b => b < U9.heap.size) (.slice ab' m' cb') (.slice ai' k' ci') Y ∧ ItV U9 (fun b => b < U9.heap.size) (.slice ab m cb) (.slice xa k xc) X) := ⟨HI.out.1.trans (hb7.mono HI.out.1.size), (HI.out.2.1).up hb7, (HI.out.2.2).up hb7, hit⟩
  clear HI hb7
  have HI : Hid (Below w.heap.size w U9 ∧ ItV U9 (fun b => b < U9.heap.size) (.slice ab m cb) (.slice ai k ci) X ∧ ItV U9 (fun b => b < U9.heap.size) (.slice ab' m' cb') (.slice ai' k' ci') Y ∧ ItV U9 (fun b => b < U9.heap.size) (.slice ab m cb) (.slice xa k xc) X) := HI7.out
  clear HI7
  refine hK.out _ _ hS7 (fun hHeld => ?_)
  clear hK K
  try simp only [List.getElem_toArray, List.getElem_cons_succ, List.getElem_cons_zero, Act.put, List.setIfInBounds_toArray, List.set_cons_zero, List.set_cons_succ]
  clear hS7
  clear hit
  refine wpAnyH_ready (rs := [38]) (by kernel_rfl) (by simp) ?_
  refine AllReadyH.cons rfl (fun K hK => ?_) AllReadyH.nil
  have hC := own_f HL.out.2.2.1 HL.out.2.2.2 (HI.out.2.2.1)
  go_simp
  refine Calls.mono hC ?_
  clear hC
  rintro e U10 ⟨hb7, ya, yc, rfl, hit⟩
  have hS7 : (fun w' => w'.heap[w.heap.size]? = some (.cells #[.int .u64 a0, .int .u64 a1, .int .u64 a2, .int .u64 a3] 50) ∧ w'.heap[w.heap.size + 1]? = some (.cells #[.bool l, .slice ab m cb, .slice ai k ci] 25) ∧ w'.heap[w.heap.size + 1 + 1]? = some (.cells #[.bool l', .slice ab' m' cb', .slice ai' k' ci'] 25) ∧ w'.heap[p13]? = some (.cells #[.int .u64 s0, .int .u64 s1, .int .u64 s2, .int .u64 s3] 50) ∧ w'.heap[p15]? = some (.cells #[.int .u64 s0, .int .u64 s1, .int .u64 s2, .int .u64 s3] 50)) U10 := ⟨(hb7.block _ (heap_lt hHeld.1)).trans hHeld.1, (hb7.block _ (heap_lt hHeld.2.1)).trans hHeld.2.1, (hb7.block _ (heap_lt hHeld.2.2.1)).trans hHeld.2.2.1, (hb7.block _ (heap_lt hHeld.2.2.2.1)).trans hHeld.2.2.2.1, (hb7.block _ (heap_lt hHeld.2.2.2.2)).trans hHeld.2.2.2.2⟩
  have HI7 : Hid (Below w.heap.size w U10 ∧ ItV U10 (fun b => b < U10.heap.size) (.slice ab m cb) (.slice ai k ci) X ∧ ItV U10 (fun b => b < U10.heap.size) (.slice ab' m' cb') (.slice ai' k' ci') Y ∧ ItV U10 (fun b => b < U10.heap.size) (.slice ab m cb) (.slice xa k xc) X ∧ ItV U10 (fun b => b < U10.heap.size) (.slice ab' m' cb') (.slice ya k' yc) Y) := ⟨HI.out.1.trans (hb7.mono HI.out.1.size), (HI.out.2.1).up hb7, (HI.out.2.2.1).up hb7, (HI.out.2.2.2).up hb7, hit⟩
  clear HI hb7
  have HI : Hid (Below w.heap.size w U10 ∧ ItV U10 (fun b => b < U10.heap.size) (.slice ab m cb) (.slice ai k ci) X ∧ ItV U10 (fun b => b < U10.heap.size) (.slice ab' m' cb') (.slice ai' k' ci') Y ∧ ItV U10 (fun b => b < U10.heap.size) (.slice ab m cb) (.slice xa k xc) X ∧ ItV U10 (fun b => b < U10.heap.size) (.slice ab' m' cb') (.slice ya k' yc) Y) := HI7.out
  clear HI7
  refine hK.out _ _ hS7 (fun hHeld => ?_)
  clear hK K
  try simp only [List.getElem_toArray, List.getElem_cons_succ, List.getElem_cons_zero, Act.put, List.setIfInBounds_toArray, List.set_cons_zero, List.set_cons_succ]
  clear hS7
  clear hit
  refine wpAnyH_ready (rs := [39]) (by kernel_rfl) (by simp) ?_
  refine AllReadyH.cons rfl (fun K hK => ?_) AllReadyH.nil
  have hC := (show Calls Try.prog 27 #[.agg #[.bool l, .slice ab m cb, .slice xa k xc], .agg #[.bool l', .slice ab' m' cb', .slice ya k' yc]] U10 fun e w' => Below U10.heap.size U10 w' ∧ BR (X = Y) e from by rw [HL.out.1, HL.out.2.2.1]; exact same_any X Y U10 _ _ _ _ (HI.out.2.2.2.1) (HI.out.2.2.2.2) HBT.out.1 HBT.out.2)
  go_simp
  refine Calls.mono hC ?_
  clear hC
  rintro e U11 ⟨hb7, rA, rfl, hrA⟩
  have hS7 : (fun w' => w'.heap[w.heap.size]? = some (.cells #[.int .u64 a0, .int .u64 a1, .int .u64 a2, .int .u64 a3] 50) ∧ w'.heap[w.heap.size + 1]? = some (.cells #[.bool l, .slice ab m cb, .slice ai k ci] 25) ∧ w'.heap[w.heap.size + 1 + 1]? = some (.cells #[.bool l', .slice ab' m' cb', .slice ai' k' ci'] 25) ∧ w'.heap[p13]? = some (.cells #[.int .u64 s0, .int .u64 s1, .int .u64 s2, .int .u64 s3] 50) ∧ w'.heap[p15]? = some (.cells #[.int .u64 s0, .int .u64 s1, .int .u64 s2, .int .u64 s3] 50)) U11 := ⟨(hb7.block _ (heap_lt hHeld.1)).trans hHeld.1, (hb7.block _ (heap_lt hHeld.2.1)).trans hHeld.2.1, (hb7.block _ (heap_lt hHeld.2.2.1)).trans hHeld.2.2.1, (hb7.block _ (heap_lt hHeld.2.2.2.1)).trans hHeld.2.2.2.1, (hb7.block _ (heap_lt hHeld.2.2.2.2)).trans hHeld.2.2.2.2⟩
  have HI7 : Hid (Below w.heap.size w U11 ∧ ItV U11 (fun b => b < U11.heap.size) (.slice ab m cb) (.slice ai k ci) X ∧ ItV U11 (fun b => b < U11.heap.size) (.slice ab' m' cb') (.slice ai' k' ci') Y) := ⟨HI.out.1.trans (hb7.mono HI.out.1.size), (HI.out.2.1).up hb7, (HI.out.2.2.1).up hb7⟩
  clear HI hb7
  have HI : Hid (Below w.heap.size w U11 ∧ ItV U11 (fun b => b < U11.heap.size) (.slice ab m cb) (.slice ai k ci) X ∧ ItV U11 (fun b => b < U11.heap.size) (.slice ab' m' cb') (.slice ai' k' ci') Y) := HI7.out
  clear HI7
  refine hK.out _ _ hS7 (fun hHeld => ?_)
  clear hK K
  try simp only [List.getElem_toArray, List.getElem_cons_succ, List.getElem_cons_zero, Act.put, List.setIfInBounds_toArray, List.set_cons_zero, List.set_cons_succ]
  clear hS7
  have HrA : Hid (rA = true ↔ X = Y) := hrA
  clear hrA
  refine wpAnyH_ready (rs := [42]) (by kernel_rfl) (by simp) ?_
  refine AllReadyH.cons rfl (fun K hK => ?_) AllReadyH.nil
  have hC := (show Calls Try.prog 17 #[.agg #[.bool l, .slice ab m cb, .slice ai k ci], .agg #[.bool l', .slice ab' m' cb', .slice ai' k' ci']] U11 fun e w' => Below U11.heap.size U11 w' ∧ BR (X = Y) e from by rw [HL.out.1, HL.out.2.2.1]; exact rsame_any X Y U11 _ _ _ _ (HI.out.2.1) (HI.out.2.2) HBT.out.1 HBT.out.2)
  go_simp
  refine Calls.mono hC ?_
  clear hC
  rintro e U12 ⟨hb7, rB, rfl, hrB⟩
  have hS7 : (fun w' => w'.heap[w.heap.size]? = some (.cells #[.int .u64 a0, .int .u64 a1, .int .u64 a2, .int .u64 a3] 50) ∧ w'.heap[w.heap.size + 1]? = some (.cells #[.bool l, .slice ab m cb, .slice ai k ci] 25) ∧ w'.heap[w.heap.size + 1 + 1]? = some (.cells #[.bool l', .slice ab' m' cb', .slice ai' k' ci'] 25) ∧ w'.heap[p13]? = some (.cells #[.int .u64 s0, .int .u64 s1, .int .u64 s2, .int .u64 s3] 50) ∧ w'.heap[p15]? = some (.cells #[.int .u64 s0, .int .u64 s1, .int .u64 s2, .int .u64 s3] 50)) U12 := ⟨(hb7.block _ (heap_lt hHeld.1)).trans hHeld.1, (hb7.block _ (heap_lt hHeld.2.1)).trans hHeld.2.1, (hb7.block _ (heap_lt hHeld.2.2.1)).trans hHeld.2.2.1, (hb7.block _ (heap_lt hHeld.2.2.2.1)).trans hHeld.2.2.2.1, (hb7.block _ (heap_lt hHeld.2.2.2.2)).trans hHeld.2.2.2.2⟩
  have HI7 : Hid (Below w.heap.size w U12 ∧ ItV U12 (fun b => b < U12.heap.size) (.slice ab m cb) (.slice ai k ci) X ∧ ItV U12 (fun b => b < U12.heap.size) (.slice ab' m' cb') (.slice ai' k' ci') Y) := ⟨HI.out.1.trans (hb7.mono HI.out.1.size), (HI.out.2.1).up hb7, (HI.out.2.2).up hb7⟩
  clear HI hb7
  have HI : Hid (Below w.heap.size w U12 ∧ ItV U12 (fun b => b < U12.heap.size) (.slice ab m cb) (.slice ai k ci) X ∧ ItV U12 (fun b => b < U12.heap.size) (.slice ab' m' cb') (.slice ai' k' ci') Y) := HI7.out
  clear HI7
  refine hK.out _ _ hS7 (fun hHeld => ?_)
  clear hK K
  try simp only [List.getElem_toArray, List.getElem_cons_succ, List.getElem_cons_zero, Act.put, List.setIfInBounds_toArray, List.set_cons_zero, List.set_cons_succ]
  clear hS7
  obtain rfl : rA = rB := by
    have h1 := HrA.out
    rw [← hrB] at h1
    cases rA <;> cases rB <;> simp_all
  have hrr : (rA == rA) = true := by simp
  clear HrA hrB
  refine wpAnyH_take (i := 43) (v := .bool true) rfl (by kernel_rfl) (by kernel_rfl) (by kernel_rfl) (fun _ _ _ h => h) (Or.inl ⟨by rfl, fun w9 hSw => ?_⟩) hHeld ?_
  · go_simp
  simp only [List.getElem_toArray, List.getElem_cons_succ, List.getElem_cons_zero, Act.put, List.setIfInBounds_toArray, List.set_cons_zero, List.set_cons_succ]
  refine wpAnyH_take (i := 44) (v := .bool true) rfl (by kernel_rfl) (by kernel_rfl) (by kernel_rfl) (fun _ _ _ h => h) (Or.inl ⟨by rfl, fun w9 hSw => ?_⟩) hHeld ?_
  · go_simp
  simp only [List.getElem_toArray, List.getElem_cons_succ, List.getElem_cons_zero, Act.put, List.setIfInBounds_toArray, List.set_cons_zero, List.set_cons_succ]
  refine wpAnyH_take (i := 45) (v := .bool true) rfl (by kernel_rfl) (by kernel_rfl) (by kernel_rfl) (fun _ _ _ h => h) (Or.inl ⟨by rfl, fun w9 hSw => ?_⟩) hHeld ?_
  · go_simp
  simp only [List.getElem_toArray, List.getElem_cons_succ, List.getElem_cons_zero, Act.put, List.setIfInBounds_toArray, List.set_cons_zero, List.set_cons_succ]
  refine wpAnyH_take (i := 46) (v := .agg #[.bool l, .slice ab m cb, .slice ai k ci]) rfl (by kernel_rfl) (by kernel_rfl) (by kernel_rfl) (fun _ _ _ h => h) (Or.inl ⟨by rfl, fun w9 hSw => ?_⟩) hHeld ?_
  · have h0 : w9.cell? ⟨w.heap.size + 1, 0, none⟩ = some (.bool l) := (cell_of_block hSw.2.1 0).trans rfl
    have h1 : w9.cell? ⟨w.heap.size + 1, 1, none⟩ = some (.slice ab m cb) := (cell_of_block hSw.2.1 1).trans rfl
    have h2 : w9.cell? ⟨w.heap.size + 1, 2, none⟩ = some (.slice ai k ci) := (cell_of_block hSw.2.1 2).trans rfl
    go_simp
  simp only [List.getElem_toArray, List.getElem_cons_succ, List.getElem_cons_zero, Act.put, List.setIfInBounds_toArray, List.set_cons_zero, List.set_cons_succ]
  refine wpAnyH_take (i := 48) (v := .agg #[.bool l', .slice ab' m' cb', .slice ai' k' ci']) rfl (by kernel_rfl) (by kernel_rfl) (by kernel_rfl) (fun _ _ _ h => h) (Or.inl ⟨by rfl, fun w9 hSw => ?_⟩) hHeld ?_
  · have h0 : w9.cell? ⟨w.heap.size + 1 + 1, 0, none⟩ = some (.bool l') := (cell_of_block hSw.2.2.1 0).trans rfl
    have h1 : w9.cell? ⟨w.heap.size + 1 + 1, 1, none⟩ = some (.slice ab' m' cb') := (cell_of_block hSw.2.2.1 1).trans rfl
    have h2 : w9.cell? ⟨w.heap.size + 1 + 1, 2, none⟩ = some (.slice ai' k' ci') := (cell_of_block hSw.2.2.1 2).trans rfl
    go_simp
  simp only [List.getElem_toArray, List.getElem_cons_succ, List.getElem_cons_zero, Act.put, List.setIfInBounds_toArray, List.set_cons_zero, List.set_cons_succ]
  refine wpAnyH_take (i := 53) (v := .agg #[.bool l, .slice ab m cb, .slice ai k ci]) rfl (by kernel_rfl) (by kernel_rfl) (by kernel_rfl) (fun _ _ _ h => h) (Or.inl ⟨by rfl, fun w9 hSw => ?_⟩) hHeld ?_
  · have h0 : w9.cell? ⟨w.heap.size + 1, 0, none⟩ = some (.bool l) := (cell_of_block hSw.2.1 0).trans rfl
    have h1 : w9.cell? ⟨w.heap.size + 1, 1, none⟩ = some (.slice ab m cb) := (cell_of_block hSw.2.1 1).trans rfl
    have h2 : w9.cell? ⟨w.heap.size + 1, 2, none⟩ = some (.slice ai k ci) := (cell_of_block hSw.2.1 2).trans rfl
    go_simp
  simp only [List.getElem_toArray, List.getElem_cons_succ, List.getElem_cons_zero, Act.put, List.setIfInBounds_toArray, List.set_cons_zero, List.set_cons_succ]
  refine wpAnyH_take (i := 54) (v := .agg #[.bool l', .slice ab' m' cb', .slice ai' k' ci']) rfl (by kernel_rfl) (by kernel_rfl) (by kernel_rfl) (fun _ _ _ h => h) (Or.inl ⟨by rfl, fun w9 hSw => ?_⟩) hHeld ?_
  · have h0 : w9.cell? ⟨w.heap.size + 1 + 1, 0, none⟩ = some (.bool l') := (cell_of_block hSw.2.2.1 0).trans rfl
    have h1 : w9.cell? ⟨w.heap.size + 1 + 1, 1, none⟩ = some (.slice ab' m' cb') := (cell_of_block hSw.2.2.1 1).trans rfl
    have h2 : w9.cell? ⟨w.heap.size + 1 + 1, 2, none⟩ = some (.slice ai' k' ci') := (cell_of_block hSw.2.2.1 2).trans rfl
    go_simp
  simp only [List.getElem_toArray, List.getElem_cons_succ, List.getElem_cons_zero, Act.put, List.setIfInBounds_toArray, List.set_cons_zero, List.set_cons_succ]
  refine wpAnyH_ready (rs := [47, 55]) (by kernel_rfl) (by simp) ?_
  refine AllReadyH.cons rfl (fun K hK => ?_) (AllReadyH.cons rfl (fun K hK => ?_) AllReadyH.nil)
  · have hC := own_f HL.out.1 HL.out.2.1 (HI.out.2.1)
    go_simp
    refine Calls.mono hC ?_
    clear hC
    rintro e U13 ⟨hb7, ua, uc, rfl, hit⟩
    have hS7 : (fun w' => w'.heap[w.heap.size]? = some (.cells #[.int .u64 a0, .int .u64 a1, .int .u64 a2, .int .u64 a3] 50) ∧ w'.heap[w.heap.size + 1]? = some (.cells #[.bool l, .slice ab m cb, .slice ai k ci] 25) ∧ w'.heap[w.heap.size + 1 + 1]? = some (.cells #[.bool l', .slice ab' m' cb', .slice ai' k' ci'] 25) ∧ w'.heap[p13]? = some (.cells #[.int .u64 s0, .int .u64 s1, .int .u64 s2, .int .u64 s3] 50) ∧ w'.heap[p15]? = some (.cells #[.int .u64 s0, .int .u64 s1, .int .u64 s2, .int .u64 s3] 50)) U13 := ⟨(hb7.block _ (heap_lt hHeld.1)).trans hHeld.1, (hb7.block _ (heap_lt hHeld.2.1)).trans hHeld.2.1, (hb7.block _ (heap_lt hHeld.2.2.1)).trans hHeld.2.2.1, (hb7.block _ (heap_lt hHeld.2.2.2.1)).trans hHeld.2.2.2.1, (hb7.block _ (heap_lt hHeld.2.2.2.2)).trans hHeld.2.2.2.2⟩
    have HI7 : Hid (Below w.heap.size w U13 ∧ ItV U13 (fun b => b < U13.heap.size) (.slice ab m cb) (.slice ai k ci) X ∧ ItV U13 (fun b => b < U13.heap.size) (.slice ab' m' cb') (.slice ai' k' ci') Y ∧ ItV U13 (fun b => b < U13.heap.size) (.slice ab m cb) (.slice ua k uc) X) := ⟨HI.out.1.trans (hb7.mono HI.out.1.size), (HI.out.2.1).up hb7, (HI.out.2.2).up hb7, hit⟩
    clear HI hb7
    have HI : Hid (Below w.heap.size w U13 ∧ ItV U13 (fun b => b < U13.heap.size) (.slice ab m cb) (.slice ai k ci) X ∧ ItV U13 (fun b => b < U13.heap.size) (.slice ab' m' cb') (.slice ai' k' ci') Y ∧ ItV U13 (fun b => b < U13.heap.size) (.slice ab m cb) (.slice ua k uc) X) := HI7.out
    clear HI7
    refine hK.out _ _ hS7 (fun hHeld => ?_)
    clear hK K
    try simp only [List.getElem_toArray, List.getElem_cons_succ, List.getElem_cons_zero, Act.put, List.setIfInBounds_toArray, List.set_cons_zero, List.set_cons_succ]
    clear hS7
    clear hit
    refine wpAnyH_ready (rs := [49, 55]) (by kernel_rfl) (by simp) ?_
    refine AllReadyH.cons rfl (fun K hK => ?_) (AllReadyH.cons rfl (fun K hK => ?_) AllReadyH.nil)
    · have hC := own_f HL.out.2.2.1 HL.out.2.2.2 (HI.out.2.2.1)
      go_simp
      refine Calls.mono hC ?_
      clear hC
      rintro e U14 ⟨hb7, va, vc, rfl, hit⟩
      have hS7 : (fun w' => w'.heap[w.heap.size]? = some (.cells #[.int .u64 a0, .int .u64 a1, .int .u64 a2, .int .u64 a3] 50) ∧ w'.heap[w.heap.size + 1]? = some (.cells #[.bool l, .slice ab m cb, .slice ai k ci] 25) ∧ w'.heap[w.heap.size + 1 + 1]? = some (.cells #[.bool l', .slice ab' m' cb', .slice ai' k' ci'] 25) ∧ w'.heap[p13]? = some (.cells #[.int .u64 s0, .int .u64 s1, .int .u64 s2, .int .u64 s3] 50) ∧ w'.heap[p15]? = some (.cells #[.int .u64 s0, .int .u64 s1, .int .u64 s2, .int .u64 s3] 50)) U14 := ⟨(hb7.block _ (heap_lt hHeld.1)).trans hHeld.1, (hb7.block _ (heap_lt hHeld.2.1)).trans hHeld.2.1, (hb7.block _ (heap_lt hHeld.2.2.1)).trans hHeld.2.2.1, (hb7.block _ (heap_lt hHeld.2.2.2.1)).trans hHeld.2.2.2.1, (hb7.block _ (heap_lt hHeld.2.2.2.2)).trans hHeld.2.2.2.2⟩
      have HI7 : Hid (Below w.heap.size w U14 ∧ ItV U14 (fun b => b < U14.heap.size) (.slice ab m cb) (.slice ai k ci) X ∧ ItV U14 (fun b => b < U14.heap.size) (.slice ab' m' cb') (.slice ai' k' ci') Y ∧ ItV U14 (fun b => b < U14.heap.size) (.slice ab m cb) (.slice ua k uc) X ∧ ItV U14 (fun b => b < U14.heap.size) (.slice ab' m' cb') (.slice va k' vc) Y) := ⟨HI.out.1.trans (hb7.mono HI.out.1.size), (HI.out.2.1).up hb7, (HI.out.2.2.1).up hb7, (HI.out.2.2.2).up hb7, hit⟩
      clear HI hb7
      have HI : Hid (Below w.heap.size w U14 ∧ ItV U14 (fun b => b < U14.heap.size) (.slice ab m cb) (.slice ai k ci) X ∧ ItV U14 (fun b => b < U14.heap.size) (.slice ab' m' cb') (.slice ai' k' ci') Y ∧ ItV U14 (fun b => b < U14.heap.size) (.slice ab m cb) (.slice ua k uc) X ∧ ItV U14 (fun b => b < U14.heap.size) (.slice ab' m' cb') (.slice va k' vc) Y) := HI7.out
      clear HI7
      refine hK.out _ _ hS7 (fun hHeld => ?_)
      clear hK K
      try simp only [List.getElem_toArray, List.getElem_cons_succ, List.getElem_cons_zero, Act.put, List.setIfInBounds_toArray, List.set_cons_zero, List.set_cons_succ]
      clear hS7
      clear hit
      refine wpAnyH_ready (rs := [50, 55]) (by kernel_rfl) (by simp) ?_
      refine AllReadyH.cons rfl (fun K hK => ?_) (AllReadyH.cons rfl (fun K hK => ?_) AllReadyH.nil)
      · go_simp
        have hb7 : Below U14.heap.size U14 (U14.alloc (.cells #[.bool l, .slice ab m cb, .slice ua k uc, .bool l', .slice ab' m' cb', .slice va k' vc] 31)) := by go_grown
        have hS7 : (fun w' => w'.heap[w.heap.size]? = some (.cells #[.int .u64 a0, .int .u64 a1, .int .u64 a2, .int .u64 a3] 50) ∧ w'.heap[w.heap.size + 1]? = some (.cells #[.bool l, .slice ab m cb, .slice ai k ci] 25) ∧ w'.heap[w.heap.size + 1 + 1]? = some (.cells #[.bool l', .slice ab' m' cb', .slice ai' k' ci'] 25) ∧ w'.heap[p13]? = some (.cells #[.int .u64 s0, .int .u64 s1, .int .u64 s2, .int .u64 s3] 50) ∧ w'.heap[p15]? = some (.cells #[.int .u64 s0, .int .u64 s1, .int .u64 s2, .int .u64 s3] 50)) (U14.alloc (.cells #[.bool l, .slice ab m cb, .slice ua k uc, .bool l', .slice ab' m' cb', .slice va k' vc] 31)) := ⟨(hb7.block _ (heap_lt hHeld.1)).trans hHeld.1, (hb7.block _ (heap_lt hHeld.2.1)).trans hHeld.2.1, (hb7.block _ (heap_lt hHeld.2.2.1)).trans hHeld.2.2.1, (hb7.block _ (heap_lt hHeld.2.2.2.1)).trans hHeld.2.2.2.1, (hb7.block _ (heap_lt hHeld.2.2.2.2)).trans hHeld.2.2.2.2⟩
        have hit := two_its X Y (HI.out.2.2.2.1) (HI.out.2.2.2.2)
        rw [← HL.out.1, ← HL.out.2.2.1] at hit
        have HI7 : Hid (Below w.heap.size w (U14.alloc (.cells #[.bool l, .slice ab m cb, .slice ua k uc, .bool l', .slice ab' m' cb', .slice va k' vc] 31)) ∧ ItV (U14.alloc (.cells #[.bool l, .slice ab m cb, .slice ua k uc, .bool l', .slice ab' m' cb', .slice va k' vc] 31)) (fun b => b < (U14.alloc (.cells #[.bool l, .slice ab m cb, .slice ua k uc, .bool l', .slice ab' m' cb', .slice va k' vc] 31)).heap.size) (.slice ab m cb) (.slice ai k ci) X ∧ ItV (U14.alloc (.cells #[.bool l, .slice ab m cb, .slice ua k uc, .bool l', .slice ab' m' cb', .slice va k' vc] 31)) (fun b => b < (U14.alloc (.cells #[.bool l, .slice ab m cb, .slice ua k uc, .bool l', .slice ab' m' cb', .slice va k' vc] 31)).heap.size) (.slice ab' m' cb') (.slice ai' k' ci') Y ∧ ItsV (U14.alloc (.cells #[.bool l, .slice ab m cb, .slice ua k uc, .bool l', .slice ab' m' cb', .slice va k' vc] 31)) (fun b => b < (U14.alloc (.cells #[.bool l, .slice ab m cb, .slice ua k uc, .bool l', .slice ab' m' cb', .slice va k' vc] 31)).heap.size) (.slice (some ⟨U14.heap.size, 0, none⟩) 2 2) [X, Y]) := ⟨HI.out.1.trans (hb7.mono HI.out.1.size), (HI.out.2.1).up hb7, (HI.out.2.2.1).up hb7, hit⟩
        clear HI hb7 hit
        have HI : Hid (Below w.heap.size w (U14.alloc (.cells #[.bool l, .slice ab m cb, .slice ua k uc, .bool l', .slice ab' m' cb', .slice va k' vc] 31)) ∧ ItV (U14.alloc (.cells #[.bool l, .slice ab m cb, .slice ua k uc, .bool l', .slice ab' m' cb', .slice va k' vc] 31)) (fun b => b < (U14.alloc (.cells #[.bool l, .slice ab m cb, .slice ua k uc, .bool l', .slice ab' m' cb', .slice va k' vc] 31)).heap.size) (.slice ab m cb) (.slice ai k ci) X ∧ ItV (U14.alloc (.cells #[.bool l, .slice ab m cb, .slice ua k uc, .bool l', .slice ab' m' cb', .slice va k' vc] 31)) (fun b => b < (U14.alloc (.cells #[.bool l, .slice ab m cb, .slice ua k uc, .bool l', .slice ab' m' cb', .slice va k' vc] 31)).heap.size) (.slice ab' m' cb') (.slice ai' k' ci') Y ∧ ItsV (U14.alloc (.cells #[.bool l, .slice ab m cb, .slice ua k uc, .bool l', .slice ab' m' cb', .slice va k' vc] 31)) (fun b => b < (U14.alloc (.cells #[.bool l, .slice ab m cb, .slice ua k uc, .bool l', .slice ab' m' cb', .slice va k' vc] 31)).heap.size) (.slice (some ⟨U14.heap.size, 0, none⟩) 2 2) [X, Y]) := HI7.out
        clear HI7
        obtain ⟨gl, hgl⟩ : ∃ gl, gl = U14.heap.size := ⟨_, rfl⟩
        rw [← hgl] at HI ⊢
        clear hgl
        refine hK.out _ _ hS7 (fun hHeld => ?_)
        clear hK K
        try simp only [List.getElem_toArray, List.getElem_cons_succ, List.getElem_cons_zero, Act.put, List.setIfInBounds_toArray, List.set_cons_zero, List.set_cons_succ]
        clear hS7
        generalize (U14.alloc (.cells #[.bool l, .slice ab m cb, .slice ua k uc, .bool l', .slice ab' m' cb', .slice va k' vc] 31)) = U15 at HI hHeld ⊢
        refine wpAnyH_ready (rs := [51, 55]) (by kernel_rfl) (by simp) ?_
        refine AllReadyH.cons rfl (fun K hK => ?_) (AllReadyH.cons rfl (fun K hK => ?_) AllReadyH.nil)
        · have hC := C28.out U15 _ (HI.out.2.2.2)
          go_simp
          refine Calls.mono hC ?_
          clear hC
          rintro e U16 ⟨hb7, la, lc, rfl, hit⟩
          have hS7 : (fun w' => w'.heap[w.heap.size]? = some (.cells #[.int .u64 a0, .int .u64 a1, .int .u64 a2, .int .u64 a3] 50) ∧ w'.heap[w.heap.size + 1]? = some (.cells #[.bool l, .slice ab m cb, .slice ai k ci] 25) ∧ w'.heap[w.heap.size + 1 + 1]? = some (.cells #[.bool l', .slice ab' m' cb', .slice ai' k' ci'] 25) ∧ w'.heap[p13]? = some (.cells #[.int .u64 s0, .int .u64 s1, .int .u64 s2, .int .u64 s3] 50) ∧ w'.heap[p15]? = some (.cells #[.int .u64 s0, .int .u64 s1, .int .u64 s2, .int .u64 s3] 50)) U16 := ⟨(hb7.block _ (heap_lt hHeld.1)).trans hHeld.1, (hb7.block _ (heap_lt hHeld.2.1)).trans hHeld.2.1, (hb7.block _ (heap_lt hHeld.2.2.1)).trans hHeld.2.2.1, (hb7.block _ (heap_lt hHeld.2.2.2.1)).trans hHeld.2.2.2.1, (hb7.block _ (heap_lt hHeld.2.2.2.2)).trans hHeld.2.2.2.2⟩
          have HI7 : Hid (Below w.heap.size w U16 ∧ ItV U16 (fun b => b < U16.heap.size) (.slice ab m cb) (.slice ai k ci) X ∧ ItV U16 (fun b => b < U16.heap.size) (.slice ab' m' cb') (.slice ai' k' ci') Y ∧ ItV U16 (fun b => b < U16.heap.size) (.slice none 0 0) (.slice la 2 lc) T3) := ⟨HI.out.1.trans (hb7.mono HI.out.1.size), (HI.out.2.1).up hb7, (HI.out.2.2.1).up hb7, hit⟩
          clear HI hb7
          have HI : Hid (Below w.heap.size w U16 ∧ ItV U16 (fun b => b < U16.heap.size) (.slice ab m cb) (.slice ai k ci) X ∧ ItV U16 (fun b => b < U16.heap.size) (.slice ab' m' cb') (.slice ai' k' ci') Y ∧ ItV U16 (fun b => b < U16.heap.size) (.slice none 0 0) (.slice la 2 lc) T3) := HI7.out
          clear HI7
          refine hK.out _ _ hS7 (fun hHeld => ?_)
          clear hK K
          try simp only [List.getElem_toArray, List.getElem_cons_succ, List.getElem_cons_zero, Act.put, List.setIfInBounds_toArray, List.set_cons_zero, List.set_cons_succ]
          clear hS7
          clear hit
          refine wpAnyH_ready (rs := [52, 55]) (by kernel_rfl) (by simp) ?_
          refine AllReadyH.cons rfl (fun K hK => ?_) (AllReadyH.cons rfl (fun K hK => ?_) AllReadyH.nil)
          · have hC := th_f (T := T3) (tl := true) (tk := 2) (by rw [HT.out.2.2]; rfl) (by rw [HT.out.2.2]; rfl) (HI.out.2.2.2)
            go_simp
            refine Calls.mono hC ?_
            clear hC
            rintro e U17 ⟨hb7, ma, mc, rfl, hit⟩
            have hS7 : (fun w' => w'.heap[w.heap.size]? = some (.cells #[.int .u64 a0, .int .u64 a1, .int .u64 a2, .int .u64 a3] 50) ∧ w'.heap[w.heap.size + 1]? = some (.cells #[.bool l, .slice ab m cb, .slice ai k ci] 25) ∧ w'.heap[w.heap.size + 1 + 1]? = some (.cells #[.bool l', .slice ab' m' cb', .slice ai' k' ci'] 25) ∧ w'.heap[p13]? = some (.cells #[.int .u64 s0, .int .u64 s1, .int .u64 s2, .int .u64 s3] 50) ∧ w'.heap[p15]? = some (.cells #[.int .u64 s0, .int .u64 s1, .int .u64 s2, .int .u64 s3] 50)) U17 := ⟨(hb7.block _ (heap_lt hHeld.1)).trans hHeld.1, (hb7.block _ (heap_lt hHeld.2.1)).trans hHeld.2.1, (hb7.block _ (heap_lt hHeld.2.2.1)).trans hHeld.2.2.1, (hb7.block _ (heap_lt hHeld.2.2.2.1)).trans hHeld.2.2.2.1, (hb7.block _ (heap_lt hHeld.2.2.2.2)).trans hHeld.2.2.2.2⟩
            have HI7 : Hid (Below w.heap.size w U17 ∧ ItV U17 (fun b => b < U17.heap.size) (.slice ab m cb) (.slice ai k ci) X ∧ ItV U17 (fun b => b < U17.heap.size) (.slice ab' m' cb') (.slice ai' k' ci') Y ∧ ItV U17 (fun b => b < U17.heap.size) (.slice none 0 0) (.slice ma 2 mc) T3) := ⟨HI.out.1.trans (hb7.mono HI.out.1.size), (HI.out.2.1).up hb7, (HI.out.2.2.1).up hb7, hit⟩
            clear HI hb7
            have HI : Hid (Below w.heap.size w U17 ∧ ItV U17 (fun b => b < U17.heap.size) (.slice ab m cb) (.slice ai k ci) X ∧ ItV U17 (fun b => b < U17.heap.size) (.slice ab' m' cb') (.slice ai' k' ci') Y ∧ ItV U17 (fun b => b < U17.heap.size) (.slice none 0 0) (.slice ma 2 mc) T3) := HI7.out
            clear HI7
            refine hK.out _ _ hS7 (fun hHeld => ?_)
            clear hK K
            try simp only [List.getElem_toArray, List.getElem_cons_succ, List.getElem_cons_zero, Act.put, List.setIfInBounds_toArray, List.set_cons_zero, List.set_cons_succ]
            clear hS7
            clear hit
            refine wpAnyH_ready (rs := [55]) (by kernel_rfl) (by simp) ?_
            refine AllReadyH.cons rfl (fun K hK => ?_) AllReadyH.nil
            go_simp
            have hb7 : Below U17.heap.size U17 (U17.alloc (.cells #[.bool l, .slice ab m cb, .slice ai k ci, .bool l', .slice ab' m' cb', .slice ai' k' ci'] 25)) := by go_grown
            have hS7 : (fun w' => w'.heap[w.heap.size]? = some (.cells #[.int .u64 a0, .int .u64 a1, .int .u64 a2, .int .u64 a3] 50) ∧ w'.heap[w.heap.size + 1]? = some (.cells #[.bool l, .slice ab m cb, .slice ai k ci] 25) ∧ w'.heap[w.heap.size + 1 + 1]? = some (.cells #[.bool l', .slice ab' m' cb', .slice ai' k' ci'] 25) ∧ w'.heap[p13]? = some (.cells #[.int .u64 s0, .int .u64 s1, .int .u64 s2, .int .u64 s3] 50) ∧ w'.heap[p15]? = some (.cells #[.int .u64 s0, .int .u64 s1, .int .u64 s2, .int .u64 s3] 50)) (U17.alloc (.cells #[.bool l, .slice ab m cb, .slice ai k ci, .bool l', .slice ab' m' cb', .slice ai' k' ci'] 25)) := ⟨(hb7.block _ (heap_lt hHeld.1)).trans hHeld.1, (hb7.block _ (heap_lt hHeld.2.1)).trans hHeld.2.1, (hb7.block _ (heap_lt hHeld.2.2.1)).trans hHeld.2.2.1, (hb7.block _ (heap_lt hHeld.2.2.2.1)).trans hHeld.2.2.2.1, (hb7.block _ (heap_lt hHeld.2.2.2.2)).trans hHeld.2.2.2.2⟩
            have hit := two_itsR X Y (HI.out.2.1) (HI.out.2.2.1)
            rw [← HL.out.1, ← HL.out.2.2.1] at hit
            have HI7 : Hid (Below w.heap.size w (U17.alloc (.cells #[.bool l, .slice ab m cb, .slice ai k ci, .bool l', .slice ab' m' cb', .slice ai' k' ci'] 25)) ∧ ItV (U17.alloc (.cells #[.bool l, .slice ab m cb, .slice ai k ci, .bool l', .slice ab' m' cb', .slice ai' k' ci'] 25)) (fun b => b < (U17.alloc (.cells #[.bool l, .slice ab m cb, .slice ai k ci, .bool l', .slice ab' m' cb', .slice ai' k' ci'] 25)).heap.size) (.slice ab m cb) (.slice ai k ci) X ∧ ItV (U17.alloc (.cells #[.bool l, .slice ab m cb, .slice ai k ci, .bool l', .slice ab' m' cb', .slice ai' k' ci'] 25)) (fun b => b < (U17.alloc (.cells #[.bool l, .slice ab m cb, .slice ai k ci, .bool l', .slice ab' m' cb', .slice ai' k' ci'] 25)).heap.size) (.slice ab' m' cb') (.slice ai' k' ci') Y ∧ ItV (U17.alloc (.cells #[.bool l, .slice ab m cb, .slice ai k ci, .bool l', .slice ab' m' cb', .slice ai' k' ci'] 25)) (fun b => b < (U17.alloc (.cells #[.bool l, .slice ab m cb, .slice ai k ci, .bool l', .slice ab' m' cb', .slice ai' k' ci'] 25)).heap.size) (.slice none 0 0) (.slice ma 2 mc) T3 ∧ ItsV (U17.alloc (.cells #[.bool l, .slice ab m cb, .slice ai k ci, .bool l', .slice ab' m' cb', .slice ai' k' ci'] 25)) (fun b => b < (U17.alloc (.cells #[.bool l, .slice ab m cb, .slice ai k ci, .bool l', .slice ab' m' cb', .slice ai' k' ci'] 25)).heap.size) (.slice (some ⟨U17.heap.size, 0, none⟩) 2 2) [X, Y]) := ⟨HI.out.1.trans (hb7.mono HI.out.1.size), (HI.out.2.1).up hb7, (HI.out.2.2.1).up hb7, (HI.out.2.2.2).up hb7, hit⟩
            clear HI hb7 hit
            have HI : Hid (Below w.heap.size w (U17.alloc (.cells #[.bool l, .slice ab m cb, .slice ai k ci, .bool l', .slice ab' m' cb', .slice ai' k' ci'] 25)) ∧ ItV (U17.alloc (.cells #[.bool l, .slice ab m cb, .slice ai k ci, .bool l', .slice ab' m' cb', .slice ai' k' ci'] 25)) (fun b => b < (U17.alloc (.cells #[.bool l, .slice ab m cb, .slice ai k ci, .bool l', .slice ab' m' cb', .slice ai' k' ci'] 25)).heap.size) (.slice ab m cb) (.slice ai k ci) X ∧ ItV (U17.alloc (.cells #[.bool l, .slice ab m cb, .slice ai k ci, .bool l', .slice ab' m' cb', .slice ai' k' ci'] 25)) (fun b => b < (U17.alloc (.cells #[.bool l, .slice ab m cb, .slice ai k ci, .bool l', .slice ab' m' cb', .slice ai' k' ci'] 25)).heap.size) (.slice ab' m' cb') (.slice ai' k' ci') Y ∧ ItV (U17.alloc (.cells #[.bool l, .slice ab m cb, .slice ai k ci, .bool l', .slice ab' m' cb', .slice ai' k' ci'] 25)) (fun b => b < (U17.alloc (.cells #[.bool l, .slice ab m cb, .slice ai k ci, .bool l', .slice ab' m' cb', .slice ai' k' ci'] 25)).heap.size) (.slice none 0 0) (.slice ma 2 mc) T3 ∧ ItsV (U17.alloc (.cells #[.bool l, .slice ab m cb, .slice ai k ci, .bool l', .slice ab' m' cb', .slice ai' k' ci'] 25)) (fun b => b < (U17.alloc (.cells #[.bool l, .slice ab m cb, .slice ai k ci, .bool l', .slice ab' m' cb', .slice ai' k' ci'] 25)).heap.size) (.slice (some ⟨U17.heap.size, 0, none⟩) 2 2) [X, Y]) := HI7.out
            clear HI7
            obtain ⟨gz, hgz⟩ : ∃ gz, gz = U17.heap.size := ⟨_, rfl⟩
            rw [← hgz] at HI ⊢
            clear hgz
            refine hK.out _ _ hS7 (fun hHeld => ?_)
            clear hK K
            try simp only [List.getElem_toArray, List.getElem_cons_succ, List.getElem_cons_zero, Act.put, List.setIfInBounds_toArray, List.set_cons_zero, List.set_cons_succ]
            clear hS7
            generalize (U17.alloc (.cells #[.bool l, .slice ab m cb, .slice ai k ci, .bool l', .slice ab' m' cb', .slice ai' k' ci'] 25)) = U18 at HI hHeld ⊢
            refine wpAnyH_take (i := 56) (v := .agg #[.bool true, .slice none 0 0, .slice (some ⟨gz, 0, none⟩) 2 2]) rfl (by kernel_rfl) (by kernel_rfl) (by kernel_rfl) (fun _ _ _ h => h) (Or.inl ⟨by rfl, fun w9 hSw => ?_⟩) hHeld ?_
            · go_simp
            simp only [List.getElem_toArray, List.getElem_cons_succ, List.getElem_cons_zero, Act.put, List.setIfInBounds_toArray, List.set_cons_zero, List.set_cons_succ]
            refine wpAnyH_ready (rs := [57]) (by kernel_rfl) (by simp) ?_
            refine AllReadyH.cons rfl (fun K hK => ?_) AllReadyH.nil
            have hC := rs_f (T := T3) (tl := true) (sb := .slice none 0 0) (si := .slice ma 2 mc) (sb' := .slice none 0 0) (si' := .slice (some ⟨gz, 0, none⟩) 2 2) (by rw [HT.out.2.2]; rfl) (HI.out.2.2.2.1) (by rw [HT.out.2.2]; exact ⟨⟨Or.inl ⟨rfl, rfl⟩, fun b hb' => (by have h9 := dBlock_own hb'; cases h9), by show (0 : Nat) ≤ _; omega⟩, HI.out.2.2.2.2⟩)
            go_simp
            refine Calls.mono hC ?_
            clear hC
            rintro e U19 ⟨hb7, rfl⟩
            have hS7 : (fun w' => w'.heap[w.heap.size]? = some (.cells #[.int .u64 a0, .int .u64 a1, .int .u64 a2, .int .u64 a3] 50) ∧ w'.heap[w.heap.size + 1]? = some (.cells #[.bool l, .slice ab m cb, .slice ai k ci] 25) ∧ w'.heap[w.heap.size + 1 + 1]? = some (.cells #[.bool l', .slice ab' m' cb', .slice ai' k' ci'] 25) ∧ w'.heap[p13]? = some (.cells #[.int .u64 s0, .int .u64 s1, .int .u64 s2, .int .u64 s3] 50) ∧ w'.heap[p15]? = some (.cells #[.int .u64 s0, .int .u64 s1, .int .u64 s2, .int .u64 s3] 50)) U19 := ⟨(hb7.block _ (heap_lt hHeld.1)).trans hHeld.1, (hb7.block _ (heap_lt hHeld.2.1)).trans hHeld.2.1, (hb7.block _ (heap_lt hHeld.2.2.1)).trans hHeld.2.2.1, (hb7.block _ (heap_lt hHeld.2.2.2.1)).trans hHeld.2.2.2.1, (hb7.block _ (heap_lt hHeld.2.2.2.2)).trans hHeld.2.2.2.2⟩
            have HI7 : Hid (Below w.heap.size w U19) := HI.out.1.trans (hb7.mono HI.out.1.size)
            clear HI hb7
            have HI : Hid (Below w.heap.size w U19) := HI7.out
            clear HI7
            refine hK.out _ _ hS7 (fun hHeld => ?_)
            clear hK K
            try simp only [List.getElem_toArray, List.getElem_cons_succ, List.getElem_cons_zero, Act.put, List.setIfInBounds_toArray, List.set_cons_zero, List.set_cons_succ]
            clear hS7
            refine wpAnyH_take (i := 58) (v := .bool true) rfl (by kernel_rfl) (by kernel_rfl) (by kernel_rfl) (fun _ _ _ h => h) (Or.inl ⟨by rfl, fun w9 hSw => ?_⟩) hHeld ?_
            · go_simp
            simp only [List.getElem_toArray, List.getElem_cons_succ, List.getElem_cons_zero, Act.put, List.setIfInBounds_toArray, List.set_cons_zero, List.set_cons_succ]
            refine wpAnyH_take (i := 59) (v := .bool true) rfl (by kernel_rfl) (by kernel_rfl) (by kernel_rfl) (fun _ _ _ h => h) (Or.inl ⟨by rfl, fun w9 hSw => ?_⟩) hHeld ?_
            · go_simp
            simp only [List.getElem_toArray, List.getElem_cons_succ, List.getElem_cons_zero, Act.put, List.setIfInBounds_toArray, List.set_cons_zero, List.set_cons_succ]
            refine wpAnyH_ready (rs := [60]) (by kernel_rfl) (by simp) ?_
            refine AllReadyH.cons rfl (fun K hK => ?_) AllReadyH.nil
            have hC := alive_any (w := U19)
            go_simp
            refine Calls.mono hC ?_
            clear hC
            rintro e U20 ⟨hb7, rfl⟩
            have hS7 : (fun w' => w'.heap[w.heap.size]? = some (.cells #[.int .u64 a0, .int .u64 a1, .int .u64 a2, .int .u64 a3] 50) ∧ w'.heap[w.heap.size + 1]? = some (.cells #[.bool l, .slice ab m cb, .slice ai k ci] 25) ∧ w'.heap[w.heap.size + 1 + 1]? = some (.cells #[.bool l', .slice ab' m' cb', .slice ai' k' ci'] 25) ∧ w'.heap[p13]? = some (.cells #[.int .u64 s0, .int .u64 s1, .int .u64 s2, .int .u64 s3] 50) ∧ w'.heap[p15]? = some (.cells #[.int .u64 s0, .int .u64 s1, .int .u64 s2, .int .u64 s3] 50)) U20 := ⟨(hb7.block _ (heap_lt hHeld.1)).trans hHeld.1, (hb7.block _ (heap_lt hHeld.2.1)).trans hHeld.2.1, (hb7.block _ (heap_lt hHeld.2.2.1)).trans hHeld.2.2.1, (hb7.block _ (heap_lt hHeld.2.2.2.1)).trans hHeld.2.2.2.1, (hb7.block _ (heap_lt hHeld.2.2.2.2)).trans hHeld.2.2.2.2⟩
            have HI7 : Hid (Below w.heap.size w U20) := HI.out.trans (hb7.mono HI.out.size)
            clear HI hb7
            have HI : Hid (Below w.heap.size w U20) := HI7.out
            clear HI7
            refine hK.out _ _ hS7 (fun hHeld => ?_)
            clear hK K
            try simp only [List.getElem_toArray, List.getElem_cons_succ, List.getElem_cons_zero, Act.put, List.setIfInBounds_toArray, List.set_cons_zero, List.set_cons_succ]
            clear hS7
            refine wpAnyH_take (i := 61) (v := .bool true) rfl (by kernel_rfl) (by kernel_rfl) (by kernel_rfl) (fun _ _ _ h => h) (Or.inl ⟨by rfl, fun w9 hSw => ?_⟩) hHeld ?_
            · go_simp
            simp only [List.getElem_toArray, List.getElem_cons_succ, List.getElem_cons_zero, Act.put, List.setIfInBounds_toArray, List.set_cons_zero, List.set_cons_succ]
            refine wpAnyH_take (i := 62) (v := .bool true) rfl (by kernel_rfl) (by kernel_rfl) (by kernel_rfl) (fun _ _ _ h => h) (Or.inl ⟨by rfl, fun w9 hSw => ?_⟩) hHeld ?_
            · go_simp
            simp only [List.getElem_toArray, List.getElem_cons_succ, List.getElem_cons_zero, Act.put, List.setIfInBounds_toArray, List.set_cons_zero, List.set_cons_succ]
            refine wpAnyH_done (by kernel_rfl) ?_ _
            simp only [noP]
            clear hHeld
            go_wp2
            go_ret
            exact ⟨HI.out, rfl⟩
          · go_simp
            have hb7 : Below U16.heap.size U16 (U16.alloc (.cells #[.bool l, .slice ab m cb, .slice ai k ci, .bool l', .slice ab' m' cb', .slice ai' k' ci'] 25)) := by go_grown
            have hS7 : (fun w' => w'.heap[w.heap.size]? = some (.cells #[.int .u64 a0, .int .u64 a1, .int .u64 a2, .int .u64 a3] 50) ∧ w'.heap[w.heap.size + 1]? = some (.cells #[.bool l, .slice ab m cb, .slice ai k ci] 25) ∧ w'.heap[w.heap.size + 1 + 1]? = some (.cells #[.bool l', .slice ab' m' cb', .slice ai' k' ci'] 25) ∧ w'.heap[p13]? = some (.cells #[.int .u64 s0, .int .u64 s1, .int .u64 s2, .int .u64 s3] 50) ∧ w'.heap[p15]? = some (.cells #[.int .u64 s0, .int .u64 s1, .int .u64 s2, .int .u64 s3] 50)) (U16.alloc (.cells #[.bool l, .slice ab m cb, .slice ai k ci, .bool l', .slice ab' m' cb', .slice ai' k' ci'] 25)) := ⟨(hb7.block _ (heap_lt hHeld.1)).trans hHeld.1, (hb7.block _ (heap_lt hHeld.2.1)).trans hHeld.2.1, (hb7.block _ (heap_lt hHeld.2.2.1)).trans hHeld.2.2.1, (hb7.block _ (heap_lt hHeld.2.2.2.1)).trans hHeld.2.2.2.1, (hb7.block _ (heap_lt hHeld.2.2.2.2)).trans hHeld.2.2.2.2⟩
            have hit := two_itsR X Y (HI.out.2.1) (HI.out.2.2.1)
            rw [← HL.out.1, ← HL.out.2.2.1] at hit
            have HI7 : Hid (Below w.heap.size w (U16.alloc (.cells #[.bool l, .slice ab m cb, .slice ai k ci, .bool l', .slice ab' m' cb', .slice ai' k' ci'] 25)) ∧ ItV (U16.alloc (.cells #[.bool l, .slice ab m cb, .slice ai k ci, .bool l', .slice ab' m' cb', .slice ai' k' ci'] 25)) (fun b => b < (U16.alloc (.cells #[.bool l, .slice ab m cb, .slice ai k ci, .bool l', .slice ab' m' cb', .slice ai' k' ci'] 25)).heap.size) (.slice ab m cb) (.slice ai k ci) X ∧ ItV (U16.alloc (.cells #[.bool l, .slice ab m cb, .slice ai k ci, .bool l', .slice ab' m' cb', .slice ai' k' ci'] 25)) (fun b => b < (U16.alloc (.cells #[.bool l, .slice ab m cb, .slice ai k ci, .bool l', .slice ab' m' cb', .slice ai' k' ci'] 25)).heap.size) (.slice ab' m' cb') (.slice ai' k' ci') Y ∧ ItV (U16.alloc (.cells #[.bool l, .slice ab m cb, .slice ai k ci, .bool l', .slice ab' m' cb', .slice ai' k' ci'] 25)) (fun b => b < (U16.alloc (.cells #[.bool l, .slice ab m cb, .slice ai k ci, .bool l', .slice ab' m' cb', .slice ai' k' ci'] 25)).heap.size) (.slice none 0 0) (.slice la 2 lc) T3 ∧ ItsV (U16.alloc (.cells #[.bool l, .slice ab m cb, .slice ai k ci, .bool l', .slice ab' m' cb', .slice ai' k' ci'] 25)) (fun b => b < (U16.alloc (.cells #[.bool l, .slice ab m cb, .slice ai k ci, .bool l', .slice ab' m' cb', .slice ai' k' ci'] 25)).heap.size) (.slice (some ⟨U16.heap.size, 0, none⟩) 2 2) [X, Y]) := ⟨HI.out.1.trans (hb7.mono HI.out.1.size), (HI.out.2.1).up hb7, (HI.out.2.2.1).up hb7, (HI.out.2.2.2).up hb7, hit⟩
            clear HI hb7 hit
            have HI : Hid (Below w.heap.size w (U16.alloc (.cells #[.bool l, .slice ab m cb, .slice ai k ci, .bool l', .slice ab' m' cb', .slice ai' k' ci'] 25)) ∧ ItV (U16.alloc (.cells #[.bool l, .slice ab m cb, .slice ai k ci, .bool l', .slice ab' m' cb', .slice ai' k' ci'] 25)) (fun b => b < (U16.alloc (.cells #[.bool l, .slice ab m cb, .slice ai k ci, .bool l', .slice ab' m' cb', .slice ai' k' ci'] 25)).heap.size) (.slice ab m cb) (.slice ai k ci) X ∧ ItV (U16.alloc (.cells #[.bool l, .slice ab m cb, .slice ai k ci, .bool l', .slice ab' m' cb', .slice ai' k' ci'] 25)) (fun b => b < (U16.alloc (.cells #[.bool l, .slice ab m cb, .slice ai k ci, .bool l', .slice ab' m' cb', .slice ai' k' ci'] 25)).heap.size) (.slice ab' m' cb') (.slice ai' k' ci') Y ∧ ItV (U16.alloc (.cells #[.bool l, .slice ab m cb, .slice ai k ci, .bool l', .slice ab' m' cb', .slice ai' k' ci'] 25)) (fun b => b < (U16.alloc (.cells #[.bool l, .slice ab m cb, .slice ai k ci, .bool l', .slice ab' m' cb', .slice ai' k' ci'] 25)).heap.size) (.slice none 0 0) (.slice la 2 lc) T3 ∧ ItsV (U16.alloc (.cells #[.bool l, .slice ab m cb, .slice ai k ci, .bool l', .slice ab' m' cb', .slice ai' k' ci'] 25)) (fun b => b < (U16.alloc (.cells #[.bool l, .slice ab m cb, .slice ai k ci, .bool l', .slice ab' m' cb', .slice ai' k' ci'] 25)).heap.size) (.slice (some ⟨U16.heap.size, 0, none⟩) 2 2) [X, Y]) := HI7.out
            clear HI7
            obtain ⟨gz, hgz⟩ : ∃ gz, gz = U16.heap.size := ⟨_, rfl⟩
            rw [← hgz] at HI ⊢
            clear hgz
            refine hK.out _ _ hS7 (fun hHeld => ?_)
            clear hK K
            try simp only [List.getElem_toArray, List.getElem_cons_succ, List.getElem_cons_zero, Act.put, List.setIfInBounds_toArray, List.set_cons_zero, List.set_cons_succ]
            clear hS7
            generalize (U16.alloc (.cells #[.bool l, .slice ab m cb, .slice ai k ci, .bool l', .slice ab' m' cb', .slice ai' k' ci'] 25)) = U17 at HI hHeld ⊢
            refine wpAnyH_take (i := 56) (v := .agg #[.bool true, .slice none 0 0, .slice (some ⟨gz, 0, none⟩) 2 2]) rfl (by kernel_rfl) (by kernel_rfl) (by kernel_rfl) (fun _ _ _ h => h) (Or.inl ⟨by rfl, fun w9 hSw => ?_⟩) hHeld ?_
            · go_simp
            simp only [List.getElem_toArray, List.getElem_cons_succ, List.getElem_cons_zero, Act.put, List.setIfInBounds_toArray, List.set_cons_zero, List.set_cons_succ]
            refine wpAnyH_ready (rs := [52]) (by kernel_rfl) (by simp) ?_
            refine AllReadyH.cons rfl (fun K hK => ?_) AllReadyH.nil
            have hC := th_f (T := T3) (tl := true) (tk := 2) (by rw [HT.out.2.2]; rfl) (by rw [HT.out.2.2]; rfl) (HI.out.2.2.2.1)
            go_simp
            refine Calls.mono hC ?_
            clear hC
            rintro e U18 ⟨hb7, ma, mc, rfl, hit⟩
            have hS7 : (fun w' => w'.heap[w.heap.size]? = some (.cells #[.int .u64 a0, .int .u64 a1, .int .u64 a2, .int .u64 a3] 50) ∧ w'.heap[w.heap.size + 1]? = some (.cells #[.bool l, .slice ab m cb, .slice ai k ci] 25) ∧ w'.heap[w.heap.size + 1 + 1]? = some (.cells #[.bool l', .slice ab' m' cb', .slice ai' k' ci'] 25) ∧ w'.heap[p13]? = some (.cells #[.int .u64 s0, .int .u64 s1, .int .u64 s2, .int .u64 s3] 50) ∧ w'.heap[p15]? = some (.cells #[.int .u64 s0, .int .u64 s1, .int .u64 s2, .int .u64 s3] 50)) U18 := ⟨(hb7.block _ (heap_lt hHeld.1)).trans hHeld.1, (hb7.block _ (heap_lt hHeld.2.1)).trans hHeld.2.1, (hb7.block _ (heap_lt hHeld.2.2.1)).trans hHeld.2.2.1, (hb7.block _ (heap_lt hHeld.2.2.2.1)).trans hHeld.2.2.2.1, (hb7.block _ (heap_lt hHeld.2.2.2.2)).trans hHeld.2.2.2.2⟩
            have HI7 : Hid (Below w.heap.size w U18 ∧ ItV U18 (fun b => b < U18.heap.size) (.slice ab m cb) (.slice ai k ci) X ∧ ItV U18 (fun b => b < U18.heap.size) (.slice ab' m' cb') (.slice ai' k' ci') Y ∧ ItsV U18 (fun b => b < U18.heap.size) (.slice (some ⟨gz, 0, none⟩) 2 2) [X, Y] ∧ ItV U18 (fun b => b < U18.heap.size) (.slice none 0 0) (.slice ma 2 mc) T3) := ⟨HI.out.1.trans (hb7.mono HI.out.1.size), (HI.out.2.1).up hb7, (HI.out.2.2.1).up hb7, (HI.out.2.2.2.2).up hb7, hit⟩
            clear HI hb7
            have HI : Hid (Below w.heap.size w U18 ∧ ItV U18 (fun b => b < U18.heap.size) (.slice ab m cb) (.slice ai k ci) X ∧ ItV U18 (fun b => b < U18.heap.size) (.slice ab' m' cb') (.slice ai' k' ci') Y ∧ ItsV U18 (fun b => b < U18.heap.size) (.slice (some ⟨gz, 0, none⟩) 2 2) [X, Y] ∧ ItV U18 (fun b => b < U18.heap.size) (.slice none 0 0) (.slice ma 2 mc) T3) := HI7.out
            clear HI7
            refine hK.out _ _ hS7 (fun hHeld => ?_)
            clear hK K
            try simp only [List.getElem_toArray, List.getElem_cons_succ, List.getElem_cons_zero, Act.put, List.setIfInBounds_toArray, List.set_cons_zero, List.set_cons_succ]
            clear hS7
            clear hit
            refine wpAnyH_ready (rs := [57]) (by kernel_rfl) (by simp) ?_
            refine AllReadyH.cons rfl (fun K hK => ?_) AllReadyH.nil
            have hC := rs_f (T := T3) (tl := true) (sb := .slice none 0 0) (si := .slice ma 2 mc) (sb' := .slice none 0 0) (si' := .slice (some ⟨gz, 0, none⟩) 2 2) (by rw [HT.out.2.2]; rfl) (HI.out.2.2.2.2) (by rw [HT.out.2.2]; exact ⟨⟨Or.inl ⟨rfl, rfl⟩, fun b hb' => (by have h9 := dBlock_own hb'; cases h9), by show (0 : Nat) ≤ _; omega⟩, HI.out.2.2.2.1⟩)
            go_simp
            refine Calls.mono hC ?_
            clear hC
            rintro e U19 ⟨hb7, rfl⟩
            have hS7 : (fun w' => w'.heap[w.heap.size]? = some (.cells #[.int .u64 a0, .int .u64 a1, .int .u64 a2, .int .u64 a3] 50) ∧ w'.heap[w.heap.size + 1]? = some (.cells #[.bool l, .slice ab m cb, .slice ai k ci] 25) ∧ w'.heap[w.heap.size + 1 + 1]? = some (.cells #[.bool l', .slice ab' m' cb', .slice ai' k' ci'] 25) ∧ w'.heap[p13]? = some (.cells #[.int .u64 s0, .int .u64 s1, .int .u64 s2, .int .u64 s3] 50) ∧ w'.heap[p15]? = some (.cells #[.int .u64 s0, .int .u64 s1, .int .u64 s2, .int .u64 s3] 50)) U19 := ⟨(hb7.block _ (heap_lt hHeld.1)).trans hHeld.1, (hb7.block _ (heap_lt hHeld.2.1)).trans hHeld.2.1, (hb7.block _ (heap_lt hHeld.2.2.1)).trans hHeld.2.2.1, (hb7.block _ (heap_lt hHeld.2.2.2.1)).trans hHeld.2.2.2.1, (hb7.block _ (heap_lt hHeld.2.2.2.2)).trans hHeld.2.2.2.2⟩
            have HI7 : Hid (Below w.heap.size w U19) := HI.out.1.trans (hb7.mono HI.out.1.size)
            clear HI hb7
            have HI : Hid (Below w.heap.size w U19) := HI7.out
            clear HI7
            refine hK.out _ _ hS7 (fun hHeld => ?_)
            clear hK K
            try simp only [List.getElem_toArray, List.getElem_cons_succ, List.getElem_cons_zero, Act.put, List.setIfInBounds_toArray, List.set_cons_zero, List.set_cons_succ]
            clear hS7
            refine wpAnyH_take (i := 58) (v := .bool true) rfl (by kernel_rfl) (by kernel_rfl) (by kernel_rfl) (fun _ _ _ h => h) (Or.inl ⟨by rfl, fun w9 hSw => ?_⟩) hHeld ?_
            · go_simp
            simp only [List.getElem_toArray, List.getElem_cons_succ, List.getElem_cons_zero, Act.put, List.setIfInBounds_toArray, List.set_cons_zero, List.set_cons_succ]
            refine wpAnyH_take (i := 59) (v := .bool true) rfl (by kernel_rfl) (by kernel_rfl) (by kernel_rfl) (fun _ _ _ h => h) (Or.inl ⟨by rfl, fun w9 hSw => ?_⟩) hHeld ?_
            · go_simp
            simp only [List.getElem_toArray, List.getElem_cons_succ, List.getElem_cons_zero, Act.put, List.setIfInBounds_toArray, List.set_cons_zero, List.set_cons_succ]
            refine wpAnyH_ready (rs := [60]) (by kernel_rfl) (by simp) ?_
            refine AllReadyH.cons rfl (fun K hK => ?_) AllReadyH.nil
            have hC := alive_any (w := U19)
            go_simp
            refine Calls.mono hC ?_
            clear hC
            rintro e U20 ⟨hb7, rfl⟩
            have hS7 : (fun w' => w'.heap[w.heap.size]? = some (.cells #[.int .u64 a0, .int .u64 a1, .int .u64 a2, .int .u64 a3] 50) ∧ w'.heap[w.heap.size + 1]? = some (.cells #[.bool l, .slice ab m cb, .slice ai k ci] 25) ∧ w'.heap[w.heap.size + 1 + 1]? = some (.cells #[.bool l', .slice ab' m' cb', .slice ai' k' ci'] 25) ∧ w'.heap[p13]? = some (.cells #[.int .u64 s0, .int .u64 s1, .int .u64 s2, .int .u64 s3] 50) ∧ w'.heap[p15]? = some (.cells #[.int .u64 s0, .int .u64 s1, .int .u64 s2, .int .u64 s3] 50)) U20 := ⟨(hb7.block _ (heap_lt hHeld.1)).trans hHeld.1, (hb7.block _ (heap_lt hHeld.2.1)).trans hHeld.2.1, (hb7.block _ (heap_lt hHeld.2.2.1)).trans hHeld.2.2.1, (hb7.block _ (heap_lt hHeld.2.2.2.1)).trans hHeld.2.2.2.1, (hb7.block _ (heap_lt hHeld.2.2.2.2)).trans hHeld.2.2.2.2⟩
            have HI7 : Hid (Below w.heap.size w U20) := HI.out.trans (hb7.mono HI.out.size)
            clear HI hb7
            have HI : Hid (Below w.heap.size w U20) := HI7.out
            clear HI7
            refine hK.out _ _ hS7 (fun hHeld => ?_)
            clear hK K
            try simp only [List.getElem_toArray, List.getElem_cons_succ, List.getElem_cons_zero, Act.put, List.setIfInBounds_toArray, List.set_cons_zero, List.set_cons_succ]
            clear hS7
            refine wpAnyH_take (i := 61) (v := .bool true) rfl (by kernel_rfl) (by kernel_rfl) (by kernel_rfl) (fun _ _ _ h => h) (Or.inl ⟨by rfl, fun w9 hSw => ?_⟩) hHeld ?_
            · go_simp
            simp only [List.getElem_toArray, List.getElem_cons_succ, List.getElem_cons_zero, Act.put, List.setIfInBounds_toArray, List.set_cons_zero, List.set_cons_succ]
            refine wpAnyH_take (i := 62) (v := .bool true) rfl (by kernel_rfl) (by kernel_rfl) (by kernel_rfl) (fun _ _ _ h => h) (Or.inl ⟨by rfl, fun w9 hSw => ?_⟩) hHeld ?_
            · go_simp
            simp only [List.getElem_toArray, List.getElem_cons_succ, List.getElem_cons_zero, Act.put, List.setIfInBounds_toArray, List.set_cons_zero, List.set_cons_succ]
            refine wpAnyH_done (by kernel_rfl) ?_ _
            simp only [noP]
            clear hHeld
            go_wp2
            go_ret
            exact ⟨HI.out, rfl⟩
        · go_simp
          have hb7 : Below U15.heap.size U15 (U15.alloc (.cells #[.bool l, .slice ab m cb, .slice ai k ci, .bool l', .slice ab' m' cb', .slice ai' k' ci'] 25)) := by go_grown
          have hS7 : (fun w' => w'.heap[w.heap.size]? = some (.cells #[.int .u64 a0, .int .u64 a1, .int .u64 a2, .int .u64 a3] 50) ∧ w'.heap[w.heap.size + 1]? = some (.cells #[.bool l, .slice ab m cb, .slice ai k ci] 25) ∧ w'.heap[w.heap.size + 1 + 1]? = some (.cells #[.bool l', .slice ab' m' cb', .slice ai' k' ci'] 25) ∧ w'.heap[p13]? = some (.cells #[.int .u64 s0, .int .u64 s1, .int .u64 s2, .int .u64 s3] 50) ∧ w'.heap[p15]? = some (.cells #[.int .u64 s0, .int .u64 s1, .int .u64 s2, .int .u64 s3] 50)) (U15.alloc (.cells #[.bool l, .slice ab m cb, .slice ai k ci, .bool l', .slice ab' m' cb', .slice ai' k' ci'] 25)) := ⟨(hb7.block _ (heap_lt hHeld.1)).trans hHeld.1, (hb7.block _ (heap_lt hHeld.2.1)).trans hHeld.2.1, (hb7.block _ (heap_lt hHeld.2.2.1)).trans hHeld.2.2.1, (hb7.block _ (heap_lt hHeld.2.2.2.1)).trans hHeld.2.2.2.1, (hb7.block _ (heap_lt hHeld.2.2.2.2)).trans hHeld.2.2.2.2⟩
          have hit := two_itsR X Y (HI.out.2.1) (HI.out.2.2.1)
          rw [← HL.out.1, ← HL.out.2.2.1] at hit
          have HI7 : Hid (Below w.heap.size w (U15.alloc (.cells #[.bool l, .slice ab m cb, .slice ai k ci, .bool l', .slice ab' m' cb', .slice ai' k' ci'] 25)) ∧ ItV (U15.alloc (.cells #[.bool l, .slice ab m cb, .slice ai k ci, .bool l', .slice ab' m' cb', .slice ai' k' ci'] 25)) (fun b => b < (U15.alloc (.cells #[.bool l, .slice ab m cb, .slice ai k ci, .bool l', .slice ab' m' cb', .slice ai' k' ci'] 25)).heap.size) (.slice ab m cb) (.slice ai k ci) X ∧ ItV (U15.alloc (.cells #[.bool l, .slice ab m cb, .slice ai k ci, .bool l', .slice ab' m' cb', .slice ai' k' ci'] 25)) (fun b => b < (U15.alloc (.cells #[.bool l, .slice ab m cb, .slice ai k ci, .bool l', .slice ab' m' cb', .slice ai' k' ci'] 25)).heap.size) (.slice ab' m' cb') (.slice ai' k' ci') Y ∧ ItsV (U15.alloc (.cells #[.bool l, .slice ab m cb, .slice ai k ci, .bool l', .slice ab' m' cb', .slice ai' k' ci'] 25)) (fun b => b < (U15.alloc (.cells #[.bool l, .slice ab m cb, .slice ai k ci, .bool l', .slice ab' m' cb', .slice ai' k' ci'] 25)).heap.size) (.slice (some ⟨gl, 0, none⟩) 2 2) [X, Y] ∧ ItsV (U15.alloc (.cells #[.bool l, .slice ab m cb, .slice ai k ci, .bool l', .slice ab' m' cb', .slice ai' k' ci'] 25)) (fun b => b < (U15.alloc (.cells #[.bool l, .slice ab m cb, .slice ai k ci, .bool l', .slice ab' m' cb', .slice ai' k' ci'] 25)).heap.size) (.slice (some ⟨U15.heap.size, 0, none⟩) 2 2) [X, Y]) := ⟨HI.out.1.trans (hb7.mono HI.out.1.size), (HI.out.2.1).up hb7, (HI.out.2.2.1).up hb7, (HI.out.2.2.2).up hb7, hit⟩
          clear HI hb7 hit
          have HI : Hid (Below w.heap.size w (U15.alloc (.cells #[.bool l, .slice ab m cb, .slice ai k ci, .bool l', .slice ab' m' cb', .slice ai' k' ci'] 25)) ∧ ItV (U15.alloc (.cells #[.bool l, .slice ab m cb, .slice ai k ci, .bool l', .slice ab' m' cb', .slice ai' k' ci'] 25)) (fun b => b < (U15.alloc (.cells #[.bool l, .slice ab m cb, .slice ai k ci, .bool l', .slice ab' m' cb', .slice ai' k' ci'] 25)).heap.size) (.slice ab m cb) (.slice ai k ci) X ∧ ItV (U15.alloc (.cells #[.bool l, .slice ab m cb, .slice ai k ci, .bool l', .slice ab' m' cb', .slice ai' k' ci'] 25)) (fun b => b < (U15.alloc (.cells #[.bool l, .slice ab m cb, .slice ai k ci, .bool l', .slice ab' m' cb', .slice ai' k' ci'] 25)).heap.size) (.slice ab' m' cb') (.slice ai' k' ci') Y ∧ ItsV (U15.alloc (.cells #[.bool l, .slice ab m cb, .slice ai k ci, .bool l', .slice ab' m' cb', .slice ai' k' ci'] 25)) (fun b => b < (U15.alloc (.cells #[.bool l, .slice ab m cb, .slice ai k ci, .bool l', .slice ab' m' cb', .slice ai' k' ci'] 25)).heap.size) (.slice (some ⟨gl, 0, none⟩) 2 2) [X, Y] ∧ ItsV (U15.alloc (.cells #[.bool l, .slice ab m cb, .slice ai k ci, .bool l', .slice ab' m' cb', .slice ai' k' ci'] 25)) (fun b => b < (U15.alloc (.cells #[.bool l, .slice ab m cb, .slice ai k ci, .bool l', .slice ab' m' cb', .slice ai' k' ci'] 25)).heap.size) (.slice (some ⟨U15.heap.size, 0, none⟩) 2 2) [X, Y]) := HI7.out
          clear HI7
          obtain ⟨gz, hgz⟩ : ∃ gz, gz = U15.heap.size := ⟨_, rfl⟩
          rw [← hgz] at HI ⊢
          clear hgz
          refine hK.out _ _ hS7 (fun hHeld => ?_)
          clear hK K
          try simp only [List.getElem_toArray, List.getElem_cons_succ, List.getElem_cons_zero, Act.put, List.setIfInBounds_toArray, List.set_cons_zero, List.set_cons_succ]
          clear hS7
          generalize (U15.alloc (.cells #[.bool l, .slice ab m cb, .slice ai k ci, .bool l', .slice ab' m' cb', .slice ai' k' ci'] 25)) = U16 at HI hHeld ⊢
          refine wpAnyH_take (i := 56) (v := .agg #[.bool true, .slice none 0 0, .slice (some ⟨gz, 0, none⟩) 2 2]) rfl (by kernel_rfl) (by kernel_rfl) (by kernel_rfl) (fun _ _ _ h => h) (Or.inl ⟨by rfl, fun w9 hSw => ?_⟩) hHeld ?_
          · go_simp
          simp only [List.getElem_toArray, List.getElem_cons_succ, List.getElem_cons_zero, Act.put, List.setIfInBounds_toArray, List.set_cons_zero, List.set_cons_succ]
          refine wpAnyH_ready (rs := [51]) (by kernel_rfl) (by simp) ?_
          refine AllReadyH.cons rfl (fun K hK => ?_) AllReadyH.nil
          have hC := C28.out U16 _ (HI.out.2.2.2.1)
          go_simp
          refine Calls.mono hC ?_
          clear hC
          rintro e U17 ⟨hb7, la, lc, rfl, hit⟩
          have hS7 : (fun w' => w'.heap[w.heap.size]? = some (.cells #[.int .u64 a0, .int .u64 a1, .int .u64 a2, .int .u64 a3] 50) ∧ w'.heap[w.heap.size + 1]? = some (.cells #[.bool l, .slice ab m cb, .slice ai k ci] 25) ∧ w'.heap[w.heap.size + 1 + 1]? = some (.cells #[.bool l', .slice ab' m' cb', .slice ai' k' ci'] 25) ∧ w'.heap[p13]? = some (.cells #[.int .u64 s0, .int .u64 s1, .int .u64 s2, .int .u64 s3] 50) ∧ w'.heap[p15]? = some (.cells #[.int .u64 s0, .int .u64 s1, .int .u64 s2, .int .u64 s3] 50)) U17 := ⟨(hb7.block _ (heap_lt hHeld.1)).trans hHeld.1, (hb7.block _ (heap_lt hHeld.2.1)).trans hHeld.2.1, (hb7.block _ (heap_lt hHeld.2.2.1)).trans hHeld.2.2.1, (hb7.block _ (heap_lt hHeld.2.2.2.1)).trans hHeld.2.2.2.1, (hb7.block _ (heap_lt hHeld.2.2.2.2)).trans hHeld.2.2.2.2⟩
          have HI7 : Hid (Below w.heap.size w U17 ∧ ItV U17 (fun b => b < U17.heap.size) (.slice ab m cb) (.slice ai k ci) X ∧ ItV U17 (fun b => b < U17.heap.size) (.slice ab' m' cb') (.slice ai' k' ci') Y ∧ ItsV U17 (fun b => b < U17.heap.size) (.slice (some ⟨gz, 0, none⟩) 2 2) [X, Y] ∧ ItV U17 (fun b => b < U17.heap.size) (.slice none 0 0) (.slice la 2 lc) T3) := ⟨HI.out.1.trans (hb7.mono HI.out.1.size), (HI.out.2.1).up hb7, (HI.out.2.2.1).up hb7, (HI.out.2.2.2.2).up hb7, hit⟩
          clear HI hb7
          have HI : Hid (Below w.heap.size w U17 ∧ ItV U17 (fun b => b < U17.heap.size) (.slice ab m cb) (.slice ai k ci) X ∧ ItV U17 (fun b => b < U17.heap.size) (.slice ab' m' cb') (.slice ai' k' ci') Y ∧ ItsV U17 (fun b => b < U17.heap.size) (.slice (some ⟨gz, 0, none⟩) 2 2) [X, Y] ∧ ItV U17 (fun b => b < U17.heap.size) (.slice none 0 0) (.slice la 2 lc) T3) := HI7.out
          clear HI7
          refine hK.out _ _ hS7 (fun hHeld => ?_)
          clear hK K
          try simp only [List.getElem_toArray, List.getElem_cons_succ, List.getElem_cons_zero, Act.put, List.setIfInBounds_toArray, List.set_cons_zero, List.set_cons_succ]
          clear hS7
          clear hit
          refine wpAnyH_ready (rs := [52]) (by kernel_rfl) (by simp) ?_
          refine AllReadyH.cons rfl (fun K hK => ?_) AllReadyH.nil
          have hC := th_f (T := T3) (tl := true) (tk := 2) (by rw [HT.out.2.2]; rfl) (by rw [HT.out.2.2]; rfl) (HI.out.2.2.2.2)
          go_simp
          refine Calls.mono hC ?_
          clear hC
          rintro e U18 ⟨hb7, ma, mc, rfl, hit⟩
          have hS7 : (fun w' => w'.heap[w.heap.size]? = some (.cells #[.int .u64 a0, .int .u64 a1, .int .u64 a2, .int .u64 a3] 50) ∧ w'.heap[w.heap.size + 1]? = some (.cells #[.bool l, .slice ab m cb, .slice ai k ci] 25) ∧ w'.heap[w.heap.size + 1 + 1]? = some (.cells #[.bool l', .slice ab' m' cb', .slice ai' k' ci'] 25) ∧ w'.heap[p13]? = some (.cells #[.int .u64 s0, .int .u64 s1, .int .u64 s2, .int .u64 s3] 50) ∧ w'.heap[p15]? = some (.cells #[.int .u64 s0, .int .u64 s1, .int .u64 s2, .int .u64 s3] 50)) U18 := ⟨(hb7.block _ (heap_lt hHeld.1)).trans hHeld.1, (hb7.block _ (heap_lt hHeld.2.1)).trans hHeld.2.1, (hb7.block _ (heap_lt hHeld.2.2.1)).trans hHeld.2.2.1, (hb7.block _ (heap_lt hHeld.2.2.2.1)).trans hHeld.2.2.2.1, (hb7.block _ (heap_lt hHeld.2.2.2.2)).trans hHeld.2.2.2.2⟩
          have HI7 : Hid (Below w.heap.size w U18 ∧ ItV U18 (fun b => b < U18.heap.size) (.slice ab m cb) (.slice ai k ci) X ∧ ItV U18 (fun b => b < U18.heap.size) (.slice ab' m' cb') (.slice ai' k' ci') Y ∧ ItsV U18 (fun b => b < U18.heap.size) (.slice (some ⟨gz, 0, none⟩) 2 2) [X, Y] ∧ ItV U18 (fun b => b < U18.heap.size) (.slice none 0 0) (.slice ma 2 mc) T3) := ⟨HI.out.1.trans (hb7.mono HI.out.1.size), (HI.out.2.1).up hb7, (HI.out.2.2.1).up hb7, (HI.out.2.2.2.1).up hb7, hit⟩
          clear HI hb7
          have HI : Hid (Below w.heap.size w U18 ∧ ItV U18 (fun b => b < U18.heap.size) (.slice ab m cb) (.slice ai k ci) X ∧ ItV U18 (fun b => b < U18.heap.size) (.slice ab' m' cb') (.slice ai' k' ci') Y ∧ ItsV U18 (fun b => b < U18.heap.size) (.slice (some ⟨gz, 0, none⟩) 2 2) [X, Y] ∧ ItV U18 (fun b => b < U18.heap.size) (.slice none 0 0) (.slice ma 2 mc) T3) := HI7.out
          clear HI7
          refine hK.out _ _ hS7 (fun hHeld => ?_)
          clear hK K
          try simp only [List.getElem_toArray, List.getElem_cons_succ, List.getElem_cons_zero, Act.put, List.setIfInBounds_toArray, List.set_cons_zero, List.set_cons_succ]
          clear hS7
          clear hit
          refine wpAnyH_ready (rs := [57]) (by kernel_rfl) (by simp) ?_
          refine AllReadyH.cons rfl (fun K hK => ?_) AllReadyH.nil
          have hC := rs_f (T := T3) (tl := true) (sb := .slice none 0 0) (si := .slice ma 2 mc) (sb' := .slice none 0 0) (si' := .slice (some ⟨gz, 0, none⟩) 2 2) (by rw [HT.out.2.2]; rfl) (HI.out.2.2.2.2) (by rw [HT.out.2.2]; exact ⟨⟨Or.inl ⟨rfl, rfl⟩, fun b hb' => (by have h9 := dBlock_own hb'; cases h9), by show (0 : Nat) ≤ _; omega⟩, HI.out.2.2.2.1⟩)
          go_simp
          refine Calls.mono hC ?_
          clear hC
          rintro e U19 ⟨hb7, rfl⟩
          have hS7 : (fun w' => w'.heap[w.heap.size]? = some (.cells #[.int .u64 a0, .int .u64 a1, .int .u64 a2, .int .u64 a3] 50) ∧ w'.heap[w.heap.size + 1]? = some (.cells #[.bool l, .slice ab m cb, .slice ai k ci] 25) ∧ w'.heap[w.heap.size + 1 + 1]? = some (.cells #[.bool l', .slice ab' m' cb', .slice ai' k' ci'] 25) ∧ w'.heap[p13]? = some (.cells #[.int .u64 s0, .int .u64 s1, .int .u64 s2, .int .u64 s3] 50) ∧ w'.heap[p15]? = some (.cells #[.int .u64 s0, .int .u64 s1, .int .u64 s2, .int .u64 s3] 50)) U19 := ⟨(hb7.block _ (heap_lt hHeld.1)).trans hHeld.1, (hb7.block _ (heap_lt hHeld.2.1)).trans hHeld.2.1, (hb7.block _ (heap_lt hHeld.2.2.1)).trans hHeld.2.2.1, (hb7.block _ (heap_lt hHeld.2.2.2.1)).trans hHeld.2.2.2.1, (hb7.block _ (heap_lt hHeld.2.2.2.2)).trans hHeld.2.2.2.2⟩
          have HI7 : Hid (Below w.heap.size w U19) := HI.out.1.trans (hb7.mono HI.out.1.size)
          clear HI hb7
          have HI : Hid (Below w.heap.size w U19) := HI7.out
          clear HI7
          refine hK.out _ _ hS7 (fun hHeld => ?_)
          clear hK K
          try simp only [List.getElem_toArray, List.getElem_cons_succ, List.getElem_cons_zero, Act.put, List.setIfInBounds_toArray, List.set_cons_zero, List.set_cons_succ]
          clear hS7
          refine wpAnyH_take (i := 58) (v := .bool true) rfl (by kernel_rfl) (by kernel_rfl) (by kernel_rfl) (fun _ _ _ h => h) (Or.inl ⟨by rfl, fun w9 hSw => ?_⟩) hHeld ?_
          · go_simp
          simp only [List.getElem_toArray, List.getElem_cons_succ, List.getElem_cons_zero, Act.put, List.setIfInBounds_toArray, List.set_cons_zero, List.set_cons_succ]
          refine wpAnyH_take (i := 59) (v := .bool true) rfl (by kernel_rfl) (by kernel_rfl) (by kernel_rfl) (fun _ _ _ h => h) (Or.inl ⟨by rfl, fun w9 hSw => ?_⟩) hHeld ?_
          · go_simp
          simp only [List.getElem_toArray, List.getElem_cons_succ, List.getElem_cons_zero, Act.put, List.setIfInBounds_toArray, List.set_cons_zero, List.set_cons_succ]
          refine wpAnyH_ready (rs := [60]) (by kernel_rfl) (by simp) ?_
          refine AllReadyH.cons rfl (fun K hK => ?_) AllReadyH.nil
          have hC := alive_any (w := U19)
          go_simp
          refine Calls.mono hC ?_
          clear hC
          rintro e U20 ⟨hb7, rfl⟩
          have hS7 : (fun w' => w'.heap[w.heap.size]? = some (.cells #[.int .u64 a0, .int .u64 a1, .int .u64 a2, .int .u64 a3] 50) ∧ w'.heap[w.heap.size + 1]? = some (.cells #[.bool l, .slice ab m cb, .slice ai k ci] 25) ∧ w'.heap[w.heap.size + 1 + 1]? = some (.cells #[.bool l', .slice ab' m' cb', .slice ai' k' ci'] 25) ∧ w'.heap[p13]? = some (.cells #[.int .u64 s0, .int .u64 s1, .int .u64 s2, .int .u64 s3] 50) ∧ w'.heap[p15]? = some (.cells #[.int .u64 s0, .int .u64 s1, .int .u64 s2, .int .u64 s3] 50)) U20 := ⟨(hb7.block _ (heap_lt hHeld.1)).trans hHeld.1, (hb7.block _ (heap_lt hHeld.2.1)).trans hHeld.2.1, (hb7.block _ (heap_lt hHeld.2.2.1)).trans hHeld.2.2.1, (hb7.block _ (heap_lt hHeld.2.2.2.1)).trans hHeld.2.2.2.1, (hb7.block _ (heap_lt hHeld.2.2.2.2)).trans hHeld.2.2.2.2⟩
          have HI7 : Hid (Below w.heap.size w U20) := HI.out.trans (hb7.mono HI.out.size)
          clear HI hb7
          have HI : Hid (Below w.heap.size w U20) := HI7.out
          clear HI7
          refine hK.out _ _ hS7 (fun hHeld => ?_)
          clear hK K
          try simp only [List.getElem_toArray, List.getElem_cons_succ, List.getElem_cons_zero, Act.put, List.setIfInBounds_toArray, List.set_cons_zero, List.set_cons_succ]
          clear hS7
          refine wpAnyH_take (i := 61) (v := .bool true) rfl (by kernel_rfl) (by kernel_rfl) (by kernel_rfl) (fun _ _ _ h => h) (Or.inl ⟨by rfl, fun w9 hSw => ?_⟩) hHeld ?_
          · go_simp
          simp only [List.getElem_toArray, List.getElem_cons_succ, List.getElem_cons_zero, Act.put, List.setIfInBounds_toArray, List.set_cons_zero, List.set_cons_succ]
          refine wpAnyH_take (i := 62) (v := .bool true) rfl (by kernel_rfl) (by kernel_rfl) (by kernel_rfl) (fun _ _ _ h => h) (Or.inl ⟨by rfl, fun w9 hSw => ?_⟩) hHeld ?_
          · go_simp
          simp only [List.getElem_toArray, List.getElem_cons_succ, List.getElem_cons_zero, Act.put, List.setIfInBounds_toArray, List.set_cons_zero, List.set_cons_succ]
          refine wpAnyH_done (by kernel_rfl) ?_ _
          simp only [noP]
          clear hHeld
          go_wp2
          go_ret
          exact ⟨HI.out, rfl⟩
      · go_simp
        have hb7 : Below U14.heap.size U14 (U14.alloc (.cells #[.bool l, .slice ab m cb, .slice ai k ci, .bool l', .slice ab' m' cb', .slice ai' k' ci'] 25)) := by go_grown
        have hS7 : (fun w' => w'.heap[w.heap.size]? = some (.cells #[.int .u64 a0, .int .u64 a1, .int .u64 a2, .int .u64 a3] 50) ∧ w'.heap[w.heap.size + 1]? = some (.cells #[.bool l, .slice ab m cb, .slice ai k ci] 25) ∧ w'.heap[w.heap.size + 1 + 1]? = some (.cells #[.bool l', .slice ab' m' cb', .slice ai' k' ci'] 25) ∧ w'.heap[p13]? = some (.cells #[.int .u64 s0, .int .u64 s1, .int .u64 s2, .int .u64 s3] 50) ∧ w'.heap[p15]? = some (.cells #[.int .u64 s0, .int .u64 s1, .int .u64 s2, .int .u64 s3] 50)) (U14.alloc (.cells #[.bool l, .slice ab m cb, .slice ai k ci, .bool l', .slice ab' m' cb', .slice ai' k' ci'] 25)) := ⟨(hb7.block _ (heap_lt hHeld.1)).trans hHeld.1, (hb7.block _ (heap_lt hHeld.2.1)).trans hHeld.2.1, (hb7.block _ (heap_lt hHeld.2.2.1)).trans hHeld.2.2.1, (hb7.block _ (heap_lt hHeld.2.2.2.1)).trans hHeld.2.2.2.1, (hb7.block _ (heap_lt hHeld.2.2.2.2)).trans hHeld.2.2.2.2⟩
        have hit := two_itsR X Y (HI.out.2.1) (HI.out.2.2.1)
        rw [← HL.out.1, ← HL.out.2.2.1] at hit
        have HI7 : Hid (Below w.heap.size w (U14.alloc (.cells #[.bool l, .slice ab m cb, .slice ai k ci, .bool l', .slice ab' m' cb', .slice ai' k' ci'] 25)) ∧ ItV (U14.alloc (.cells #[.bool l, .slice ab m cb, .slice ai k ci, .bool l', .slice ab' m' cb', .slice ai' k' ci'] 25)) (fun b => b < (U14.alloc (.cells #[.bool l, .slice ab m cb, .slice ai k ci, .bool l', .slice ab' m' cb', .slice ai' k' ci'] 25)).heap.size) (.slice ab m cb) (.slice ai k ci) X ∧ ItV (U14.alloc (.cells #[.bool l, .slice ab m cb, .slice ai k ci, .bool l', .slice ab' m' cb', .slice ai' k' ci'] 25)) (fun b => b < (U14.alloc (.cells #[.bool l, .slice ab m cb, .slice ai k ci, .bool l', .slice ab' m' cb', .slice ai' k' ci'] 25)).heap.size) (.slice ab' m' cb') (.slice ai' k' ci') Y ∧ ItV (U14.alloc (.cells #[.bool l, .slice ab m cb, .slice ai k ci, .bool l', .slice ab' m' cb', .slice ai' k' ci'] 25)) (fun b => b < (U14.alloc (.cells #[.bool l, .slice ab m cb, .slice ai k ci, .bool l', .slice ab' m' cb', .slice ai' k' ci'] 25)).heap.size) (.slice ab m cb) (.slice ua k uc) X ∧ ItV (U14.alloc (.cells #[.bool l, .slice ab m cb, .slice ai k ci, .bool l', .slice ab' m' cb', .slice ai' k' ci'] 25)) (fun b => b < (U14.alloc (.cells #[.bool l, .slice ab m cb, .slice ai k ci, .bool l', .slice ab' m' cb', .slice ai' k' ci'] 25)).heap.size) (.slice ab' m' cb') (.slice va k' vc) Y ∧ ItsV (U14.alloc (.cells #[.bool l, .slice ab m cb, .slice ai k ci, .bool l', .slice ab' m' cb', .slice ai' k' ci'] 25)) (fun b => b < (U14.alloc (.cells #[.bool l, .slice ab m cb, .slice ai k ci, .bool l', .slice ab' m' cb', .slice ai' k' ci'] 25)).heap.size) (.slice (some ⟨U14.heap.size, 0, none⟩) 2 2) [X, Y]) := ⟨HI.out.1.trans (hb7.mono HI.out.1.size), (HI.out.2.1).up hb7, (HI.out.2.2.1).up hb7, (HI.out.2.2.2.1).up hb7, (HI.out.2.2.2.2).up hb7, hit⟩
        clear HI hb7 hit
        have HI : Hid (Below w.heap.size w (U14.alloc (.cells #[.bool l, .slice ab m cb, .slice ai k ci, .bool l', .slice ab' m' cb', .slice ai' k' ci'] 25)) ∧ ItV (U14.alloc (.cells #[.bool l, .slice ab m cb, .slice ai k ci, .bool l', .slice ab' m' cb', .slice ai' k' ci'] 25)) (fun b => b < (U14.alloc (.cells #[.bool l, .slice ab m cb, .slice ai k ci, .bool l', .slice ab' m' cb', .slice ai' k' ci'] 25)).heap.size) (.slice ab m cb) (.slice ai k ci) X ∧ ItV (U14.alloc (.cells #[.bool l, .slice ab m cb, .slice ai k ci, .bool l', .slice ab' m' cb', .slice ai' k' ci'] 25)) (fun b => b < (U14.alloc (.cells #[.bool l, .slice ab m cb, .slice ai k ci, .bool l', .slice ab' m' cb', .slice ai' k' ci'] 25)).heap.size) (.slice ab' m' cb') (.slice ai' k' ci') Y ∧ ItV (U14.alloc (.cells #[.bool l, .slice ab m cb, .slice ai k ci, .bool l', .slice ab' m' cb', .slice ai' k' ci'] 25)) (fun b => b < (U14.alloc (.cells #[.bool l, .slice ab m cb, .slice ai k ci, .bool l', .slice ab' m' cb', .slice ai' k' ci'] 25)).heap.size) (.slice ab m cb) (.slice ua k uc) X ∧ ItV (U14.alloc (.cells #[.bool l, .slice ab m cb, .slice ai k ci, .bool l', .slice ab' m' cb', .slice ai' k' ci'] 25)) (fun b => b < (U14.alloc (.cells #[.bool l, .slice ab m cb, .slice ai k ci, .bool l', .slice ab' m' cb', .slice ai' k' ci'] 25)).heap.size) (.slice ab' m' cb') (.slice va k' vc) Y ∧ ItsV (U14.alloc (.cells #[.bool l, .slice ab m cb, .slice ai k ci, .bool l', .slice ab' m' cb', .slice ai' k' ci'] 25)) (fun b => b < (U14.alloc (.cells #[.bool l, .slice ab m cb, .slice ai k ci, .bool l', .slice ab' m' cb', .slice ai' k' ci'] 25)).heap.size) (.slice (some ⟨U14.heap.size, 0, none⟩) 2 2) [X, Y]) := HI7.out
        clear HI7
        obtain ⟨gz, hgz⟩ : ∃ gz, gz = U14.heap.size := ⟨_, rfl⟩
        rw [← hgz] at HI ⊢
        clear hgz
        refine hK.out _ _ hS7 (fun hHeld => ?_)
        clear hK K
        try simp only [List.getElem_toArray, List.getElem_cons_succ, List.getElem_cons_zero, Act.put, List.setIfInBounds_toArray, List.set_cons_zero, List.set_cons_succ]
        clear hS7
        generalize (U14.alloc (.cells #[.bool l, .slice ab m cb, .slice ai k ci, .bool l', .slice ab' m' cb', .slice ai' k' ci'] 25)) = U15 at HI hHeld ⊢
        refine wpAnyH_take (i := 56) (v := .agg #[.bool true, .slice none 0 0, .slice (some ⟨gz, 0, none⟩) 2 2]) rfl (by kernel_rfl) (by kernel_rfl) (by kernel_rfl) (fun _ _ _ h => h) (Or.inl ⟨by rfl, fun w9 hSw => ?_⟩) hHeld ?_
        · go_simp
        simp only [List.getElem_toArray, List.getElem_cons_succ, List.getElem_cons_zero, Act.put, List.setIfInBounds_toArray, List.set_cons_zero, List.set_cons_succ]
        refine wpAnyH_ready (rs := [50]) (by kernel_rfl) (by simp) ?_
        refine AllReadyH.cons rfl (fun K hK => ?_) AllReadyH.nil
        go_simp
        have hb7 : Below U15.heap.size U15 (U15.alloc (.cells #[.bool l, .slice ab m cb, .slice ua k uc, .bool l', .slice ab' m' cb', .slice va k' vc] 31)) := by go_grown
        have hS7 : (fun w' => w'.heap[w.heap.size]? = some (.cells #[.int .u64 a0, .int .u64 a1, .int .u64 a2, .int .u64 a3] 50) ∧ w'.heap[w.heap.size + 1]? = some (.cells #[.bool l, .slice ab m cb, .slice ai k ci] 25) ∧ w'.heap[w.heap.size + 1 + 1]? = some (.cells #[.bool l', .slice ab' m' cb', .slice ai' k' ci'] 25) ∧ w'.heap[p13]? = some (.cells #[.int .u64 s0, .int .u64 s1, .int .u64 s2, .int .u64 s3] 50) ∧ w'.heap[p15]? = some (.cells #[.int .u64 s0, .int .u64 s1, .int .u64 s2, .int .u64 s3] 50)) (U15.alloc (.cells #[.bool l, .slice ab m cb, .slice ua k uc, .bool l', .slice ab' m' cb', .slice va k' vc] 31)) := ⟨(hb7.block _ (heap_lt hHeld.1)).trans hHeld.1, (hb7.block _ (heap_lt hHeld.2.1)).trans hHeld.2.1, (hb7.block _ (heap_lt hHeld.2.2.1)).trans hHeld.2.2.1, (hb7.block _ (heap_lt hHeld.2.2.2.1)).trans hHeld.2.2.2.1, (hb7.block _ (heap_lt hHeld.2.2.2.2)).trans hHeld.2.2.2.2⟩
        have hit := two_its X Y (HI.out.2.2.2.1) (HI.out.2.2.2.2.1)
        rw [← HL.out.1, ← HL.out.2.2.1] at hit
        have HI7 : Hid (Below w.heap.size w (U15.alloc (.cells #[.bool l, .slice ab m cb, .slice ua k uc, .bool l', .slice ab' m' cb', .slice va k' vc] 31)) ∧ ItV (U15.alloc (.cells #[.bool l, .slice ab m cb, .slice ua k uc, .bool l', .slice ab' m' cb', .slice va k' vc] 31)) (fun b => b < (U15.alloc (.cells #[.bool l, .slice ab m cb, .slice ua k uc, .bool l', .slice ab' m' cb', .slice va k' vc] 31)).heap.size) (.slice ab m cb) (.slice ai k ci) X ∧ ItV (U15.alloc (.cells #[.bool l, .slice ab m cb, .slice ua k uc, .bool l', .slice ab' m' cb', .slice va k' vc] 31)) (fun b => b < (U15.alloc (.cells #[.bool l, .slice ab m cb, .slice ua k uc, .bool l', .slice ab' m' cb', .slice va k' vc] 31)).heap.size) (.slice ab' m' cb') (.slice ai' k' ci') Y ∧ ItsV (U15.alloc (.cells #[.bool l, .slice ab m cb, .slice ua k uc, .bool l', .slice ab' m' cb', .slice va k' vc] 31)) (fun b => b < (U15.alloc (.cells #[.bool l, .slice ab m cb, .slice ua k uc, .bool l', .slice ab' m' cb', .slice va k' vc] 31)).heap.size) (.slice (some ⟨gz, 0, none⟩) 2 2) [X, Y] ∧ ItsV (U15.alloc (.cells #[.bool l, .slice ab m cb, .slice ua k uc, .bool l', .slice ab' m' cb', .slice va k' vc] 31)) (fun b => b < (U15.alloc (.cells #[.bool l, .slice ab m cb, .slice ua k uc, .bool l', .slice ab' m' cb', .slice va k' vc] 31)).heap.size) (.slice (some ⟨U15.heap.size, 0, none⟩) 2 2) [X, Y]) := ⟨HI.out.1.trans (hb7.mono HI.out.1.size), (HI.out.2.1).up hb7, (HI.out.2.2.1).up hb7, (HI.out.2.2.2.2.2).up hb7, hit⟩
        clear HI hb7 hit
        have HI : Hid (Below w.heap.size w (U15.alloc (.cells #[.bool l, .slice ab m cb, .slice ua k uc, .bool l', .slice ab' m' cb', .slice va k' vc] 31)) ∧ ItV (U15.alloc (.cells #[.bool l, .slice ab m cb, .slice ua k uc, .bool l', .slice ab' m' cb', .slice va k' vc] 31)) (fun b => b < (U15.alloc (.cells #[.bool l, .slice ab m cb, .slice ua k uc, .bool l', .slice ab' m' cb', .slice va k' vc] 31)).heap.size) (.slice ab m cb) (.slice ai k ci) X ∧ ItV (U15.alloc (.cells #[.bool l, .slice ab m cb, .slice ua k uc, .bool l', .slice ab' m' cb', .slice va k' vc] 31)) (fun b => b < (U15.alloc (.cells #[.bool l, .slice ab m cb, .slice ua k uc, .bool l', .slice ab' m' cb', .slice va k' vc] 31)).heap.size) (.slice ab' m' cb') (.slice ai' k' ci') Y ∧ ItsV (U15.alloc (.cells #[.bool l, .slice ab m cb, .slice ua k uc, .bool l', .slice ab' m' cb', .slice va k' vc] 31)) (fun b => b < (U15.alloc (.cells #[.bool l, .slice ab m cb, .slice ua k uc, .bool l', .slice ab' m' cb', .slice va k' vc] 31)).heap.size) (.slice (some ⟨gz, 0, none⟩) 2 2) [X, Y] ∧ ItsV (U15.alloc (.cells #[.bool l, .slice ab m cb, .slice ua k uc, .bool l', .slice ab' m' cb', .slice va k' vc] 31)) (fun b => b < (U15.alloc (.cells #[.bool l, .slice ab m cb, .slice ua k uc, .bool l', .slice ab' m' cb', .slice va k' vc] 31)).heap.size) (.slice (some ⟨U15.heap.size, 0, none⟩) 2 2) [X, Y]) := HI7.out
        clear HI7
        obtain ⟨gl, hgl⟩ : ∃ gl, gl = U15.heap.size := ⟨_, rfl⟩
        rw [← hgl] at HI ⊢
        clear hgl
        refine hK.out _ _ hS7 (fun hHeld => ?_)
        clear hK K
        try simp only [List.getElem_toArray, List.getElem_cons_succ, List.getElem_cons_zero, Act.put, List.setIfInBounds_toArray, List.set_cons_zero, List.set_cons_succ]
        clear hS7
        generalize (U15.alloc (.cells #[.bool l, .slice ab m cb, .slice ua k uc, .bool l', .slice ab' m' cb', .slice va k' vc] 31)) = U16 at HI hHeld ⊢
        refine wpAnyH_ready (rs := [51]) (by kernel_rfl) (by simp) ?_
        refine AllReadyH.cons rfl (fun K hK => ?_) AllReadyH.nil
        have hC := C28.out U16 _ (HI.out.2.2.2.2)
        go_simp
        refine Calls.mono hC ?_
        clear hC
        rintro e U17 ⟨hb7, la, lc, rfl, hit⟩
        have hS7 : (fun w' => w'.heap[w.heap.size]? = some (.cells #[.int .u64 a0, .int .u64 a1, .int .u64 a2, .int .u64 a3] 50) ∧ w'.heap[w.heap.size + 1]? = some (.cells #[.bool l, .slice ab m cb, .slice ai k ci] 25) ∧ w'.heap[w.heap.size + 1 + 1]? = some (.cells #[.bool l', .slice ab' m' cb', .slice ai' k' ci'] 25) ∧ w'.heap[p13]? = some (.cells #[.int .u64 s0, .int .u64 s1, .int .u64 s2, .int .u64 s3] 50) ∧ w'.heap[p15]? = some (.cells #[.int .u64 s0, .int .u64 s1, .int .u64 s2, .int .u64 s3] 50)) U17 := ⟨(hb7.block _ (heap_lt hHeld.1)).trans hHeld.1, (hb7.block _ (heap_lt hHeld.2.1)).trans hHeld.2.1, (hb7.block _ (heap_lt hHeld.2.2.1)).trans hHeld.2.2.1, (hb7.block _ (heap_lt hHeld.2.2.2.1)).trans hHeld.2.2.2.1, (hb7.block _ (heap_lt hHeld.2.2.2.2)).trans hHeld.2.2.2.2⟩
        have HI7 : Hid (Below w.heap.size w U17 ∧ ItV U17 (fun b => b < U17.heap.size) (.slice ab m cb) (.slice ai k ci) X ∧ ItV U17 (fun b => b < U17.heap.size) (.slice ab' m' cb') (.slice ai' k' ci') Y ∧ ItsV U17 (fun b => b < U17.heap.size) (.slice (some ⟨gz, 0, none⟩) 2 2) [X, Y] ∧ ItV U17 (fun b => b < U17.heap.size) (.slice none 0 0) (.slice la 2 lc) T3) := ⟨HI.out.1.trans (hb7.mono HI.out.1.size), (HI.out.2.1).up hb7, (HI.out.2.2.1).up hb7, (HI.out.2.2.2.1).up hb7, hit⟩
        clear HI hb7
        have HI : Hid (Below w.heap.size w U17 ∧ ItV U17 (fun b => b < U17.heap.size) (.slice ab m cb) (.slice ai k ci) X ∧ ItV U17 (fun b => b < U17.heap.size) (.slice ab' m' cb') (.slice ai' k' ci') Y ∧ ItsV U17 (fun b => b < U17.heap.size) (.slice (some ⟨gz, 0, none⟩) 2 2) [X, Y] ∧ ItV U17 (fun b => b < U17.heap.size) (.slice none 0 0) (.slice la 2 lc) T3) := HI7.out
        clear HI7
        refine hK.out _ _ hS7 (fun hHeld => ?_)
        clear hK K
        try simp only [List.getElem_toArray, List.getElem_cons_succ, List.getElem_cons_zero, Act.put, List.setIfInBounds_toArray, List.set_cons_zero, List.set_cons_succ]
        clear hS7
        clear hit
        refine wpAnyH_ready (rs := [52]) (by kernel_rfl) (by simp) ?_
        refine AllReadyH.cons rfl (fun K hK => ?_) AllReadyH.nil
        have hC := th_f (T := T3) (tl := true) (tk := 2) (by rw [HT.out.2.2]; rfl) (by rw [HT.out.2.2]; rfl) (HI.out.2.2.2.2)
        go_simp
        refine Calls.mono hC ?_
        clear hC
        rintro e U18 ⟨hb7, ma, mc, rfl, hit⟩
        have hS7 : (fun w' => w'.heap[w.heap.size]? = some (.cells #[.int .u64 a0, .int .u64 a1, .int .u64 a2, .int .u64 a3] 50) ∧ w'.heap[w.heap.size + 1]? = some (.cells #[.bool l, .slice ab m cb, .slice ai k ci] 25) ∧ w'.heap[w.heap.size + 1 + 1]? = some (.cells #[.bool l', .slice ab' m' cb', .slice ai' k' ci'] 25) ∧ w'.heap[p13]? = some (.cells #[.int .u64 s0, .int .u64 s1, .int .u64 s2, .int .u64 s3] 50) ∧ w'.heap[p15]? = some (.cells #[.int .u64 s0, .int .u64 s1, .int .u64 s2, .int .u64 s3] 50)) U18 := ⟨(hb7.block _ (heap_lt hHeld.1)).trans hHeld.1, (hb7.block _ (heap_lt hHeld.2.1)).trans hHeld.2.1, (hb7.block _ (heap_lt hHeld.2.2.1)).trans hHeld.2.2.1, (hb7.block _ (heap_lt hHeld.2.2.2.1)).trans hHeld.2.2.2.1, (hb7.block _ (heap_lt hHeld.2.2.2.2)).trans hHeld.2.2.2.2⟩
        have HI7 : Hid (Below w.heap.size w U18 ∧ ItV U18 (fun b => b < U18.heap.size) (.slice ab m cb) (.slice ai k ci) X ∧ ItV U18 (fun b => b < U18.heap.size) (.slice ab' m' cb') (.slice ai' k' ci') Y ∧ ItsV U18 (fun b => b < U18.heap.size) (.slice (some ⟨gz, 0, none⟩) 2 2) [X, Y] ∧ ItV U18 (fun b => b < U18.heap.size) (.slice none 0 0) (.slice ma 2 mc) T3) := ⟨HI.out.1.trans (hb7.mono HI.out.1.size), (HI.out.2.1).up hb7, (HI.out.2.2.1).up hb7, (HI.out.2.2.2.1).up hb7, hit⟩
        clear HI hb7
        have HI : Hid (Below w.heap.size w U18 ∧ ItV U18 (fun b => b < U18.heap.size) (.slice ab m cb) (.slice ai k ci) X ∧ ItV U18 (fun b => b < U18.heap.size) (.slice ab' m' cb') (.slice ai' k' ci') Y ∧ ItsV U18 (fun b => b < U18.heap.size) (.slice (some ⟨gz, 0, none⟩) 2 2) [X, Y] ∧ ItV U18 (fun b => b < U18.heap.size) (.slice none 0 0) (.slice ma 2 mc) T3) := HI7.out
        clear HI7
        refine hK.out _ _ hS7 (fun hHeld => ?_)
        clear hK K
        try simp only [List.getElem_toArray, List.getElem_cons_succ, List.getElem_cons_zero, Act.put, List.setIfInBounds_toArray, List.set_cons_zero, List.set_cons_succ]
        clear hS7
        clear hit
        refine wpAnyH_ready (rs := [57]) (by kernel_rfl) (by simp) ?_
        refine AllReadyH.cons rfl (fun K hK => ?_) AllReadyH.nil
        have hC := rs_f (T := T3) (tl := true) (sb := .slice none 0 0) (si := .slice ma 2 mc) (sb' := .slice none 0 0) (si' := .slice (some ⟨gz, 0, none⟩) 2 2) (by rw [HT.out.2.2]; rfl) (HI.out.2.2.2.2) (by rw [HT.out.2.2]; exact ⟨⟨Or.inl ⟨rfl, rfl⟩, fun b hb' => (by have h9 := dBlock_own hb'; cases h9), by show (0 : Nat) ≤ _; omega⟩, HI.out.2.2.2.1⟩)
        go_simp
        refine Calls.mono hC ?_
        clear hC
        rintro e U19 ⟨hb7, rfl⟩
        have hS7 : (fun w' => w'.heap[w.heap.size]? = some (.cells #[.int .u64 a0, .int .u64 a1, .int .u64 a2, .int .u64 a3] 50) ∧ w'.heap[w.heap.size + 1]? = some (.cells #[.bool l, .slice ab m cb, .slice ai k ci] 25) ∧ w'.heap[w.heap.size + 1 + 1]? = some (.cells #[.bool l', .slice ab' m' cb', .slice ai' k' ci'] 25) ∧ w'.heap[p13]? = some (.cells #[.int .u64 s0, .int .u64 s1, .int .u64 s2, .int .u64 s3] 50) ∧ w'.heap[p15]? = some (.cells #[.int .u64 s0, .int .u64 s1, .int .u64 s2, .int .u64 s3] 50)) U19 := ⟨(hb7.block _ (heap_lt hHeld.1)).trans hHeld.1, (hb7.block _ (heap_lt hHeld.2.1)).trans hHeld.2.1, (hb7.block _ (heap_lt hHeld.2.2.1)).trans hHeld.2.2.1, (hb7.block _ (heap_lt hHeld.2.2.2.1)).trans hHeld.2.2.2.1, (hb7.block _ (heap_lt hHeld.2.2.2.2)).trans hHeld.2.2.2.2⟩
        have HI7 : Hid (Below w.heap.size w U19) := HI.out.1.trans (hb7.mono HI.out.1.size)
        clear HI hb7
        have HI : Hid (Below w.heap.size w U19) := HI7.out
        clear HI7
        refine hK.out _ _ hS7 (fun hHeld => ?_)
        clear hK K
        try simp only [List.getElem_toArray, List.getElem_cons_succ, List.getElem_cons_zero, Act.put, List.setIfInBounds_toArray, List.set_cons_zero, List.set_cons_succ]
        clear hS7
        refine wpAnyH_take (i := 58) (v := .bool true) rfl (by kernel_rfl) (by kernel_rfl) (by kernel_rfl) (fun _ _ _ h => h) (Or.inl ⟨by rfl, fun w9 hSw => ?_⟩) hHeld ?_
        · go_simp
        simp only [List.getElem_toArray, List.getElem_cons_succ, List.getElem_cons_zero, Act.put, List.setIfInBounds_toArray, List.set_cons_zero, List.set_cons_succ]
        refine wpAnyH_take (i := 59) (v := .bool true) rfl (by kernel_rfl) (by kernel_rfl) (by kernel_rfl) (fun _ _ _ h => h) (Or.inl ⟨by rfl, fun w9 hSw => ?_⟩) hHeld ?_
        · go_simp
        simp only [List.getElem_toArray, List.getElem_cons_succ, List.getElem_cons_zero, Act.put, List.setIfInBounds_toArray, List.set_cons_zero, List.set_cons_succ]
        refine wpAnyH_ready (rs := [60]) (by kernel_rfl) (by simp) ?_
        refine AllReadyH.cons rfl (fun K hK => ?_) AllReadyH.nil
        have hC := alive_any (w := U19)
        go_simp
        refine Calls.mono hC ?_
        clear hC
        rintro e U20 ⟨hb7, rfl⟩
        have hS7 : (fun w' => w'.heap[w.heap.size]? = some (.cells #[.int .u64 a0, .int .u64 a1, .int .u64 a2, .int .u64 a3] 50) ∧ w'.heap[w.heap.size + 1]? = some (.cells #[.bool l, .slice ab m cb, .slice ai k ci] 25) ∧ w'.heap[w.heap.size + 1 + 1]? = some (.cells #[.bool l', .slice ab' m' cb', .slice ai' k' ci'] 25) ∧ w'.heap[p13]? = some (.cells #[.int .u64 s0, .int .u64 s1, .int .u64 s2, .int .u64 s3] 50) ∧ w'.heap[p15]? = some (.cells #[.int .u64 s0, .int .u64 s1, .int .u64 s2, .int .u64 s3] 50)) U20 := ⟨(hb7.block _ (heap_lt hHeld.1)).trans hHeld.1, (hb7.block _ (heap_lt hHeld.2.1)).trans hHeld.2.1, (hb7.block _ (heap_lt hHeld.2.2.1)).trans hHeld.2.2.1, (hb7.block _ (heap_lt hHeld.2.2.2.1)).trans hHeld.2.2.2.1, (hb7.block _ (heap_lt hHeld.2.2.2.2)).trans hHeld.2.2.2.2⟩
        have HI7 : Hid (Below w.heap.size w U20) := HI.out.trans (hb7.mono HI.out.size)
        clear HI hb7
        have HI : Hid (Below w.heap.size w U20) := HI7.out
        clear HI7
        refine hK.out _ _ hS7 (fun hHeld => ?_)
        clear hK K
        try simp only [List.getElem_toArray, List.getElem_cons_succ, List.getElem_cons_zero, Act.put, List.setIfInBounds_toArray, List.set_cons_zero, List.set_cons_succ]
        clear hS7
        refine wpAnyH_take (i := 61) (v := .bool true) rfl (by kernel_rfl) (by kernel_rfl) (by kernel_rfl) (fun _ _ _ h => h) (Or.inl ⟨by rfl, fun w9 hSw => ?_⟩) hHeld ?_
        · go_simp
        simp only [List.getElem_toArray, List.getElem_cons_succ, List.getElem_cons_zero, Act.put, List.setIfInBounds_toArray, List.set_cons_zero, List.set_cons_succ]
        refine wpAnyH_take (i := 62) (v := .bool true) rfl (by kernel_rfl) (by kernel_rfl) (by kernel_rfl) (fun _ _ _ h => h) (Or.inl ⟨by rfl, fun w9 hSw => ?_⟩) hHeld ?_
        · go_simp
        simp only [List.getElem_toArray, List.getElem_cons_succ, List.getElem_cons_zero, Act.put, List.setIfInBounds_toArray, List.set_cons_zero, List.set_cons_succ]
        refine wpAnyH_done (by kernel_rfl) ?_ _
        simp only [noP]
        clear hHeld
        go_wp2
        go_ret
        exact ⟨HI.out, rfl⟩
    · go_simp
      have hb7 : Below U13.heap.size U13 (U13.alloc (.cells #[.bool l, .slice ab m cb, .slice ai k ci, .bool l', .slice ab' m' cb', .slice ai' k' ci'] 25)) := by go_grown
      have hS7 : (fun w' => w'.heap[w.heap.size]? = some (.cells #[.int .u64 a0, .int .u64 a1, .int .u64 a2, .int .u64 a3] 50) ∧ w'.heap[w.heap.size + 1]? = some (.cells #[.bool l, .slice ab m cb, .slice ai k ci] 25) ∧ w'.heap[w.heap.size + 1 + 1]? = some (.cells #[.bool l', .slice ab' m' cb', .slice ai' k' ci'] 25) ∧ w'.heap[p13]? = some (.cells #[.int .u64 s0, .int .u64 s1, .int .u64 s2, .int .u64 s3] 50) ∧ w'.heap[p15]? = some (.cells #[.int .u64 s0, .int .u64 s1, .int .u64 s2, .int .u64 s3] 50)) (U13.alloc (.cells #[.bool l, .slice ab m cb, .slice ai k ci, .bool l', .slice ab' m' cb', .slice ai' k' ci'] 25)) := ⟨(hb7.block _ (heap_lt hHeld.1)).trans hHeld.1, (hb7.block _ (heap_lt hHeld.2.1)).trans hHeld.2.1, (hb7.block _ (heap_lt hHeld.2.2.1)).trans hHeld.2.2.1, (hb7.block _ (heap_lt hHeld.2.2.2.1)).trans hHeld.2.2.2.1, (hb7.block _ (heap_lt hHeld.2.2.2.2)).trans hHeld.2.2.2.2⟩
      have hit := two_itsR X Y (HI.out.2.1) (HI.out.2.2.1)
      rw [← HL.out.1, ← HL.out.2.2.1] at hit
      have HI7 : Hid (Below w.heap.size w (U13.alloc (.cells #[.bool l, .slice ab m cb, .slice ai k ci, .bool l', .slice ab' m' cb', .slice ai' k' ci'] 25)) ∧ ItV (U13.alloc (.cells #[.bool l, .slice ab m cb, .slice ai k ci, .bool l', .slice ab' m' cb', .slice ai' k' ci'] 25)) (fun b => b < (U13.alloc (.cells #[.bool l, .slice ab m cb, .slice ai k ci, .bool l', .slice ab' m' cb', .slice ai' k' ci'] 25)).heap.size) (.slice ab m cb) (.slice ai k ci) X ∧ ItV (U13.alloc (.cells #[.bool l, .slice ab m cb, .slice ai k ci, .bool l', .slice ab' m' cb', .slice ai' k' ci'] 25)) (fun b => b < (U13.alloc (.cells #[.bool l, .slice ab m cb, .slice ai k ci, .bool l', .slice ab' m' cb', .slice ai' k' ci'] 25)).heap.size) (.slice ab' m' cb') (.slice ai' k' ci') Y ∧ ItV (U13.alloc (.cells #[.bool l, .slice ab m cb, .slice ai k ci, .bool l', .slice ab' m' cb', .slice ai' k' ci'] 25)) (fun b => b < (U13.alloc (.cells #[.bool l, .slice ab m cb, .slice ai k ci, .bool l', .slice ab' m' cb', .slice ai' k' ci'] 25)).heap.size) (.slice ab m cb) (.slice ua k uc) X ∧ ItsV (U13.alloc (.cells #[.bool l, .slice ab m cb, .slice ai k ci, .bool l', .slice ab' m' cb', .slice ai' k' ci'] 25)) (fun b => b < (U13.alloc (.cells #[.bool l, .slice ab m cb, .slice ai k ci, .bool l', .slice ab' m' cb', .slice ai' k' ci'] 25)).heap.size) (.slice (some ⟨U13.heap.size, 0, none⟩) 2 2) [X, Y]) := ⟨HI.out.1.trans (hb7.mono HI.out.1.size), (HI.out.2.1).up hb7, (HI.out.2.2.1).up hb7, (HI.out.2.2.2).up hb7, hit⟩
      clear HI hb7 hit
      have HI : Hid (Below w.heap.size w (U13.alloc (.cells #[.bool l, .slice ab m cb, .slice ai k ci, .bool l', .slice ab' m' cb', .slice ai' k' ci'] 25)) ∧ ItV (U13.alloc (.cells #[.bool l, .slice ab m cb, .slice ai k ci, .bool l', .slice ab' m' cb', .slice ai' k' ci'] 25)) (fun b => b < (U13.alloc (.cells #[.bool l, .slice ab m cb, .slice ai k ci, .bool l', .slice ab' m' cb', .slice ai' k' ci'] 25)).heap.size) (.slice ab m cb) (.slice ai k ci) X ∧ ItV (U13.alloc (.cells #[.bool l, .slice ab m cb, .slice ai k ci, .bool l', .slice ab' m' cb', .slice ai' k' ci'] 25)) (fun b => b < (U13.alloc (.cells #[.bool l, .slice ab m cb, .slice ai k ci, .bool l', .slice ab' m' cb', .slice ai' k' ci'] 25)).heap.size) (.slice ab' m' cb') (.slice ai' k' ci') Y ∧ ItV (U13.alloc (.cells #[.bool l, .slice ab m cb, .slice ai k ci, .bool l', .slice ab' m' cb', .slice ai' k' ci'] 25)) (fun b => b < (U13.alloc (.cells #[.bool l, .slice ab m cb, .slice ai k ci, .bool l', .slice ab' m' cb', .slice ai' k' ci'] 25)).heap.size) (.slice ab m cb) (.slice ua k uc) X ∧ ItsV (U13.alloc (.cells #[.bool l, .slice ab m cb, .slice ai k ci, .bool l', .slice ab' m' cb', .slice ai' k' ci'] 25)) (fun b => b < (U13.alloc (.cells #[.bool l, .slice ab m cb, .slice ai k ci, .bool l', .slice ab' m' cb', .slice ai' k' ci'] 25)).heap.size) (.slice (some ⟨U13.heap.size, 0, none⟩) 2 2) [X, Y]) := HI7.out
      clear HI7
      obtain ⟨gz, hgz⟩ : ∃ gz, gz = U13.heap.size := ⟨_, rfl⟩
      rw [← hgz] at HI ⊢
      clear hgz
      refine hK.out _ _ hS7 (fun hHeld => ?_)
      clear hK K
      try simp only [List.getElem_toArray, List.getElem_cons_succ, List.getElem_cons_zero, Act.put, List.setIfInBounds_toArray, List.set_cons_zero, List.set_cons_succ]
      clear hS7
      generalize (U13.alloc (.cells #[.bool l, .slice ab m cb, .slice ai k ci, .bool l', .slice ab' m' cb', .slice ai' k' ci'] 25)) = U14 at HI hHeld ⊢
      refine wpAnyH_take (i := 56) (v := .agg #[.bool true, .slice none 0 0, .slice (some ⟨gz, 0, none⟩) 2 2]) rfl (by kernel_rfl) (by kernel_rfl) (by kernel_rfl) (fun _ _ _ h => h) (Or.inl ⟨by rfl, fun w9 hSw => ?_⟩) hHeld ?_
      · go_simp
      simp only [List.getElem_toArray, List.getElem_cons_succ, List.getElem_cons_zero, Act.put, List.setIfInBounds_toArray, List.set_cons_zero, List.set_cons_succ]
      refine wpAnyH_ready (rs := [49]) (by kernel_rfl) (by simp) ?_
      refine AllReadyH.cons rfl (fun K hK => ?_) AllReadyH.nil
      have hC := own_f HL.out.2.2.1 HL.out.2.2.2 (HI.out.2.2.1)
      go_simp
      refine Calls.mono hC ?_
      clear hC
      rintro e U15 ⟨hb7, va, vc, rfl, hit⟩
      have hS7 : (fun w' => w'.heap[w.heap.size]? = some (.cells #[.int .u64 a0, .int .u64 a1, .int .u64 a2, .int .u64 a3] 50) ∧ w'.heap[w.heap.size + 1]? = some (.cells #[.bool l, .slice ab m cb, .slice ai k ci] 25) ∧ w'.heap[w.heap.size + 1 + 1]? = some (.cells #[.bool l', .slice ab' m' cb', .slice ai' k' ci'] 25) ∧ w'.heap[p13]? = some (.cells #[.int .u64 s0, .int .u64 s1, .int .u64 s2, .int .u64 s3] 50) ∧ w'.heap[p15]? = some (.cells #[.int .u64 s0, .int .u64 s1, .int .u64 s2, .int .u64 s3] 50)) U15 := ⟨(hb7.block _ (heap_lt hHeld.1)).trans hHeld.1, (hb7.block _ (heap_lt hHeld.2.1)).trans hHeld.2.1, (hb7.block _ (heap_lt hHeld.2.2.1)).trans hHeld.2.2.1, (hb7.block _ (heap_lt hHeld.2.2.2.1)).trans hHeld.2.2.2.1, (hb7.block _ (heap_lt hHeld.2.2.2.2)).trans hHeld.2.2.2.2⟩
      have HI7 : Hid (Below w.heap.size w U15 ∧ ItV U15 (fun b => b < U15.heap.size) (.slice ab m cb) (.slice ai k ci) X ∧ ItV U15 (fun b => b < U15.heap.size) (.slice ab' m' cb') (.slice ai' k' ci') Y ∧ ItV U15 (fun b => b < U15.heap.size) (.slice ab m cb) (.slice ua k uc) X ∧ ItsV U15 (fun b => b < U15.heap.size) (.slice (some ⟨gz, 0, none⟩) 2 2) [X, Y] ∧ ItV U15 (fun b => b < U15.heap.size) (.slice ab' m' cb') (.slice va k' vc) Y) := ⟨HI.out.1.trans (hb7.mono HI.out.1.size), (HI.out.2.1).up hb7, (HI.out.2.2.1).up hb7, (HI.out.2.2.2.1).up hb7, (HI.out.2.2.2.2).up hb7, hit⟩
      clear HI hb7
      have HI : Hid (Below w.heap.size w U15 ∧ ItV U15 (fun b => b < U15.heap.size) (.slice ab m cb) (.slice ai k ci) X ∧ ItV U15 (fun b => b < U15.heap.size) (.slice ab' m' cb') (.slice ai' k' ci') Y ∧ ItV U15 (fun b => b < U15.heap.size) (.slice ab m cb) (.slice ua k uc) X ∧ ItsV U15 (fun b => b < U15.heap.size) (.slice (some ⟨gz, 0, none⟩) 2 2) [X, Y] ∧ ItV U15 (fun b => b < U15.heap.size) (.slice ab' m' cb') (.slice va k' vc) Y) := HI7.out
      clear HI7
      refine hK.out _ _ hS7 (fun hHeld => ?_)
      clear hK K
      try simp only [List.getElem_toArray, List.getElem_cons_succ, List.getElem_cons_zero, Act.put, List.setIfInBounds_toArray, List.set_cons_zero, List.set_cons_succ]
      clear hS7
      clear hit
      refine wpAnyH_ready (rs := [50]) (by kernel_rfl) (by simp) ?_
      refine AllReadyH.cons rfl (fun K hK => ?_) AllReadyH.nil
      go_simp
      have hb7 : Below U15.heap.size U15 (U15.alloc (.cells #[.bool l, .slice ab m cb, .slice ua k uc, .bool l', .slice ab' m' cb', .slice va k' vc] 31)) := by go_grown
      have hS7 : (fun w' => w'.heap[w.heap.size]? = some (.cells #[.int .u64 a0, .int .u64 a1, .int .u64 a2, .int .u64 a3] 50) ∧ w'.heap[w.heap.size + 1]? = some (.cells #[.bool l, .slice ab m cb, .slice ai k ci] 25) ∧ w'.heap[w.heap.size + 1 + 1]? = some (.cells #[.bool l', .slice ab' m' cb', .slice ai' k' ci'] 25) ∧ w'.heap[p13]? = some (.cells #[.int .u64 s0, .int .u64 s1, .int .u64 s2, .int .u64 s3] 50) ∧ w'.heap[p15]? = some (.cells #[.int .u64 s0, .int .u64 s1, .int .u64 s2, .int .u64 s3] 50)) (U15.alloc (.cells #[.bool l, .slice ab m cb, .slice ua k uc, .bool l', .slice ab' m' cb', .slice va k' vc] 31)) := ⟨(hb7.block _ (heap_lt hHeld.1)).trans hHeld.1, (hb7.block _ (heap_lt hHeld.2.1)).trans hHeld.2.1, (hb7.block _ (heap_lt hHeld.2.2.1)).trans hHeld.2.2.1, (hb7.block _ (heap_lt hHeld.2.2.2.1)).trans hHeld.2.2.2.1, (hb7.block _ (heap_lt hHeld.2.2.2.2)).trans hHeld.2.2.2.2⟩
      have hit := two_its X Y (HI.out.2.2.2.1) (HI.out.2.2.2.2.2)
      rw [← HL.out.1, ← HL.out.2.2.1] at hit
      have HI7 : Hid (Below w.heap.size w (U15.alloc (.cells #[.bool l, .slice ab m cb, .slice ua k uc, .bool l', .slice ab' m' cb', .slice va k' vc] 31)) ∧ ItV (U15.alloc (.cells #[.bool l, .slice ab m cb, .slice ua k uc, .bool l', .slice ab' m' cb', .slice va k' vc] 31)) (fun b => b < (U15.alloc (.cells #[.bool l, .slice ab m cb, .slice ua k uc, .bool l', .slice ab' m' cb', .slice va k' vc] 31)).heap.size) (.slice ab m cb) (.slice ai k ci) X ∧ ItV (U15.alloc (.cells #[.bool l, .slice ab m cb, .slice ua k uc, .bool l', .slice ab' m' cb', .slice va k' vc] 31)) (fun b => b < (U15.alloc (.cells #[.bool l, .slice ab m cb, .slice ua k uc, .bool l', .slice ab' m' cb', .slice va k' vc] 31)).heap.size) (.slice ab' m' cb') (.slice ai' k' ci') Y ∧ ItsV (U15.alloc (.cells #[.bool l, .slice ab m cb, .slice ua k uc, .bool l', .slice ab' m' cb', .slice va k' vc] 31)) (fun b => b < (U15.alloc (.cells #[.bool l, .slice ab m cb, .slice ua k uc, .bool l', .slice ab' m' cb', .slice va k' vc] 31)).heap.size) (.slice (some ⟨gz, 0, none⟩) 2 2) [X, Y] ∧ ItsV (U15.alloc (.cells #[.bool l, .slice ab m cb, .slice ua k uc, .bool l', .slice ab' m' cb', .slice va k' vc] 31)) (fun b => b < (U15.alloc (.cells #[.bool l, .slice ab m cb, .slice ua k uc, .bool l', .slice ab' m' cb', .slice va k' vc] 31)).heap.size) (.slice (some ⟨U15.heap.size, 0, none⟩) 2 2) [X, Y]) := ⟨HI.out.1.trans (hb7.mono HI.out.1.size), (HI.out.2.1).up hb7, (HI.out.2.2.1).up hb7, (HI.out.2.2.2.2.1).up hb7, hit⟩
      clear HI hb7 hit
      have HI : Hid (Below w.heap.size w (U15.alloc (.cells #[.bool l, .slice ab m cb, .slice ua k uc, .bool l', .slice ab' m' cb', .slice va k' vc] 31)) ∧ ItV (U15.alloc (.cells #[.bool l, .slice ab m cb, .slice ua k uc, .bool l', .slice ab' m' cb', .slice va k' vc] 31)) (fun b => b < (U15.alloc (.cells #[.bool l, .slice ab m cb, .slice ua k uc, .bool l', .slice ab' m' cb', .slice va k' vc] 31)).heap.size) (.slice ab m cb) (.slice ai k ci) X ∧ ItV (U15.alloc (.cells #[.bool l, .slice ab m cb, .slice ua k uc, .bool l', .slice ab' m' cb', .slice va k' vc] 31)) (fun b => b < (U15.alloc (.cells #[.bool l, .slice ab m cb, .slice ua k uc, .bool l', .slice ab' m' cb', .slice va k' vc] 31)).heap.size) (.slice ab' m' cb') (.slice ai' k' ci') Y ∧ ItsV (U15.alloc (.cells #[.bool l, .slice ab m cb, .slice ua k uc, .bool l', .slice ab' m' cb', .slice va k' vc] 31)) (fun b => b < (U15.alloc (.cells #[.bool l, .slice ab m cb, .slice ua k uc, .bool l', .slice ab' m' cb', .slice va k' vc] 31)).heap.size) (.slice (some ⟨gz, 0, none⟩) 2 2) [X, Y] ∧ ItsV (U15.alloc (.cells #[.bool l, .slice ab m cb, .slice ua k uc, .bool l', .slice ab' m' cb', .slice va k' vc] 31)) (fun b => b < (U15.alloc (.cells #[.bool l, .slice ab m cb, .slice ua k uc, .bool l', .slice ab' m' cb', .slice va k' vc] 31)).heap.size) (.slice (some ⟨U15.heap.size, 0, none⟩) 2 2) [X, Y]) := HI7.out
      clear HI7
      obtain ⟨gl, hgl⟩ : ∃ gl, gl = U15.heap.size := ⟨_, rfl⟩
      rw [← hgl] at HI ⊢
      clear hgl
      refine hK.out _ _ hS7 (fun hHeld => ?_)
      clear hK K
      try simp only [List.getElem_toArray, List.getElem_cons_succ, List.getElem_cons_zero, Act.put, List.setIfInBounds_toArray, List.set_cons_zero, List.set_cons_succ]
      clear hS7
      generalize (U15.alloc (.cells #[.bool l, .slice ab m cb, .slice ua k uc, .bool l', .slice ab' m' cb', .slice va k' vc] 31)) = U16 at HI hHeld ⊢
      refine wpAnyH_ready (rs := [51]) (by kernel_rfl) (by simp) ?_
      refine AllReadyH.cons rfl (fun K hK => ?_) AllReadyH.nil
      have hC := C28.out U16 _ (HI.out.2.2.2.2)
      go_simp
      refine Calls.mono hC ?_
      clear hC
      rintro e U17 ⟨hb7, la, lc, rfl, hit⟩
      have hS7 : (fun w' => w'.heap[w.heap.size]? = some (.cells #[.int .u64 a0, .int .u64 a1, .int .u64 a2, .int .u64 a3] 50) ∧ w'.heap[w.heap.size + 1]? = some (.cells #[.bool l, .slice ab m cb, .slice ai k ci] 25) ∧ w'.heap[w.heap.size + 1 + 1]? = some (.cells #[.bool l', .slice ab' m' cb', .slice ai' k' ci'] 25) ∧ w'.heap[p13]? = some (.cells #[.int .u64 s0, .int .u64 s1, .int .u64 s2, .int .u64 s3] 50) ∧ w'.heap[p15]? = some (.cells #[.int .u64 s0, .int .u64 s1, .int .u64 s2, .int .u64 s3] 50)) U17 := ⟨(hb7.block _ (heap_lt hHeld.1)).trans hHeld.1, (hb7.block _ (heap_lt hHeld.2.1)).trans hHeld.2.1, (hb7.block _ (heap_lt hHeld.2.2.1)).trans hHeld.2.2.1, (hb7.block _ (heap_lt hHeld.2.2.2.1)).trans hHeld.2.2.2.1, (hb7.block _ (heap_lt hHeld.2.2.2.2)).trans hHeld.2.2.2.2⟩
      have HI7 : Hid (Below w.heap.size w U17 ∧ ItV U17 (fun b => b < U17.heap.size) (.slice ab m cb) (.slice ai k ci) X ∧ ItV U17 (fun b => b < U17.heap.size) (.slice ab' m' cb') (.slice ai' k' ci') Y ∧ ItsV U17 (fun b => b < U17.heap.size) (.slice (some ⟨gz, 0, none⟩) 2 2) [X, Y] ∧ ItV U17 (fun b => b < U17.heap.size) (.slice none 0 0) (.slice la 2 lc) T3) := ⟨HI.out.1.trans (hb7.mono HI.out.1.size), (HI.out.2.1).up hb7, (HI.out.2.2.1).up hb7, (HI.out.2.2.2.1).up hb7, hit⟩
      clear HI hb7
      have HI : Hid (Below w.heap.size w U17 ∧ ItV U17 (fun b => b < U17.heap.size) (.slice ab m cb) (.slice ai k ci) X ∧ ItV U17 (fun b => b < U17.heap.size) (.slice ab' m' cb') (.slice ai' k' ci') Y ∧ ItsV U17 (fun b => b < U17.heap.size) (.slice (some ⟨gz, 0, none⟩) 2 2) [X, Y] ∧ ItV U17 (fun b => b < U17.heap.size) (.slice none 0 0) (.slice la 2 lc) T3) := HI7.out
      clear HI7
      refine hK.out _ _ hS7 (fun hHeld => ?_)
      clear hK K
      try simp only [List.getElem_toArray, List.getElem_cons_succ, List.getElem_cons_zero, Act.put, List.setIfInBounds_toArray, List.set_cons_zero, List.set_cons_succ]
      clear hS7
      clear hit
      refine wpAnyH_ready (rs := [52]) (by kernel_rfl) (by simp) ?_
      refine AllReadyH.cons rfl (fun K hK => ?_) AllReadyH.nil
      have hC := th_f (T := T3) (tl := true) (tk := 2) (by rw [HT.out.2.2]; rfl) (by rw [HT.out.2.2]; rfl) (HI.out.2.2.2.2)
      go_simp
      refine Calls.mono hC ?_
      clear hC
      rintro e U18 ⟨hb7, ma, mc, rfl, hit⟩
      have hS7 : (fun w' => w'.heap[w.heap.size]? = some (.cells #[.int .u64 a0, .int .u64 a1, .int .u64 a2, .int .u64 a3] 50) ∧ w'.heap[w.heap.size + 1]? = some (.cells #[.bool l, .slice ab m cb, .slice ai k ci] 25) ∧ w'.heap[w.heap.size + 1 + 1]? = some (.cells #[.bool l', .slice ab' m' cb', .slice ai' k' ci'] 25) ∧ w'.heap[p13]? = some (.cells #[.int .u64 s0, .int .u64 s1, .int .u64 s2, .int .u64 s3] 50) ∧ w'.heap[p15]? = some (.cells #[.int .u64 s0, .int .u64 s1, .int .u64 s2, .int .u64 s3] 50)) U18 := ⟨(hb7.block _ (heap_lt hHeld.1)).trans hHeld.1, (hb7.block _ (heap_lt hHeld.2.1)).trans hHeld.2.1, (hb7.block _ (heap_lt hHeld.2.2.1)).trans hHeld.2.2.1, (hb7.block _ (heap_lt hHeld.2.2.2.1)).trans hHeld.2.2.2.1, (hb7.block _ (heap_lt hHeld.2.2.2.2)).trans hHeld.2.2.2.2⟩
      have HI7 : Hid (Below w.heap.size w U18 ∧ ItV U18 (fun b => b < U18.heap.size) (.slice ab m cb) (.slice ai k ci) X ∧ ItV U18 (fun b => b < U18.heap.size) (.slice ab' m' cb') (.slice ai' k' ci') Y ∧ ItsV U18 (fun b => b < U18.heap.size) (.slice (some ⟨gz, 0, none⟩) 2 2) [X, Y] ∧ ItV U18 (fun b => b < U18.heap.size) (.slice none 0 0) (.slice ma 2 mc) T3) := ⟨HI.out.1.trans (hb7.mono HI.out.1.size), (HI.out.2.1).up hb7, (HI.out.2.2.1).up hb7, (HI.out.2.2.2.1).up hb7, hit⟩
      clear HI hb7
      have HI : Hid (Below w.heap.size w U18 ∧ ItV U18 (fun b => b < U18.heap.size) (.slice ab m cb) (.slice ai k ci) X ∧ ItV U18 (fun b => b < U18.heap.size) (.slice ab' m' cb') (.slice ai' k' ci') Y ∧ ItsV U18 (fun b => b < U18.heap.size) (.slice (some ⟨gz, 0, none⟩) 2 2) [X, Y] ∧ ItV U18 (fun b => b < U18.heap.size) (.slice none 0 0) (.slice ma 2 mc) T3) := HI7.out
      clear HI7
      refine hK.out _ _ hS7 (fun hHeld => ?_)
      clear hK K
      try simp only [List.getElem_toArray, List.getElem_cons_succ, List.getElem_cons_zero, Act.put, List.setIfInBounds_toArray, List.set_cons_zero, List.set_cons_succ]
      clear hS7
      clear hit
      refine wpAnyH_ready (rs := [57]) (by kernel_rfl) (by simp) ?_
      refine AllReadyH.cons rfl (fun K hK => ?_) AllReadyH.nil
      have hC := rs_f (T := T3) (tl := true) (sb := .slice none 0 0) (si := .slice ma 2 mc) (sb' := .slice none 0 0) (si' := .slice (some ⟨gz, 0, none⟩) 2 2) (by rw [HT.out.2.2]; rfl) (HI.out.2.2.2.2) (by rw [HT.out.2.2]; exact ⟨⟨Or.inl ⟨rfl, rfl⟩, fun b hb' => (by have h9 := dBlock_own hb'; cases h9), by show (0 : Nat) ≤ _; omega⟩, HI.out.2.2.2.1⟩)
      go_simp
      refine Calls.mono hC ?_
      clear hC
      rintro e U19 ⟨hb7, rfl⟩
      have hS7 : (fun w' => w'.heap[w.heap.size]? = some (.cells #[.int .u64 a0, .int .u64 a1, .int .u64 a2, .int .u64 a3] 50) ∧ w'.heap[w.heap.size + 1]? = some (.cells #[.bool l, .slice ab m cb, .slice ai k ci] 25) ∧ w'.heap[w.heap.size + 1 + 1]? = some (.cells #[.bool l', .slice ab' m' cb', .slice ai' k' ci'] 25) ∧ w'.heap[p13]? = some (.cells #[.int .u64 s0, .int .u64 s1, .int .u64 s2, .int .u64 s3] 50) ∧ w'.heap[p15]? = some (.cells #[.int .u64 s0, .int .u64 s1, .int .u64 s2, .int .u64 s3] 50)) U19 := ⟨(hb7.block _ (heap_lt hHeld.1)).trans hHeld.1, (hb7.block _ (heap_lt hHeld.2.1)).trans hHeld.2.1, (hb7.block _ (heap_lt hHeld.2.2.1)).trans hHeld.2.2.1, (hb7.block _ (heap_lt hHeld.2.2.2.1)).trans hHeld.2.2.2.1, (hb7.block _ (heap_lt hHeld.2.2.2.2)).trans hHeld.2.2.2.2⟩
      have HI7 : Hid (Below w.heap.size w U19) := HI.out.1.trans (hb7.mono HI.out.1.size)
      clear HI hb7
      have HI : Hid (Below w.heap.size w U19) := HI7.out
      clear HI7
      refine hK.out _ _ hS7 (fun hHeld => ?_)
      clear hK K
      try simp only [List.getElem_toArray, List.getElem_cons_succ, List.getElem_cons_zero, Act.put, List.setIfInBounds_toArray, List.set_cons_zero, List.set_cons_succ]
      clear hS7
      refine wpAnyH_take (i := 58) (v := .bool true) rfl (by kernel_rfl) (by kernel_rfl) (by kernel_rfl) (fun _ _ _ h => h) (Or.inl ⟨by rfl, fun w9 hSw => ?_⟩) hHeld ?_
      · go_simp
      simp only [List.getElem_toArray, List.getElem_cons_succ, List.getElem_cons_zero, Act.put, List.setIfInBounds_toArray, List.set_cons_zero, List.set_cons_succ]
      refine wpAnyH_take (i := 59) (v := .bool true) rfl (by kernel_rfl) (by kernel_rfl) (by kernel_rfl) (fun _ _ _ h => h) (Or.inl ⟨by rfl, fun w9 hSw => ?_⟩) hHeld ?_
      · go_simp
      simp only [List.getElem_toArray, List.getElem_cons_succ, List.getElem_cons_zero, Act.put, List.setIfInBounds_toArray, List.set_cons_zero, List.set_cons_succ]
      refine wpAnyH_ready (rs := [60]) (by kernel_rfl) (by simp) ?_
      refine AllReadyH.cons rfl (fun K hK => ?_) AllReadyH.nil
      have hC := alive_any (w := U19)
      go_simp
      refine Calls.mono hC ?_
      clear hC
      rintro e U20 ⟨hb7, rfl⟩
      have hS7 : (fun w' => w'.heap[w.heap.size]? = some (.cells #[.int .u64 a0, .int .u64 a1, .int .u64 a2, .int .u64 a3] 50) ∧ w'.heap[w.heap.size + 1]? = some (.cells #[.bool l, .slice ab m cb, .slice ai k ci] 25) ∧ w'.heap[w.heap.size + 1 + 1]? = some (.cells #[.bool l', .slice ab' m' cb', .slice ai' k' ci'] 25) ∧ w'.heap[p13]? = some (.cells #[.int .u64 s0, .int .u64 s1, .int .u64 s2, .int .u64 s3] 50) ∧ w'.heap[p15]? = some (.cells #[.int .u64 s0, .int .u64 s1, .int .u64 s2, .int .u64 s3] 50)) U20 := ⟨(hb7.block _ (heap_lt hHeld.1)).trans hHeld.1, (hb7.block _ (heap_lt hHeld.2.1)).trans hHeld.2.1, (hb7.block _ (heap_lt hHeld.2.2.1)).trans hHeld.2.2.1, (hb7.block _ (heap_lt hHeld.2.2.2.1)).trans hHeld.2.2.2.1, (hb7.block _ (heap_lt hHeld.2.2.2.2)).trans hHeld.2.2.2.2⟩
      have HI7 : Hid (Below w.heap.size w U20) := HI.out.trans (hb7.mono HI.out.size)
      clear HI hb7
      have HI : Hid (Below w.heap.size w U20) := HI7.out
      clear HI7
      refine hK.out _ _ hS7 (fun hHeld => ?_)
      clear hK K
      try simp only [List.getElem_toArray, List.getElem_cons_succ, List.getElem_cons_zero, Act.put, List.setIfInBounds_toArray, List.set_cons_zero, List.set_cons_succ]
      clear hS7
      refine wpAnyH_take (i := 61) (v := .bool true) rfl (by kernel_rfl) (by kernel_rfl) (by kernel_rfl) (fun _ _ _ h => h) (Or.inl ⟨by rfl, fun w9 hSw => ?_⟩) hHeld ?_
      · go_simp
      simp only [List.getElem_toArray, List.getElem_cons_succ, List.getElem_cons_zero, Act.put, List.setIfInBounds_toArray, List.set_cons_zero, List.set_cons_succ]
      refine wpAnyH_take (i := 62) (v := .bool true) rfl (by kernel_rfl) (by kernel_rfl) (by kernel_rfl) (fun _ _ _ h => h) (Or.inl ⟨by rfl, fun w9 hSw => ?_⟩) hHeld ?_
      · go_simp
      simp only [List.getElem_toArray, List.getElem_cons_succ, List.getElem_cons_zero, Act.put, List.setIfInBounds_toArray, List.set_cons_zero, List.set_cons_succ]
      refine wpAnyH_done (by kernel_rfl) ?_ _
      simp only [noP]
      clear hHeld
      go_wp2
      go_ret
      exact ⟨HI.out, rfl⟩
  · go_simp
    have hb7 : Below U12.heap.size U12 (U12.alloc (.cells #[.bool l, .slice ab m cb, .slice ai k ci, .bool l', .slice ab' m' cb', .slice ai' k' ci'] 25)) := by go_grown
    have hS7 : (fun w' => w'.heap[w.heap.size]? = some (.cells #[.int .u64 a0, .int .u64 a1, .int .u64 a2, .int .u64 a3] 50) ∧ w'.heap[w.heap.size + 1]? = some (.cells #[.bool l, .slice ab m cb, .slice ai k ci] 25) ∧ w'.heap[w.heap.size + 1 + 1]? = some (.cells #[.bool l', .slice ab' m' cb', .slice ai' k' ci'] 25) ∧ w'.heap[p13]? = some (.cells #[.int .u64 s0, .int .u64 s1, .int .u64 s2, .int .u64 s3] 50) ∧ w'.heap[p15]? = some (.cells #[.int .u64 s0, .int .u64 s1, .int .u64 s2, .int .u64 s3] 50)) (U12.alloc (.cells #[.bool l, .slice ab m cb, .slice ai k ci, .bool l', .slice ab' m' cb', .slice ai' k' ci'] 25)) := ⟨(hb7.block _ (heap_lt hHeld.1)).trans hHeld.1, (hb7.block _ (heap_lt hHeld.2.1)).trans hHeld.2.1, (hb7.block _ (heap_lt hHeld.2.2.1)).trans hHeld.2.2.1, (hb7.block _ (heap_lt hHeld.2.2.2.1)).trans hHeld.2.2.2.1, (hb7.block _ (heap_lt hHeld.2.2.2.2)).trans hHeld.2.2.2.2⟩
    have hit := two_itsR X Y (HI.out.2.1) (HI.out.2.2)
    rw [← HL.out.1, ← HL.out.2.2.1] at hit
    have HI7 : Hid (Below w.heap.size w (U12.alloc (.cells #[.bool l, .slice ab m cb, .slice ai k ci, .bool l', .slice ab' m' cb', .slice ai' k' ci'] 25)) ∧ ItV (U12.alloc (.cells #[.bool l, .slice ab m cb, .slice ai k ci, .bool l', .slice ab' m' cb', .slice ai' k' ci'] 25)) (fun b => b < (U12.alloc (.cells #[.bool l, .slice ab m cb, .slice ai k ci, .bool l', .slice ab' m' cb', .slice ai' k' ci'] 25)).heap.size) (.slice ab m cb) (.slice ai k ci) X ∧ ItV (U12.alloc (.cells #[.bool l, .slice ab m cb, .slice ai k ci, .bool l', .slice ab' m' cb', .slice ai' k' ci'] 25)) (fun b => b < (U12.alloc (.cells #[.bool l, .slice ab m cb, .slice ai k ci, .bool l', .slice ab' m' cb', .slice ai' k' ci'] 25)).heap.size) (.slice ab' m' cb') (.slice ai' k' ci') Y ∧ ItsV (U12.alloc (.cells #[.bool l, .slice ab m cb, .slice ai k ci, .bool l', .slice ab' m' cb', .slice ai' k' ci'] 25)) (fun b => b < (U12.alloc (.cells #[.bool l, .slice ab m cb, .slice ai k ci, .bool l', .slice ab' m' cb', .slice ai' k' ci'] 25)).heap.size) (.slice (some ⟨U12.heap.size, 0, none⟩) 2 2) [X, Y]) := ⟨HI.out.1.trans (hb7.mono HI.out.1.size), (HI.out.2.1).up hb7, (HI.out.2.2).up hb7, hit⟩
    clear HI hb7 hit
    have HI : Hid (Below w.heap.size w (U12.alloc (.cells #[.bool l, .slice ab m cb, .slice ai k ci, .bool l', .slice ab' m' cb', .slice ai' k' ci'] 25)) ∧ ItV (U12.alloc (.cells #[.bool l, .slice ab m cb, .slice ai k ci, .bool l', .slice ab' m' cb', .slice ai' k' ci'] 25)) (fun b => b < (U12.alloc (.cells #[.bool l, .slice ab m cb, .slice ai k ci, .bool l', .slice ab' m' cb', .slice ai' k' ci'] 25)).heap.size) (.slice ab m cb) (.slice ai k ci) X ∧ ItV (U12.alloc (.cells #[.bool l, .slice ab m cb, .slice ai k ci, .bool l', .slice ab' m' cb', .slice ai' k' ci'] 25)) (fun b => b < (U12.alloc (.cells #[.bool l, .slice ab m cb, .slice ai k ci, .bool l', .slice ab' m' cb', .slice ai' k' ci'] 25)).heap.size) (.slice ab' m' cb') (.slice ai' k' ci') Y ∧ ItsV (U12.alloc (.cells #[.bool l, .slice ab m cb, .slice ai k ci, .bool l', .slice ab' m' cb', .slice ai' k' ci'] 25)) (fun b => b < (U12.alloc (.cells #[.bool l, .slice ab m cb, .slice ai k ci, .bool l', .slice ab' m' cb', .slice ai' k' ci'] 25)).heap.size) (.slice (some ⟨U12.heap.size, 0, none⟩) 2 2) [X, Y]) := HI7.out
    clear HI7
    obtain ⟨gz, hgz⟩ : ∃ gz, gz = U12.heap.size := ⟨_, rfl⟩
    rw [← hgz] at HI ⊢
    clear hgz
    refine hK.out _ _ hS7 (fun hHeld => ?_)
    clear hK K
    try simp only [List.getElem_toArray, List.getElem_cons_succ, List.getElem_cons_zero, Act.put, List.setIfInBounds_toArray, List.set_cons_zero, List.set_cons_succ]
    clear hS7
    generalize (U12.alloc (.cells #[.bool l, .slice ab m cb, .slice ai k ci, .bool l', .slice ab' m' cb', .slice ai' k' ci'] 25)) = U13 at HI hHeld ⊢
    refine wpAnyH_take (i := 56) (v := .agg #[.bool true, .slice none 0 0, .slice (some ⟨gz, 0, none⟩) 2 2]) rfl (by kernel_rfl) (by kernel_rfl) (by kernel_rfl) (fun _ _ _ h => h) (Or.inl ⟨by rfl, fun w9 hSw => ?_⟩) hHeld ?_
    · go_simp
    simp only [List.getElem_toArray, List.getElem_cons_succ, List.getElem_cons_zero, Act.put, List.setIfInBounds_toArray, List.set_cons_zero, List.set_cons_succ]
    refine wpAnyH_ready (rs := [47]) (by kernel_rfl) (by simp) ?_
    refine AllReadyH.cons rfl (fun K hK => ?_) AllReadyH.nil
    have hC := own_f HL.out.1 HL.out.2.1 (HI.out.2.1)
    go_simp
    refine Calls.mono hC ?_
    clear hC
    rintro e U14 ⟨hb7, ua, uc, rfl, hit⟩
    have hS7 : (fun w' => w'.heap[w.heap.size]? = some (.cells #[.int .u64 a0, .int .u64 a1, .int .u64 a2, .int .u64 a3] 50) ∧ w'.heap[w.heap.size + 1]? = some (.cells #[.bool l, .slice ab m cb, .slice ai k ci] 25) ∧ w'.heap[w.heap.size + 1 + 1]? = some (.cells #[.bool l', .slice ab' m' cb', .slice ai' k' ci'] 25) ∧ w'.heap[p13]? = some (.cells #[.int .u64 s0, .int .u64 s1, .int .u64 s2, .int .u64 s3] 50) ∧ w'.heap[p15]? = some (.cells #[.int .u64 s0, .int .u64 s1, .int .u64 s2, .int .u64 s3] 50)) U14 := ⟨(hb7.block _ (heap_lt hHeld.1)).trans hHeld.1, (hb7.block _ (heap_lt hHeld.2.1)).trans hHeld.2.1, (hb7.block _ (heap_lt hHeld.2.2.1)).trans hHeld.2.2.1, (hb7.block _ (heap_lt hHeld.2.2.2.1)).trans hHeld.2.2.2.1, (hb7.block _ (heap_lt hHeld.2.2.2.2)).trans hHeld.2.2.2.2⟩
    have HI7 : Hid (Below w.heap.size w U14 ∧ ItV U14 (fun b => b < U14.heap.size) (.slice ab m cb) (.slice ai k ci) X ∧ ItV U14 (fun b => b < U14.heap.size) (.slice ab' m' cb') (.slice ai' k' ci') Y ∧ ItsV U14 (fun b => b < U14.heap.size) (.slice (some ⟨gz, 0, none⟩) 2 2) [X, Y] ∧ ItV U14 (fun b => b < U14.heap.size) (.slice ab m cb) (.slice ua k uc) X) := ⟨HI.out.1.trans (hb7.mono HI.out.1.size), (HI.out.2.1).up hb7, (HI.out.2.2.1).up hb7, (HI.out.2.2.2).up hb7, hit⟩
    clear HI hb7
    have HI : Hid (Below w.heap.size w U14 ∧ ItV U14 (fun b => b < U14.heap.size) (.slice ab m cb) (.slice ai k ci) X ∧ ItV U14 (fun b => b < U14.heap.size) (.slice ab' m' cb') (.slice ai' k' ci') Y ∧ ItsV U14 (fun b => b < U14.heap.size) (.slice (some ⟨gz, 0, none⟩) 2 2) [X, Y] ∧ ItV U14 (fun b => b < U14.heap.size) (.slice ab m cb) (.slice ua k uc) X) := HI7.out
    clear HI7
    refine hK.out _ _ hS7 (fun hHeld => ?_)
    clear hK K
    try simp only [List.getElem_toArray, List.getElem_cons_succ, List.getElem_cons_zero, Act.put, List.setIfInBounds_toArray, List.set_cons_zero, List.set_cons_succ]
    clear hS7
    clear hit
    refine wpAnyH_ready (rs := [49]) (by kernel_rfl) (by simp) ?_
    refine AllReadyH.cons rfl (fun K hK => ?_) AllReadyH.nil
    have hC := own_f HL.out.2.2.1 HL.out.2.2.2 (HI.out.2.2.1)
    go_simp
    refine Calls.mono hC ?_
    clear hC
    rintro e U15 ⟨hb7, va, vc, rfl, hit⟩
    have hS7 : (fun w' => w'.heap[w.heap.size]? = some (.cells #[.int .u64 a0, .int .u64 a1, .int .u64 a2, .int .u64 a3] 50) ∧ w'.heap[w.heap.size + 1]? = some (.cells #[.bool l, .slice ab m cb, .slice ai k ci] 25) ∧ w'.heap[w.heap.size + 1 + 1]? = some (.cells #[.bool l', .slice ab' m' cb', .slice ai' k' ci'] 25) ∧ w'.heap[p13]? = some (.cells #[.int .u64 s0, .int .u64 s1, .int .u64 s2, .int .u64 s3] 50) ∧ w'.heap[p15]? = some (.cells #[.int .u64 s0, .int .u64 s1, .int .u64 s2, .int .u64 s3] 50)) U15 := ⟨(hb7.block _ (heap_lt hHeld.1)).trans hHeld.1, (hb7.block _ (heap_lt hHeld.2.1)).trans hHeld.2.1, (hb7.block _ (heap_lt hHeld.2.2.1)).trans hHeld.2.2.1, (hb7.block _ (heap_lt hHeld.2.2.2.1)).trans hHeld.2.2.2.1, (hb7.block _ (heap_lt hHeld.2.2.2.2)).trans hHeld.2.2.2.2⟩
    have HI7 : Hid (Below w.heap.size w U15 ∧ ItV U15 (fun b => b < U15.heap.size) (.slice ab m cb) (.slice ai k ci) X ∧ ItV U15 (fun b => b < U15.heap.size) (.slice ab' m' cb') (.slice ai' k' ci') Y ∧ ItsV U15 (fun b => b < U15.heap.size) (.slice (some ⟨gz, 0, none⟩) 2 2) [X, Y] ∧ ItV U15 (fun b => b < U15.heap.size) (.slice ab m cb) (.slice ua k uc) X ∧ ItV U15 (fun b => b < U15.heap.size) (.slice ab' m' cb') (.slice va k' vc) Y) := ⟨HI.out.1.trans (hb7.mono HI.out.1.size), (HI.out.2.1).up hb7, (HI.out.2.2.1).up hb7, (HI.out.2.2.2.1).up hb7, (HI.out.2.2.2.2).up hb7, hit⟩
    clear HI hb7
    have HI : Hid (Below w.heap.size w U15 ∧ ItV U15 (fun b => b < U15.heap.size) (.slice ab m cb) (.slice ai k ci) X ∧ ItV U15 (fun b => b < U15.heap.size) (.slice ab' m' cb') (.slice ai' k' ci') Y ∧ ItsV U15 (fun b => b < U15.heap.size) (.slice (some ⟨gz, 0, none⟩) 2 2) [X, Y] ∧ ItV U15 (fun b => b < U15.heap.size) (.slice ab m cb) (.slice ua k uc) X ∧ ItV U15 (fun b => b < U15.heap.size) (.slice ab' m' cb') (.slice va k' vc) Y) := HI7.out
    clear HI7
    refine hK.out _ _ hS7 (fun hHeld => ?_)
    clear hK K
    try simp only [List.getElem_toArray, List.getElem_cons_succ, List.getElem_cons_zero, Act.put, List.setIfInBounds_toArray, List.set_cons_zero, List.set_cons_succ]
    clear hS7
    clear hit
    refine wpAnyH_ready (rs := [50]) (by kernel_rfl) (by simp) ?_
    refine AllReadyH.cons rfl (fun K hK => ?_) AllReadyH.nil
    go_simp
    have hb7 : Below U15.heap.size U15 (U15.alloc (.cells #[.bool l, .slice ab m cb, .slice ua k uc, .bool l', .slice ab' m' cb', .slice va k' vc] 31)) := by go_grown
    have hS7 : (fun w' => w'.heap[w.heap.size]? = some (.cells #[.int .u64 a0, .int .u64 a1, .int .u64 a2, .int .u64 a3] 50) ∧ w'.heap[w.heap.size + 1]? = some (.cells #[.bool l, .slice ab m cb, .slice ai k ci] 25) ∧ w'.heap[w.heap.size + 1 + 1]? = some (.cells #[.bool l', .slice ab' m' cb', .slice ai' k' ci'] 25) ∧ w'.heap[p13]? = some (.cells #[.int .u64 s0, .int .u64 s1, .int .u64 s2, .int .u64 s3] 50) ∧ w'.heap[p15]? = some (.cells #[.int .u64 s0, .int .u64 s1, .int .u64 s2, .int .u64 s3] 50)) (U15.alloc (.cells #[.bool l, .slice ab m cb, .slice ua k uc, .bool l', .slice ab' m' cb', .slice va k' vc] 31)) := ⟨(hb7.block _ (heap_lt hHeld.1)).trans hHeld.1, (hb7.block _ (heap_lt hHeld.2.1)).trans hHeld.2.1, (hb7.block _ (heap_lt hHeld.2.2.1)).trans hHeld.2.2.1, (hb7.block _ (heap_lt hHeld.2.2.2.1)).trans hHeld.2.2.2.1, (hb7.block _ (heap_lt hHeld.2.2.2.2)).trans hHeld.2.2.2.2⟩
    have hit := two_its X Y (HI.out.2.2.2.2.1) (HI.out.2.2.2.2.2)
    rw [← HL.out.1, ← HL.out.2.2.1] at hit
    have HI7 : Hid (Below w.heap.size w (U15.alloc (.cells #[.bool l, .slice ab m cb, .slice ua k uc, .bool l', .slice ab' m' cb', .slice va k' vc] 31)) ∧ ItV (U15.alloc (.cells #[.bool l, .slice ab m cb, .slice ua k uc, .bool l', .slice ab' m' cb', .slice va k' vc] 31)) (fun b => b < (U15.alloc (.cells #[.bool l, .slice ab m cb, .slice ua k uc, .bool l', .slice ab' m' cb', .slice va k' vc] 31)).heap.size) (.slice ab m cb) (.slice ai k ci) X ∧ ItV (U15.alloc (.cells #[.bool l, .slice ab m cb, .slice ua k uc, .bool l', .slice ab' m' cb', .slice va k' vc] 31)) (fun b => b < (U15.alloc (.cells #[.bool l, .slice ab m cb, .slice ua k uc, .bool l', .slice ab' m' cb', .slice va k' vc] 31)).heap.size) (.slice ab' m' cb') (.slice ai' k' ci') Y ∧ ItsV (U15.alloc (.cells #[.bool l, .slice ab m cb, .slice ua k uc, .bool l', .slice ab' m' cb', .slice va k' vc] 31)) (fun b => b < (U15.alloc (.cells #[.bool l, .slice ab m cb, .slice ua k uc, .bool l', .slice ab' m' cb', .slice va k' vc] 31)).heap.size) (.slice (some ⟨gz, 0, none⟩) 2 2) [X, Y] ∧ ItsV (U15.alloc (.cells #[.bool l, .slice ab m cb, .slice ua k uc, .bool l', .slice ab' m' cb', .slice va k' vc] 31)) (fun b => b < (U15.alloc (.cells #[.bool l, .slice ab m cb, .slice ua k uc, .bool l', .slice ab' m' cb', .slice va k' vc] 31)).heap.size) (.slice (some ⟨U15.heap.size, 0, none⟩) 2 2) [X, Y]) := ⟨HI.out.1.trans (hb7.mono HI.out.1.size), (HI.out.2.1).up hb7, (HI.out.2.2.1).up hb7, (HI.out.2.2.2.1).up hb7, hit⟩
    clear HI hb7 hit
    have HI : Hid (Below w.heap.size w (U15.alloc (.cells #[.bool l, .slice ab m cb, .slice ua k uc, .bool l', .slice ab' m' cb', .slice va k' vc] 31)) ∧ ItV (U15.alloc (.cells #[.bool l, .slice ab m cb, .slice ua k uc, .bool l', .slice ab' m' cb', .slice va k' vc] 31)) (fun b => b < (U15.alloc (.cells #[.bool l, .slice ab m cb, .slice ua k uc, .bool l', .slice ab' m' cb', .slice va k' vc] 31)).heap.size) (.slice ab m cb) (.slice ai k ci) X ∧ ItV (U15.alloc (.cells #[.bool l, .slice ab m cb, .slice ua k uc, .bool l', .slice ab' m' cb', .slice va k' vc] 31)) (fun b => b < (U15.alloc (.cells #[.bool l, .slice ab m cb, .slice ua k uc, .bool l', .slice ab' m' cb', .slice va k' vc] 31)).heap.size) (.slice ab' m' cb') (.slice ai' k' ci') Y ∧ ItsV (U15.alloc (.cells #[.bool l, .slice ab m cb, .slice ua k uc, .bool l', .slice ab' m' cb', .slice va k' vc] 31)) (fun b => b < (U15.alloc (.cells #[.bool l, .slice ab m cb, .slice ua k uc, .bool l', .slice ab' m' cb', .slice va k' vc] 31)).heap.size) (.slice (some ⟨gz, 0, none⟩) 2 2) [X, Y] ∧ ItsV (U15.alloc (.cells #[.bool l, .slice ab m cb, .slice ua k uc, .bool l', .slice ab' m' cb', .slice va k' vc] 31)) (fun b => b < (U15.alloc (.cells #[.bool l, .slice ab m cb, .slice ua k uc, .bool l', .slice ab' m' cb', .slice va k' vc] 31)).heap.size) (.slice (some ⟨U15.heap.size, 0, none⟩) 2 2) [X, Y]) := HI7.out
    clear HI7
    obtain ⟨gl, hgl⟩ : ∃ gl, gl = U15.heap.size := ⟨_, rfl⟩
    rw [← hgl] at HI ⊢
    clear hgl
    refine hK.out _ _ hS7 (fun hHeld => ?_)
    clear hK K
    try simp only [List.getElem_toArray, List.getElem_cons_succ, List.getElem_cons_zero, Act.put, List.setIfInBounds_toArray, List.set_cons_zero, List.set_cons_succ]
    clear hS7
    generalize (U15.alloc (.cells #[.bool l, .slice ab m cb, .slice ua k uc, .bool l', .slice ab' m' cb', .slice va k' vc] 31)) = U16 at HI hHeld ⊢
    refine wpAnyH_ready (rs := [51]) (by kernel_rfl) (by simp) ?_
    refine AllReadyH.cons rfl (fun K hK => ?_) AllReadyH.nil
    have hC := C28.out U16 _ (HI.out.2.2.2.2)
    go_simp
    refine Calls.mono hC ?_
    clear hC
    rintro e U17 ⟨hb7, la, lc, rfl, hit⟩
    have hS7 : (fun w' => w'.heap[w.heap.size]? = some (.cells #[.int .u64 a0, .int .u64 a1, .int .u64 a2, .int .u64 a3] 50) ∧ w'.heap[w.heap.size + 1]? = some (.cells #[.bool l, .slice ab m cb, .slice ai k ci] 25) ∧ w'.heap[w.heap.size + 1 + 1]? = some (.cells #[.bool l', .slice ab' m' cb', .slice ai' k' ci'] 25) ∧ w'.heap[p13]? = some (.cells #[.int .u64 s0, .int .u64 s1, .int .u64 s2, .int .u64 s3] 50) ∧ w'.heap[p15]? = some (.cells #[.int .u64 s0, .int .u64 s1, .int .u64 s2, .int .u64 s3] 50)) U17 := ⟨(hb7.block _ (heap_lt hHeld.1)).trans hHeld.1, (hb7.block _ (heap_lt hHeld.2.1)).trans hHeld.2.1, (hb7.block _ (heap_lt hHeld.2.2.1)).trans hHeld.2.2.1, (hb7.block _ (heap_lt hHeld.2.2.2.1)).trans hHeld.2.2.2.1, (hb7.block _ (heap_lt hHeld.2.2.2.2)).trans hHeld.2.2.2.2⟩
    have HI7 : Hid (Below w.heap.size w U17 ∧ ItV U17 (fun b => b < U17.heap.size) (.slice ab m cb) (.slice ai k ci) X ∧ ItV U17 (fun b => b < U17.heap.size) (.slice ab' m' cb') (.slice ai' k' ci') Y ∧ ItsV U17 (fun b => b < U17.heap.size) (.slice (some ⟨gz, 0, none⟩) 2 2) [X, Y] ∧ ItV U17 (fun b => b < U17.heap.size) (.slice none 0 0) (.slice la 2 lc) T3) := ⟨HI.out.1.trans (hb7.mono HI.out.1.size), (HI.out.2.1).up hb7, (HI.out.2.2.1).up hb7, (HI.out.2.2.2.1).up hb7, hit⟩
    clear HI hb7
    have HI : Hid (Below w.heap.size w U17 ∧ ItV U17 (fun b => b < U17.heap.size) (.slice ab m cb) (.slice ai k ci) X ∧ ItV U17 (fun b => b < U17.heap.size) (.slice ab' m' cb') (.slice ai' k' ci') Y ∧ ItsV U17 (fun b => b < U17.heap.size) (.slice (some ⟨gz, 0, none⟩) 2 2) [X, Y] ∧ ItV U17 (fun b => b < U17.heap.size) (.slice none 0 0) (.slice la 2 lc) T3) := HI7.out
    clear HI7
    refine hK.out _ _ hS7 (fun hHeld => ?_)
    clear hK K
    try simp only [List.getElem_toArray, List.getElem_cons_succ, List.getElem_cons_zero, Act.put, List.setIfInBounds_toArray, List.set_cons_zero, List.set_cons_succ]
    clear hS7
    clear hit
    refine wpAnyH_ready (rs := [52]) (by kernel_rfl) (by simp) ?_
    refine AllReadyH.cons rfl (fun K hK => ?_) AllReadyH.nil
    have hC := th_f (T := T3) (tl := true) (tk := 2) (by rw [HT.out.2.2]; rfl) (by rw [HT.out.2.2]; rfl) (HI.out.2.2.2.2)
    go_simp
    refine Calls.mono hC ?_
    clear hC
    rintro e U18 ⟨hb7, ma, mc, rfl, hit⟩
    have hS7 : (fun w' => w'.heap[w.heap.size]? = some (.cells #[.int .u64 a0, .int .u64 a1, .int .u64 a2, .int .u64 a3] 50) ∧ w'.heap[w.heap.size + 1]? = some (.cells #[.bool l, .slice ab m cb, .slice ai k ci] 25) ∧ w'.heap[w.heap.size + 1 + 1]? = some (.cells #[.bool l', .slice ab' m' cb', .slice ai' k' ci'] 25) ∧ w'.heap[p13]? = some (.cells #[.int .u64 s0, .int .u64 s1, .int .u64 s2, .int .u64 s3] 50) ∧ w'.heap[p15]? = some (.cells #[.int .u64 s0, .int .u64 s1, .int .u64 s2, .int .u64 s3] 50)) U18 := ⟨(hb7.block _ (heap_lt hHeld.1)).trans hHeld.1, (hb7.block _ (heap_lt hHeld.2.1)).trans hHeld.2.1, (hb7.block _ (heap_lt hHeld.2.2.1)).trans hHeld.2.2.1, (hb7.block _ (heap_lt hHeld.2.2.2.1)).trans hHeld.2.2.2.1, (hb7.block _ (heap_lt hHeld.2.2.2.2)).trans hHeld.2.2.2.2⟩
    have HI7 : Hid (Below w.heap.size w U18 ∧ ItV U18 (fun b => b < U18.heap.size) (.slice ab m cb) (.slice ai k ci) X ∧ ItV U18 (fun b => b < U18.heap.size) (.slice ab' m' cb') (.slice ai' k' ci') Y ∧ ItsV U18 (fun b => b < U18.heap.size) (.slice (some ⟨gz, 0, none⟩) 2 2) [X, Y] ∧ ItV U18 (fun b => b < U18.heap.size) (.slice none 0 0) (.slice ma 2 mc) T3) := ⟨HI.out.1.trans (hb7.mono HI.out.1.size), (HI.out.2.1).up hb7, (HI.out.2.2.1).up hb7, (HI.out.2.2.2.1).up hb7, hit⟩
    clear HI hb7
    have HI : Hid (Below w.heap.size w U18 ∧ ItV U18 (fun b => b < U18.heap.size) (.slice ab m cb) (.slice ai k ci) X ∧ ItV U18 (fun b => b < U18.heap.size) (.slice ab' m' cb') (.slice ai' k' ci') Y ∧ ItsV U18 (fun b => b < U18.heap.size) (.slice (some ⟨gz, 0, none⟩) 2 2) [X, Y] ∧ ItV U18 (fun b => b < U18.heap.size) (.slice none 0 0) (.slice ma 2 mc) T3) := HI7.out
    clear HI7
    refine hK.out _ _ hS7 (fun hHeld => ?_)
    clear hK K
    try simp only [List.getElem_toArray, List.getElem_cons_succ, List.getElem_cons_zero, Act.put, List.setIfInBounds_toArray, List.set_cons_zero, List.set_cons_succ]
    clear hS7
    clear hit
    refine wpAnyH_ready (rs := [57]) (by kernel_rfl) (by simp) ?_
    refine AllReadyH.cons rfl (fun K hK => ?_) AllReadyH.nil
    have hC := rs_f (T := T3) (tl := true) (sb := .slice none 0 0) (si := .slice ma 2 mc) (sb' := .slice none 0 0) (si' := .slice (some ⟨gz, 0, none⟩) 2 2) (by rw [HT.out.2.2]; rfl) (HI.out.2.2.2.2) (by rw [HT.out.2.2]; exact ⟨⟨Or.inl ⟨rfl, rfl⟩, fun b hb' => (by have h9 := dBlock_own hb'; cases h9), by show (0 : Nat) ≤ _; omega⟩, HI.out.2.2.2.1⟩)
    go_simp
    refine Calls.mono hC ?_
    clear hC
    rintro e U19 ⟨hb7, rfl⟩
    have hS7 : (fun w' => w'.heap[w.heap.size]? = some (.cells #[.int .u64 a0, .int .u64 a1, .int .u64 a2, .int .u64 a3] 50) ∧ w'.heap[w.heap.size + 1]? = some (.cells #[.bool l, .slice ab m cb, .slice ai k ci] 25) ∧ w'.heap[w.heap.size + 1 + 1]? = some (.cells #[.bool l', .slice ab' m' cb', .slice ai' k' ci'] 25) ∧ w'.heap[p13]? = some (.cells #[.int .u64 s0, .int .u64 s1, .int .u64 s2, .int .u64 s3] 50) ∧ w'.heap[p15]? = some (.cells #[.int .u64 s0, .int .u64 s1, .int .u64 s2, .int .u64 s3] 50)) U19 := ⟨(hb7.block _ (heap_lt hHeld.1)).trans hHeld.1, (hb7.block _ (heap_lt hHeld.2.1)).trans hHeld.2.1, (hb7.block _ (heap_lt hHeld.2.2.1)).trans hHeld.2.2.1, (hb7.block _ (heap_lt hHeld.2.2.2.1)).trans hHeld.2.2.2.1, (hb7.block _ (heap_lt hHeld.2.2.2.2)).trans hHeld.2.2.2.2⟩
    have HI7 : Hid (Below w.heap.size w U19) := HI.out.1.trans (hb7.mono HI.out.1.size)
    clear HI hb7
    have HI : Hid (Below w.heap.size w U19) := HI7.out
    clear HI7
    refine hK.out _ _ hS7 (fun hHeld => ?_)
    clear hK K
    try simp only [List.getElem_toArray, List.getElem_cons_succ, List.getElem_cons_zero, Act.put, List.setIfInBounds_toArray, List.set_cons_zero, List.set_cons_succ]
    clear hS7
    refine wpAnyH_take (i := 58) (v := .bool true) rfl (by kernel_rfl) (by kernel_rfl) (by kernel_rfl) (fun _ _ _ h => h) (Or.inl ⟨by rfl, fun w9 hSw => ?_⟩) hHeld ?_
    · go_simp
    simp only [List.getElem_toArray, List.getElem_cons_succ, List.getElem_cons_zero, Act.put, List.setIfInBounds_toArray, List.set_cons_zero, List.set_cons_succ]
    refine wpAnyH_take (i := 59) (v := .bool true) rfl (by kernel_rfl) (by kernel_rfl) (by kernel_rfl) (fun _ _ _ h => h) (Or.inl ⟨by rfl, fun w9 hSw => ?_⟩) hHeld ?_
    · go_simp
    simp only [List.getElem_toArray, List.getElem_cons_succ, List.getElem_cons_zero, Act.put, List.setIfInBounds_toArray, List.set_cons_zero, List.set_cons_succ]
    refine wpAnyH_ready (rs := [60]) (by kernel_rfl) (by simp) ?_
    refine AllReadyH.cons rfl (fun K hK => ?_) AllReadyH.nil
    have hC := alive_any (w := U19)
    go_simp
    refine Calls.mono hC ?_
    clear hC
    rintro e U20 ⟨hb7, rfl⟩
    have hS7 : (fun w' => w'.heap[w.heap.size]? = some (.cells #[.int .u64 a0, .int .u64 a1, .int .u64 a2, .int .u64 a3] 50) ∧ w'.heap[w.heap.size + 1]? = some (.cells #[.bool l, .slice ab m cb, .slice ai k ci] 25) ∧ w'.heap[w.heap.size + 1 + 1]? = some (.cells #[.bool l', .slice ab' m' cb', .slice ai' k' ci'] 25) ∧ w'.heap[p13]? = some (.cells #[.int .u64 s0, .int .u64 s1, .int .u64 s2, .int .u64 s3] 50) ∧ w'.heap[p15]? = some (.cells #[.int .u64 s0, .int .u64 s1, .int .u64 s2, .int .u64 s3] 50)) U20 := ⟨(hb7.block _ (heap_lt hHeld.1)).trans hHeld.1, (hb7.block _ (heap_lt hHeld.2.1)).trans hHeld.2.1, (hb7.block _ (heap_lt hHeld.2.2.1)).trans hHeld.2.2.1, (hb7.block _ (heap_lt hHeld.2.2.2.1)).trans hHeld.2.2.2.1, (hb7.block _ (heap_lt hHeld.2.2.2.2)).trans hHeld.2.2.2.2⟩
    have HI7 : Hid (Below w.heap.size w U20) := HI.out.trans (hb7.mono HI.out.size)
    clear HI hb7
    have HI : Hid (Below w.heap.size w U20) := HI7.out
    clear HI7
    refine hK.out _ _ hS7 (fun hHeld => ?_)
    clear hK K
    try simp only [List.getElem_toArray, List.getElem_cons_succ, List.getElem_cons_zero, Act.put, List.setIfInBounds_toArray, List.set_cons_zero, List.set_cons_succ]
    clear hS7
    refine wpAnyH_take (i := 61) (v := .bool true) rfl (by kernel_rfl) (by kernel_rfl) (by kernel_rfl) (fun _ _ _ h => h) (Or.inl ⟨by rfl, fun w9 hSw => ?_⟩) hHeld ?_
    · go_simp
    simp only [List.getElem_toArray, List.getElem_cons_succ, List.getElem_cons_zero, Act.put, List.setIfInBounds_toArray, List.set_cons_zero, List.set_cons_succ]
    refine wpAnyH_take (i := 62) (v := .bool true) rfl (by kernel_rfl) (by kernel_rfl) (by kernel_rfl) (fun _ _ _ h => h) (Or.inl ⟨by rfl, fun w9 hSw => ?_⟩) hHeld ?_
    · go_simp
    simp only [List.getElem_toArray, List.getElem_cons_succ, List.getElem_cons_zero, Act.put, List.setIfInBounds_toArray, List.set_cons_zero, List.set_cons_succ]
    refine wpAnyH_done (by kernel_rfl) ?_ _
    simp only [noP]
    clear hHeld
    go_wp2
    go_ret
    exact ⟨HI.out, rfl⟩
end Go.Proofs.Ytmnlcpfehbpogaa
