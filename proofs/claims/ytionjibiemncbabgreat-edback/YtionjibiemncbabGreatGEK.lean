/- EB, EE, EI, EK -/
import Derived.Test.YtionjibiemncbabGreatGE0
import Derived.Test.YtionjibiemncbabGreatGFE
import Derived.Test.YtionjibiemncbabGreatGED
import Derived.RangeFuncNested
import Derived.RangeFuncBound
import Derived.RangeFuncCalls
import Derived.RangeFuncLeaves
import Derived.Shelf.Abstract
import Derived.Shelf.RegionOpen
import Derived.OwnWalkIn
import Derived.TacticsInMore
import Derived.LoopNIn
import Derived.LoopIn
set_option linter.unusedSimpArgs false
set_option linter.unusedVariables false
namespace Go.Proofs.YtionjibiemncbabGreat
open Go.RowKit
set_option maxHeartbeats 1000000 in
theorem ebit_any (a0 a1 a2 a3 : Int) (ha : L4 a0 a1 a2 a3) (j : Nat) (hj : j < 256) (w : World) :
    Calls Tryz.prog 78 #[W4 a0 a1 a2 a3, .int .i64 (j : Int)] w fun e w' => e = .returned (.bool (decide ((num a0 a1 a2 a3 / 2 ^ j) % 2 = 1))) ∧ Below w.heap.size w w' := by
  have hc := fcell4 w a0 a1 a2 a3 (j / 64) (by omega)
  have hL := limbOf_limb ha (j / 64)
  have hd := fdiv_limb hL (j % 64)
  have hand := fand_1 _ hd.1 hd.2
  rw [← fbit_num a0 a1 a2 a3 ha j hj] at hand
  generalize (num a0 a1 a2 a3 / 2 ^ j) % 2 = B at hand ⊢
  generalize limbOf a0 a1 a2 a3 (j / 64) = x at *
  unfold W4
  clear ha hL hd
  go_enter Tryz.func78, Tryz.ntmps78
  go_wp2
  go_ret
  refine ⟨?_, by go_grown⟩
  congr 2
theorem g_ebit {v : Value} {x : Int} (h : IsW v x) (j : Nat) (hj : j < 256) (w : World) : Calls Tryz.prog 78 #[v, .int .i64 (j : Int)] w fun e w' => e = .returned (.bool (decide ((x / 2 ^ j) % 2 = 1))) ∧ Below w.heap.size w w' := by
  obtain ⟨a0, a1, a2, a3, rfl, la, rfl⟩ := h
  exact ebit_any a0 a1 a2 a3 la j hj w
set_option maxHeartbeats 1000000 in
theorem g_bits {va vb : Value} {x y : Int} (ha : IsW va x) (hb : IsW vb y) (w : World) : Calls Tryz.prog 62 #[va, vb] w fun e w' => e = .returned (.func (.func 75) #[] #[.pointer (some ⟨w.heap.size, 0, none⟩), .pointer (some ⟨w.heap.size + 1, 0, none⟩)]) ∧ VarW w' w.heap.size va ∧ VarW w' (w.heap.size + 1) vb ∧ Below w.heap.size w w' := by
  have HA : Hid (IsW va x) := ha
  have HB : Hid (IsW vb y) := hb
  obtain ⟨a0, a1, a2, a3, rfl, la, _⟩ := ha
  obtain ⟨b0, b1, b2, b3, rfl, lb, _⟩ := hb
  have V0 : Hid (VarW ((w.alloc (.cells (C4 a0 a1 a2 a3) 24)).alloc (.cells (C4 b0 b1 b2 b3) 24)) w.heap.size (W4 a0 a1 a2 a3) ∧ VarW ((w.alloc (.cells (C4 a0 a1 a2 a3) 24)).alloc (.cells (C4 b0 b1 b2 b3) 24)) (w.heap.size + 1) (W4 b0 b1 b2 b3)) :=
    ⟨VarW.mk la (heap_old _ _ _ _ (heap_alloc_new _ _)), VarW.mk lb (heapAt _ _ _ (by simp))⟩
  clear la lb
  unfold W4
  go_enter Tryz.func62, Tryz.ntmps62
  go_wp2
  go_ret
  exact ⟨rfl, V0.out.1, V0.out.2, by go_grown⟩
end Go.Proofs.YtionjibiemncbabGreat
namespace Go.Proofs.YtionjibiemncbabGreat
open Go.RowKit
theorem or_limb {a b : Int} (ha : Limb a) (hb : Limb b) : Limb (bits .or .u64 a b) ∧ a ≤ bits .or .u64 a b ∧ b ≤ bits .or .u64 a b := by
  obtain ⟨a0, a1⟩ := ha
  obtain ⟨b0, b1⟩ := hb
  rw [u64_or a b a0 a1 b0 b1]
  have h1 : a.toNat ≤ a.toNat ||| b.toNat := Nat.left_le_or
  have h2 : b.toNat ≤ a.toNat ||| b.toNat := Nat.right_le_or
  have h3 : a.toNat ||| b.toNat < 2 ^ 64 := Nat.or_lt_two_pow (by omega) (by omega)
  generalize a.toNat ||| b.toNat = n at *
  exact ⟨⟨by omega, by omega⟩, by omega, by omega⟩
theorem g_or {va vb : Value} {x y : Int} (ha : IsW va x) (hb : IsW vb y) (w : World) : Calls Tryz.prog 77 #[va, vb] w fun e w' => ∃ v z, e = .returned v ∧ IsW v z ∧ x ≤ z ∧ y ≤ z ∧ Below w.heap.size w w' := by
  obtain ⟨a0, a1, a2, a3, rfl, la, rfl⟩ := ha
  obtain ⟨b0, b1, b2, b3, rfl, lb, rfl⟩ := hb
  refine (or_any a0 a1 a2 a3 b0 b1 b2 b3 w).mono ?_
  rintro e w' ⟨rfl, hB⟩
  have h0 := or_limb la.1 lb.1
  have h1 := or_limb la.2.1 lb.2.1
  have h2 := or_limb la.2.2.1 lb.2.2.1
  have h3 := or_limb la.2.2.2 lb.2.2.2
  refine ⟨_, _, rfl, IsW.mk ⟨h0.1, h1.1, h2.1, h3.1⟩, ?_, ?_, hB⟩
  · unfold num; omega
  · unfold num; omega
set_option maxHeartbeats 1000000 in
theorem g_len {v : Value} {x : Int} (h : IsW v x) (w : World) : Calls Tryz.prog 76 #[v] w fun e w' => ∃ n : Nat, e = .returned (.int .i64 n) ∧ n ≤ 32 ∧ x < 2 ^ (8 * n) ∧ Below w.heap.size w w' := by
  obtain ⟨a0, a1, a2, a3, rfl, la, rfl⟩ := h
  have HB : Hid _ := bitLen_any a0 a1 a2 a3 la
  have hA : Hid (Below w.heap.size w (w.alloc (.cells #[.int .u64 a0, .int .u64 a1, .int .u64 a2, .int .u64 a3] 24))) := by
    show Below _ _ _
    go_grown
  unfold W4 at *
  go_enter Tryz.func76, Tryz.ntmps76
  go_wp2_with fail
  refine Calls.mono (HB.out _) ?_
  rintro e w1 ⟨n, rfl, hn, hx, b1⟩
  have hd : ((n : Int) + 7).tdiv 8 = ((n + 7) / 8 : Nat) := by rw [Int.tdiv_eq_ediv_of_nonneg (by omega)]; omega
  go_wp2
  go_ret
  refine ⟨(n + 7) / 8, by first | rfl | go_num | (simp; done), by omega, ?_, hA.out.trans (b1.mono hA.out.size)⟩
  have h1 := hx.out.1
  have h2 : (2 : Int) ^ n ≤ 2 ^ (8 * ((n + 7) / 8)) := by
    have := Nat.pow_le_pow_right (n := 2) (by decide) (show n ≤ 8 * ((n + 7) / 8) by omega)
    exact_mod_cast this
  omega
end Go.Proofs.YtionjibiemncbabGreat
namespace Go.Proofs.YtionjibiemncbabGreat
open Go.RowKit Go.Shelf
def offEnd (R : World → Prop) : Exit → Act → World → Prop
  | .normal, _, W => R W
  | _, _, _ => False
theorem range_with {P : Program} {n : Nat} {g : Operand} {ps : Array Tmp} {assign body : Code} {Q : Exit → Act → World → Prop} {a : Act} {w : World} {gf : Nat} {lb : Array Value}
    (hg : a.eval g = .func (.func gf) #[] lb) (eg : ∀ args w, (callFunc gf args).run P w = .ok (.enter gf args) w)
    (h : ∀ (r : Loop) (W1 : World), r.state = .ready → r.pending = none → r.tmps = a.tmps → r.params = ps → r.assign = assign → r.body = body → W1 = (w.alloc (.deferred (some []))).alloc (.loop r) →
      CallsIn Fence.wide (n - 1) P gf (#[.func (.yield (w.heap.size + 1)) #[] #[]] ++ lb) W1 fun e W' => (∃ v, e = .returned v) ∧ W'.heap[w.heap.size + 1]? = some (.loop r) ∧
        Q .normal { a with defers := { target := .collected w.heap.size, args := #[] } :: a.defers } (W'.putObj (w.heap.size + 1) (.loop { r with state := .exhausted }))) :
    (Code.rangeFunc g ps assign body).wpIn Fence.wide n P Q a w := by
  refine wpIn_rangeFunc ?_
  intro fn _
  obtain ⟨r, hr⟩ : ∃ r : Loop, r = { state := .ready, pending := none, fn, tmps := a.tmps, params := ps, assign, body, defers := w.heap.size } := ⟨_, rfl⟩
  refine ⟨w.heap.size + 1, [{ target := .collected w.heap.size, args := #[] }], (w.alloc (.deferred (some []))).alloc (.loop r), { target := .fn (.func gf) lb, args := #[.func (.yield (w.heap.size + 1)) #[] #[]] }, (w.alloc (.deferred (some []))).alloc (.loop r), gf,
    #[.func (.yield (w.heap.size + 1)) #[] #[]] ++ lb, (w.alloc (.deferred (some []))).alloc (.loop r), ?_, ?_, fun _ _ => trivial, ?_, (fun h => by simp [Fence.wide] at h), ?_⟩
  · rw [hr]; exact run_enterLoop_outer _ _ _ _ _
  · simp only [resolve, hg]
    simp [go_sem]
  · simp [invoke, go_sem, eg]
  · refine (h r _ (by rw [hr]) (by rw [hr]) (by rw [hr]) (by rw [hr]) (by rw [hr]) (by rw [hr]) rfl).mono ?_
    rintro e W' ⟨⟨v, rfl⟩, hl, hq⟩
    have hpe : r.pending = none := by rw [hr]
    have := run_endLoop (P := P) hl (by rw [hr]; simp)
    rw [hpe] at this hq
    exact ⟨none, _, this, hq⟩
theorem round_with {P : Program} {m l : Nat} {args : Array Value} {W : World} {r : Loop} {R : World → Prop} (hl : W.heap[l]? = some (.loop r)) (hst : r.state = .ready) (hpe : r.pending = none) (hs : args.size = r.params.size)
    (h : ∀ rb : Loop, Hid (rb = { r with state := .busy }) → r.assign.wpIn (Fence.wide.inRound l) m P (Exit.then (fun a1 W1 => W1.heap[l]? = some (.loop r) ∧
        r.body.wpIn (Fence.wide.inRound l) m P (offEnd fun W3 => W3.heap[l]? = some (.loop rb) ∧ R (W3.putObj l (.loop r))) a1 (W1.putObj l (.loop rb))) (fun _ _ _ => False))
      { tmps := (r.params.zip args).foldl (fun t (p, v) => t.setIfInBounds p v) r.tmps, defers := [] } W) :
    YieldAt Fence.wide m P l args W fun e W' => e = .returned (.bool true) ∧ R W' := by
  refine ⟨r.fn, _, r.assign, r.body, run_yield hl hs, roundIn_of_wpIn trivial (wpIn_mono (h _ rfl) ?_)⟩
  rintro e a1 W1 hp
  cases e with
  | normal =>
    obtain ⟨hl1, hb⟩ := hp
    refine ⟨_, run_beginRound hl1 hst, wpIn_mono hb ?_⟩
    rintro e a3 W3 hq
    cases e with
    | normal =>
      obtain ⟨hl3, hR⟩ := hq
      refine ⟨_, _, run_endRound none hl3, rfl, ?_⟩
      have e1 : ({ ({ r with state := .busy } : Loop) with state := if (none : Option Code).isNone then .ready else .done, pending := none } : Loop) = r := by
        cases r; simp only at hst hpe; subst hst hpe; rfl
      rw [e1]
      exact hR
    | ret => exact hq.elim
    | exit id => exact hq.elim
    | goto t => exact hq.elim
    | panic ch => exact hq.elim
    | outgrown => exact hq.elim
  | ret => exact hp.elim
  | exit id => exact hp.elim
  | goto t => exact hp.elim
  | panic ch => exact hp.elim
  | outgrown => exact hp.elim
end Go.Proofs.YtionjibiemncbabGreat
namespace Go.Proofs.YtionjibiemncbabGreat
open Go.RowKit Go.Shelf
theorem wpAnyIn_inv {P : Program} {F : Fence} {m : Nat} {md : Region.Mode} {ops : Array Oper} {Q : Exit → Act → World → Prop} (n : Nat) (hn : ops.size = n) (I : Array Bool → Act → World → Prop)
    (hend : ∀ l a w, l.size = n → I l a w → Region.ready md ops l = [] → Q .normal a w)
    (hstep : ∀ i l a w, l.size = n → I l a w → i ∈ Region.ready md ops l → wpOpIn F m P ops Q i (I (l.setIfInBounds i true)) a w) :
    ∀ (fuel : Nat) (l : Array Bool) (a : Act) (w : World), l.size = n → left n l ≤ fuel → I l a w → wpAnyIn F m P md ops Q fuel l a w
  | 0, l, a, w, hs, hl, hI => by
    have hr : Region.ready md ops l = [] := by
      apply List.eq_nil_iff_forall_not_mem.2
      intro i hi
      obtain ⟨h1, h2, _⟩ := ready_mem hi
      have := left_set hs (by omega) h2
      omega
    exact ⟨hr, hend l a w hs hI hr⟩
  | fuel + 1, l, a, w, hs, hl, hI => by
    refine ⟨fun hr => hend l a w hs hI hr, fun i hi => ?_⟩
    obtain ⟨h1, h2, _⟩ := ready_mem hi
    have hlt := left_set hs (by omega) h2
    exact wpOpIn_mono (fun a' w' hI' => wpAnyIn_inv n hn I hend hstep fuel _ a' w' (by simp [hs]) (by omega) hI') (hstep i l a w hs hI hi)
theorem wpIn_region_inv {P : Program} {F : Fence} {m : Nat} {ops : Array Oper} {Q : Exit → Act → World → Prop} {id : Nat} {a : Act} {w : World} (hm : P.follows .mixedOrders = true) (n : Nat) (hn : ops.size = n) (I : Array Bool → Act → World → Prop)
    (h0 : I (Array.replicate n false) a w.drew)
    (hend : ∀ l a w, l.size = n → I l a w → Region.ready .any ops l = [] → Q .normal a w)
    (hstep : ∀ i l a w, l.size = n → I l a w → i ∈ Region.ready .any ops l → wpOpIn F m P ops Q i (I (l.setIfInBounds i true)) a w) : (Code.region id ops true).wpIn F m P Q a w := by
  refine wpIn_region_any hm ?_
  rw [hn]
  exact wpAnyIn_inv n hn I hend hstep n _ _ _ (by simp) (left_le n _) h0
theorem wpOpIn_of_wp {P : Program} {m : Nat} {ops : Array Oper} {Q : Exit → Act → World → Prop} {i : Nat} {o : Oper} {a : Act} {w : World} {K : Act → World → Prop} (ho : ops[i]? = some o) (hw : Region.wanted o (yielded ops a.tmps) = true) (hd : ∀ c, o.op ≠ .defer c)
    (h : o.wp P a w K Q) : wpOpIn Fence.wide m P ops Q i K a w := by
  unfold wpOpIn
  rw [ho]
  simp only
  rw [if_pos hw]
  refine ⟨fun _ _ => trivial, ?_⟩
  rw [Oper.semAt_plain _ _ _ hd]
  unfold Oper.wp at h
  generalize (execOp a.eval o).run P w = r at h ⊢
  have hdep : Fence.wide.depth.isSome = true → 1 ≤ m := fun h => by simp [Fence.wide] at h
  rcases r with ⟨nx, w'⟩ | ⟨hl, w'⟩
  · cases nx with
    | value v => exact h
    | skip => exact h
    | defer d => exact h
    | enter f args => exact ⟨hdep, callsIn_wide.2 h⟩
    | row row args =>
      refine ⟨hdep, ?_⟩
      intro c cs _
      obtain ⟨v, w'', hr, hs⟩ := h c cs
      exact ⟨v, w'', hr, stepsIn_wide.2 hs⟩
    | _ => exact h.elim
  · cases hl <;> first | exact h | exact h.elim
theorem wpOpIn_yield {P : Program} {m l : Nat} {args : Array Value} {R : Ending → World → Prop} {ops : Array Oper} {Q : Exit → Act → World → Prop} {i : Nat} {o : Oper} {a : Act} {w : World} {K : Act → World → Prop} (ho : ops[i]? = some o) (hw : Region.wanted o (yielded ops a.tmps) = true) (hd : ∀ c, o.op ≠ .defer c)
    (hx : (execOp a.eval o).run P w = (Instr.yield l args).run P w) (hY : YieldAt Fence.wide (m - 1) P l args w R) (h : ∀ e w', R e w' → ∃ v, e = .returned v ∧ K (a.put o.dst v) w') : wpOpIn Fence.wide m P ops Q i K a w := by
  unfold wpOpIn
  rw [ho]
  simp only
  rw [if_pos hw]
  refine ⟨fun _ _ => trivial, ?_⟩
  rw [Oper.semAt_plain _ _ _ hd, hx]
  obtain ⟨fn, tmps, assign, body, hy, hR⟩ := hY
  rw [hy, Oper.uponIn_round]
  refine ⟨fun h => by simp [Fence.wide] at h, hR.mono ?_⟩
  intro e w' hr
  obtain ⟨v, rfl, hk⟩ := h e w' hr
  exact hk
end Go.Proofs.YtionjibiemncbabGreat
