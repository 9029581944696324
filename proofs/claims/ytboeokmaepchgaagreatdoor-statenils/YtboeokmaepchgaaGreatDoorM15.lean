/- KcKD, KcKE, KcKF, KcKG, laid into one text. -/
import Derived.Test.YtboeokmaepchgaaGreatDoorKcKC
import Derived.Laws.CopyOwn
/- A range over a function whose iterator writes cells of its own between the rounds: the statement, and one round (no body leaves early). -/
namespace Go.Proofs.YtboeokmaepchgaaGreatDoor.Kc
open Go.RowKit Go.Shelf
set_option linter.unusedSimpArgs false
set_option linter.unusedVariables false

/-- How a body may be left: off its end. -/
def offEnd (R : World → Prop) : Exit → Act → World → Prop
  | .normal, _, W => R W
  | _, _, _ => False
theorem range_with {P : Program} {n : Nat} {g : Operand} {ps : Array Tmp} {assign body : Code} {Q : Exit → Act → World → Prop} {a : Act} {w : World} {gf : Nat} {lb : Array Value}
    (hg : a.eval g = .func (.func gf) #[] lb) (eg : ∀ args w, (callFunc gf args).run P w = .ok (.enter gf args) w)
    (h : ∀ (r : Loop) (W1 : World), r.state = .ready → r.pending = none → r.tmps = a.tmps → r.params = ps → r.assign = assign → r.body = body → W1 = (w.alloc (.deferred (some []))).alloc (.loop r) →
      CallsIn Fence.wide (n - 1) P gf (#[.func (.yield (w.heap.size + 1)) #[] #[]] ++ lb) W1 fun e W' => (∃ v, e = .returned v) ∧ W'.heap[w.heap.size + 1]? = some (.loop r) ∧
        Q .normal { a with defers := { target := .collected w.heap.size, args := #[] } :: a.defers } (W'.putObj (w.heap.size + 1) (.loop { r with state := .exhausted }))) :
    (Code.rangeFunc g ps assign body).wpIn Fence.wide n P Q a w := by
  refine wpIn_rangeFunc ?_
  intro fn _
  obtain ⟨r, hr⟩ : ∃ r : Loop, r = { state := .ready, pending := none, fn, tmps := a.tmps, params := ps, assign, body, defers := w.heap.size } := ⟨_, rfl⟩
  refine ⟨w.heap.size + 1, [{ target := .collected w.heap.size, args := #[] }], (w.alloc (.deferred (some []))).alloc (.loop r), { target := .fn (.func gf) lb, args := #[.func (.yield (w.heap.size + 1)) #[] #[]] }, (w.alloc (.deferred (some []))).alloc (.loop r), gf,
    #[.func (.yield (w.heap.size + 1)) #[] #[]] ++ lb, (w.alloc (.deferred (some []))).alloc (.loop r), ?_, ?_, fun _ _ => trivial, ?_, (fun h => by simp [Fence.wide] at h), ?_⟩
  · rw [hr]; exact run_enterLoop_outer _ _ _ _ _
  · simp only [resolve, hg]
    simp [go_sem]
  · simp [invoke, go_sem, eg]
  · refine (h r _ (by rw [hr]) (by rw [hr]) (by rw [hr]) (by rw [hr]) (by rw [hr]) (by rw [hr]) rfl).mono ?_
    rintro e W' ⟨⟨v, rfl⟩, hl, hq⟩
    have hpe : r.pending = none := by rw [hr]
    have := run_endLoop (P := P) hl (by rw [hr]; simp)
    rw [hpe] at this hq
    exact ⟨none, _, this, hq⟩
theorem round_with {P : Program} {m l : Nat} {args : Array Value} {W : World} {r : Loop} {R : World → Prop} (hl : W.heap[l]? = some (.loop r)) (hst : r.state = .ready) (hpe : r.pending = none) (hs : args.size = r.params.size)
    (h : ∀ rb : Loop, Hid (rb = { r with state := .busy }) → r.assign.wpIn (Fence.wide.inRound l) m P (Exit.then (fun a1 W1 => W1.heap[l]? = some (.loop r) ∧
        r.body.wpIn (Fence.wide.inRound l) m P (offEnd fun W3 => W3.heap[l]? = some (.loop rb) ∧ R (W3.putObj l (.loop r))) a1 (W1.putObj l (.loop rb))) (fun _ _ _ => False))
      { tmps := (r.params.zip args).foldl (fun t (p, v) => t.setIfInBounds p v) r.tmps, defers := [] } W) :
    YieldAt Fence.wide m P l args W fun e W' => e = .returned (.bool true) ∧ R W' := by
  refine ⟨r.fn, _, r.assign, r.body, run_yield hl hs, roundIn_of_wpIn trivial (wpIn_mono (h _ rfl) ?_)⟩
  rintro e a1 W1 hp
  cases e with
  | normal =>
    obtain ⟨hl1, hb⟩ := hp
    refine ⟨_, run_beginRound hl1 hst, wpIn_mono hb ?_⟩
    rintro e a3 W3 hq
    cases e with
    | normal =>
      obtain ⟨hl3, hR⟩ := hq
      refine ⟨_, _, run_endRound none hl3, rfl, ?_⟩
      have e1 : ({ ({ r with state := .busy } : Loop) with state := if (none : Option Code).isNone then .ready else .done, pending := none } : Loop) = r := by
        cases r; simp only at hst hpe; subst hst hpe; rfl
      rw [e1]
      exact hR
    | ret => exact hq.elim
    | exit id => exact hq.elim
    | goto t => exact hq.elim
    | panic ch => exact hq.elim
    | outgrown => exact hq.elim
  | ret => exact hp.elim
  | exit id => exact hp.elim
  | goto t => exact hp.elim
  | panic ch => exact hp.elim
  | outgrown => exact hp.elim
end Go.Proofs.YtboeokmaepchgaaGreatDoor.Kc
/- A region that draws its order within a round, out of the walk that holds a fact of the world (no defer in it). -/
namespace Go.Proofs.YtboeokmaepchgaaGreatDoor.Kc
open Go.RowKit Go.Shelf
set_option linter.unusedSimpArgs false
set_option linter.unusedVariables false

theorem wpIn_of_wp_op {P : Program} {n l : Nat} {o : Oper} {a : Act} {w : World} {K : Act → World → Prop} {Q : Exit → Act → World → Prop} (hd : ∀ c, o.op ≠ .defer c) (h : o.wp P a w K Q) : o.wpIn (Fence.wide.inRound l) n P a w K Q := by
  refine ⟨fun _ _ => trivial, ?_⟩
  rw [Oper.semAt_eq _ _ _ hd]
  unfold Oper.wp at h
  generalize (execOp a.eval o).run P w = r at h ⊢
  have hdep : (Fence.wide.inRound l).depth.isSome = true → 1 ≤ n := fun h => by simp [Fence.wide] at h
  rcases r with ⟨nx, w'⟩ | ⟨hl, w'⟩
  · cases nx with
    | value v => exact h
    | skip => exact h
    | defer d => exact h
    | enter f args => exact ⟨hdep, CallsIn.inRound l (callsIn_wide.2 h)⟩
    | row row args =>
      refine ⟨hdep, ?_⟩
      intro c cs _
      obtain ⟨v, w'', hr, hs⟩ := h c cs
      exact ⟨v, w'', hr, stepsIn_wide.2 hs⟩
    | _ => exact h.elim
  · cases hl <;> first | exact h | exact h.elim
theorem wpAnyIn_of_wpAny {P : Program} {n l : Nat} {md : Region.Mode} {ops : Array Oper} {Q : Exit → Act → World → Prop} (hd : ∀ (i : Nat) (o : Oper), ops[i]? = some o → ∀ c, o.op ≠ .defer c) (hlo : ¬ LetsOut Q) :
    ∀ (fuel : Nat) (listed : Array Bool) (a : Act) (w : World), wpAny P md ops Q fuel listed a w → wpAnyIn (Fence.wide.inRound l) n P md ops Q fuel listed a w
  | 0, _, _, _, h => h
  | fuel + 1, listed, a, w, h => ⟨h.1, fun i hi => by
      have h2 := h.2 i hi
      unfold wpOp at h2
      unfold wpOpIn
      split
      · rename_i he
        simp only [he] at h2
        exact wpAnyIn_of_wpAny hd hlo fuel _ a w h2
      · rename_i o he
        simp only [he] at h2
        split
        · rename_i hw
          rw [if_pos hw] at h2
          rcases h2 with h2 | h2
          · exact wpIn_of_wp_op (hd i o he) (Oper.wp_mono (fun a' w' h' => wpAnyIn_of_wpAny hd hlo fuel _ a' w' h') h2)
          · exact absurd h2.2 hlo
        · rename_i hw
          rw [if_neg hw] at h2
          exact ⟨fun _ _ => trivial, wpAnyIn_of_wpAny hd hlo fuel _ _ w h2⟩⟩
theorem region_round {P : Program} {n l id : Nat} {ops : Array Oper} {Q : Exit → Act → World → Prop} {S : World → Prop} {a : Act} {w : World} (hm : P.follows .mixedOrders = true) (hd : ∀ (i : Nat) (o : Oper), ops[i]? = some o → ∀ c, o.op ≠ .defer c) (hlo : ¬ LetsOut Q) (hS : S w.drew)
    (h : S w.drew → wpAnyH P .any ops Q S ops.size (Array.replicate ops.size false) a w.drew) : (Code.region id ops true).wpIn (Fence.wide.inRound l) n P Q a w :=
  wpIn_region_any hm (wpAnyIn_of_wpAny hd hlo _ _ _ _ (wpAny_of_held _ _ _ _ (h hS)))
end Go.Proofs.YtboeokmaepchgaaGreatDoor.Kc
/- The Hasher in memory; copy into a row; keccak's blocks. -/
namespace Go.Proofs.YtboeokmaepchgaaGreatDoor.Kc
open Go.RowKit Go.Shelf
set_option linter.unusedSimpArgs false
set_option linter.unusedVariables false
attribute [local go_sem] Oper.semAt_some

/-- A Hasher's cells: the state, the part, how many bytes are held. -/
def has (S : Nat → BitVec 64) (p : Nat → BitVec 8) (h : Nat) : Nat → Value := fun j => if j < 25 then .int .u64 (I (S j)) else if j < 161 then .int .u8 (I8 (p (j - 25))) else .int .i64 (h : Int)
theorem has_state {S : Nat → BitVec 64} {p : Nat → BitVec 8} {h j : Nat} (hj : j < 25) : has S p h j = .int .u64 (I (S j)) := by unfold has; rw [if_pos hj]
theorem has_part {S : Nat → BitVec 64} {p : Nat → BitVec 8} {h i : Nat} (hi : i < 136) : has S p h (25 + i) = .int .u8 (I8 (p i)) := by unfold has; rw [if_neg (by omega), if_pos (by omega), Nat.add_sub_cancel_left]
theorem has_held {S : Nat → BitVec 64} {p : Nat → BitVec 8} {h : Nat} : has S p h 161 = .int .i64 (h : Int) := by unfold has; rw [if_neg (by omega), if_neg (by omega)]
/-- The state behind k blocks of a message. -/
def stAfter (msg : Nat → BitVec 8) : Nat → Nat → BitVec 64
  | 0 => fun _ => 0
  | k + 1 => permute RCs (absTo (stAfter msg k) (fun i => msg (136 * k + i)) 136)
theorem absTo_congr {S : Nat → BitVec 64} {p q : Nat → BitVec 8} : ∀ k, (∀ i, i < k → p i = q i) → absTo S p k = absTo S q k
  | 0, _ => rfl
  | k + 1, h => by
    unfold absTo
    rw [absTo_congr k (fun i hi => h i (by omega)), h k (by omega)]
theorem stAfter_congr {m m' : Nat → BitVec 8} : ∀ k, (∀ i, i < 136 * k → m i = m' i) → stAfter m k = stAfter m' k
  | 0, _ => rfl
  | k + 1, h => by
    unfold stAfter
    rw [stAfter_congr k (fun i hi => h i (by omega)), absTo_congr 136 (fun i hi => h (136 * k + i) (by omega))]
/-- In block hb stands a Hasher into which the first n bytes of the message were written. -/
def HasIn (W : World) (hb : Nat) (msg : Nat → BitVec 8) (n : Nat) : Prop :=
  ∃ p : Nat → BitVec 8, W.rowIs hb 204 162 (has (stAfter msg (n / 136)) p (n % 136)) ∧ ∀ i, i < n % 136 → p i = msg (136 * (n / 136) + i)
theorem HasIn.congr {W : World} {hb n : Nat} {m m' : Nat → BitVec 8} (h : HasIn W hb m n) (e : ∀ i, i < n → m i = m' i) : HasIn W hb m' n := by
  obtain ⟨p, hr, hp⟩ := h
  refine ⟨p, ?_, fun i hi => (hp i hi).trans (e _ (by omega))⟩
  rw [← stAfter_congr (n / 136) (fun i hi => e i (by omega))]
  exact hr

theorem splice_vec (n off c : Nat) (f src : Nat → Value) (hfit : off + c ≤ n) :
    ((vec n f).toList.take off ++ (List.range c).map src ++ (vec n f).toList.drop (off + c)).toArray = vec n (fun j => if off ≤ j ∧ j < off + c then src (j - off) else f j) := by
  have hl : (vec n f).toList = (List.range n).map f := rfl
  rw [hl]
  apply vec_eq
  · simp; omega
  · intro i hi
    rw [List.getElem?_toArray]
    by_cases h1 : i < off
    · rw [List.append_assoc, List.getElem?_append_left (by simp; omega), List.getElem?_take_of_lt h1, List.getElem?_map, List.getElem?_range (by omega), if_neg (by omega)]
      rfl
    · by_cases h2 : i < off + c
      · rw [List.append_assoc, List.getElem?_append_right (by simp; omega), List.getElem?_append_left (by simp; omega), List.getElem?_map, List.length_take, List.length_map, List.length_range, show min off n = off from by omega, List.getElem?_range (by omega), if_pos ⟨by omega, h2⟩]
        rfl
      · rw [List.getElem?_append_right (by simp; omega), List.getElem?_drop, List.length_append, List.length_take, List.length_map, List.length_range, List.length_map, List.length_range, show min off n = off from by omega, show off + c + (i - (off + c)) = i from by omega, List.getElem?_map, List.getElem?_range hi, if_neg (by omega)]
        rfl
theorem step_copy_vec {P : Program} {ops : Array Oper} {o : Oper} {a : Act} {w : World} {K : Act → World → Prop} {Q : Exit → Act → World → Prop} {E : Prop} (hgd : o.guard = none) (d s : Operand) (dT sT : TypeId)
    (ho : o.op = .call { callee := .builtin .copy, args := #[d, s], argTypes := #[dT, sT] }) (elem : TypeId) (hu : P.underlying dT = some (.slice elem)) (hsz : (P.info? elem).map (·.size) = some 1)
    (g off n : Nat) (t : TypeId) (f : Nat → Value) (hg : w.rowIs g t n f) (c dLen dCap sLen sCap : Nat) (ad : Addr) (hd : a.eval d = .slice (some ⟨g, off, none⟩) dLen dCap) (hs : a.eval s = .slice (some ad) sLen sCap)
    (hc : c = Nat.min sLen dLen) (src : Nat → Value) (hsrc : ∀ j, j < c → w.cell? (ad.add j) = some (src j)) (h1 : ∀ j, j < c → (src j).oneCell' = true) (hfit : off + c ≤ n)
    (h : ∀ w', w'.rowIs g t n (fun j => if off ≤ j ∧ j < off + c then src (j - off) else f j) → Only g w w' → K (a.put o.dst (.int .i64 (c : Int))) w') :
    if Region.wanted o (yielded ops a.tmps) = true then Oper.wp P o a w K Q else E := by
  have hw : Region.wanted o (yielded ops a.tmps) = true := by simp [Region.wanted, hgd]
  rw [if_pos hw]
  have hrun := run_copy_row (P := P) w dT sT o.type elem g off dLen dCap ad sLen sCap (vec n f) t ((List.range c).map src) hu hsz (row_heap hg) (by simpa using hc) (fun j v hv => by
    rw [List.getElem?_map] at hv
    by_cases hj : j < c
    · rw [List.getElem?_range hj] at hv; simp at hv; subst hv; exact hsrc j hj
    · rw [List.getElem?_eq_none (by simpa using hj)] at hv; cases hv) (by simpa using hfit) (fun v hv => by
    obtain ⟨j, hj, rfl⟩ := List.mem_map.1 hv
    exact h1 j (by simpa using hj))
  unfold Oper.wp
  simp only [List.length_map, List.length_range] at hrun
  simp [execOp, ho, resolve, invoke, builtin, hd, hs, hrun, Result.andThen]
  refine h _ (heap_row ?_) ((Only.refl _ _).setRow _)
  rw [setRow_heap w g _ _ t _ (row_heap hg)]
  congr 2
  simpa using splice_vec n off c f src hfit
end Go.Proofs.YtboeokmaepchgaaGreatDoor.Kc
/- keccak's blocks: what its closure does with the bytes. -/
namespace Go.Proofs.YtboeokmaepchgaaGreatDoor.Kc
open Go.RowKit Go.Shelf
set_option linter.unusedSimpArgs false
set_option linter.unusedVariables false
attribute [local go_sem] Oper.semAt_some

theorem gb_refl (w : World) (row : Option Nat) : w.grownBy w row := ⟨rfl, rfl, rfl, Nat.le_refl _, fun _ _ _ => rfl⟩
theorem gb_trans {u v w : World} {row : Option Nat} (h : u.grownBy v row) (k : v.grownBy w row) : u.grownBy w row :=
  ⟨k.os.trans h.os, k.tape.trans h.tape, k.output.trans h.output, Nat.le_trans h.size k.size, fun i hi hr => (k.block i (Nat.lt_of_lt_of_le hi h.size) hr).trans (h.block i hi hr)⟩
theorem Only.gb {b : Nat} {w w' : World} (h : Only b w w') : w.grownBy w' (some b) :=
  ⟨h.os, h.tape, h.output, Nat.le_of_eq h.size.symm, fun i _ hr => h.block i (fun e => hr (by rw [e]))⟩
def slen : Value → Nat
  | .slice _ n _ => n
  | _ => 0
/-- The part with c bytes more from place r on. -/
def partTo (p m : Nat → BitVec 8) (r c i : Nat) : BitVec 8 := if r ≤ i ∧ i < r + c then m i else p i
theorem part_row {S : Nat → BitVec 64} {p m : Nat → BitVec 8} {r c hb h : Nat} {w : World} {src : Nat → Value} (hrc : r + c ≤ 136) (hs : ∀ j, j < c → src j = .int .u8 (I8 (m (r + j))))
    (hr : w.rowIs hb 204 162 (fun j => if 25 + r ≤ j ∧ j < 25 + r + c then src (j - (25 + r)) else has S p h j)) : w.rowIs hb 204 162 (has S (partTo p m r c) h) := by
  refine hr.congr ?_
  intro i hi
  by_cases h1 : 25 + r ≤ i ∧ i < 25 + r + c
  · rw [if_pos h1, hs _ (by omega), show i = 25 + (i - 25) from by omega, has_part (by omega)]
    unfold partTo
    rw [if_pos (by omega)]
    congr 4
    omega
  · rw [if_neg h1]
    unfold has
    by_cases h2 : i < 25
    · rw [if_pos h2, if_pos h2]
    · rw [if_neg h2, if_neg h2]
      by_cases h3 : i < 161
      · rw [if_pos h3, if_pos h3]
        unfold partTo
        rw [if_neg (by omega)]
      · rw [if_neg h3, if_neg h3]
theorem held_row {S : Nat → BitVec 64} {p : Nat → BitVec 8} {r r' hb : Nat} {w : World} {v : Value} (hv : v = .int .i64 (r' : Int)) (hr : w.rowIs hb 204 162 (has S p r)) : (w.setCell ⟨hb, 161, none⟩ v).rowIs hb 204 162 (has S p r') := by
  refine (hr.set _ _).congr ?_
  intro i hi
  subst hv
  by_cases h1 : i = 161
  · subst h1; simp only [if_true]; rw [has_held]
  · simp only [if_neg h1]
    unfold has
    by_cases h2 : i < 25
    · rw [if_pos h2, if_pos h2]
    · rw [if_neg h2, if_neg h2, if_pos (by omega), if_pos (by omega)]
theorem run_loadVar_mid {P : Program} (w : World) (g off N : Nat) (ty e : TypeId) (f : Nat → Value) (hc : ∀ j, j < N → w.cell? ⟨g, off + j, none⟩ = some (f j)) (hu : P.underlying ty = some (.array N e)) (hi : (P.info? ty).map (·.size) = some N) :
    (loadVar ty ⟨g, off, none⟩).run P w = .ok (.agg (vec N f)) w := by
  have hl : (loadCells ⟨g, off, none⟩ (vec N f).toList.length).run P w = .ok (vec N f).toList.toArray w :=
    run_loadCells_list (P := P) w ⟨g, off, none⟩ (vec N f).toList (fun j v hv => by
      have hadd : (⟨g, off, none⟩ : Addr).add j = ⟨g, off + j, none⟩ := by unfold Addr.add; split <;> simp_all
      rw [hadd]
      have hv' : (vec N f)[j]? = some v := by simpa using hv
      by_cases hj : j < N
      · rw [get_vec N f j hj] at hv'; cases hv'; exact hc j hj
      · rw [Array.getElem?_eq_none (by simp; omega)] at hv'; cases hv')
  cases hq : P.info? ty with
  | none => simp [hq] at hi
  | some i =>
    have hs : i.size = N := by simpa [hq] using hi
    have hagg : (isAgg ty).run P w = .ok true w := by
      unfold isAgg
      rw [Sem.run_bind, run_underlying hu w]
      simp
    simp only [Array.length_toList, Array.toArray_toList, size_vec] at hl
    simp [loadVar, Sem.run_bind, hagg, sizeOf, typeInfo, hq, hs, hl]
theorem wpListIn_load_mid {F : Fence} {n : Nat} {P : Program} {ops : Array Oper} {rest : List Oper} {o : Oper} {a : Act} {w : World} {Q : Exit → Act → World → Prop} (hw : Region.wanted o (yielded ops a.tmps) = true) (ty : TypeId) (x : Operand) (ho : o.op = .load ty x)
    (g off N : Nat) (hx : a.eval x = .pointer (some ⟨g, off, none⟩)) (f : Nat → Value) (hc : ∀ j, j < N → w.cell? ⟨g, off + j, none⟩ = some (f j)) (e : TypeId) (hu : P.underlying ty = some (.array N e)) (hi : (P.info? ty).map (·.size) = some N)
    (h : wpListIn F n P ops Q rest (a.put o.dst (.agg (vec N f))) w) : wpListIn F n P ops Q (o :: rest) a w := by
  refine wpListIn_step fun K hK' => ?_
  rw [if_pos hw]
  unfold Oper.wpIn
  refine ⟨?_, ?_⟩
  · simp [Oper.about, ho]
  · rw [Oper.semAt_plain F _ _ (by rw [ho]; intro c hc'; cases hc')]
    simp only [execOp, ho, hx, Instr.loadAt, Instr.sureAddr, Sem.run_bind, Sem.run_pure, Result.andThen_ok, run_loadVar_mid w g off N ty e f hc hu hi]
    exact hK' _ _ h
theorem part_from (hb r : Nat) (hr : r < 136) (w : World) : (Instr.sliceAt 202 (.pointer (some ⟨hb, 25, none⟩)) (some (.int .i64 (r : Int))) none none).run Tryz.prog w = .ok (.slice (some ⟨hb, 25 + r, none⟩) (136 - r) (136 - r)) w := by
  have ha : Tryz.prog.arrayLen 202 = 136 := by kernel_rfl
  have he : Tryz.prog.elem 202 = 5 := by kernel_rfl
  rw [run_sliceAt_array_l w 202 ⟨hb, 25, none⟩ (by kernel_rfl) .i64 (r : Int) (by omega) (by rw [ha]; omega), he, Tryz.sizeOf5, ha]
  simp only [Result.andThen, slicedAt, Int.toNat_natCast, if_neg (show ¬ 136 = r by omega)]
  simp [Addr.add]
theorem rest_from (bb o L cp c : Nat) (hc : c ≤ L) (hL : L ≤ cp) : ∃ a2 : Option Addr, (c < L → a2 = some ⟨bb, o + c, none⟩) ∧ (∀ w, (Instr.sliceAt 22 (.slice (some ⟨bb, o, none⟩) L cp) (some (.int .i64 (c : Int))) none none).run Tryz.prog w = .ok (.slice a2 (L - c) (cp - c)) w) ∧ (∀ w, (Instr.slice 22 (.slice (some ⟨bb, o, none⟩) L cp) (some (.int .i64 (c : Int))) none none).run Tryz.prog w = .ok (.slice a2 (L - c) (cp - c)) w) := by
  have he : Tryz.prog.elem 22 = 5 := by kernel_rfl
  have h2 : ∀ w, (Instr.slice 22 (.slice (some ⟨bb, o, none⟩) L cp) (some (.int .i64 (c : Int))) none none).run Tryz.prog w = .ok (.slice (if cp = c then some ⟨bb, o, none⟩ else some ⟨bb, o + c, none⟩) (L - c) (cp - c)) w := fun w => by
    rw [run_slice_l w 22 _ L cp (by kernel_rfl) .i64 (c : Int) (by omega) (by omega), he, Tryz.sizeOf5]
    simp only [Result.andThen, sliced, Int.toNat_natCast]
    by_cases h0 : c = 0
    · subst h0; simp [Addr.add]
    · simp [Addr.add, h0]
  refine ⟨_, fun h => if_neg (by omega), fun w => ?_, h2⟩
  rw [run_sliceAt_slice w 22 _ _ _ _ (by kernel_rfl)]
  exact h2 w
theorem partTo_eq {p msg : Nat → BitVec 8} {q r c i : Nat} (hp : ∀ i, i < r → p i = msg (136 * q + i)) (hi : i < r + c) : partTo p (fun i => msg (136 * q + i)) r c i = msg (136 * q + i) := by
  unfold partTo
  by_cases h : r ≤ i ∧ i < r + c
  · rw [if_pos h]
  · rw [if_neg h]; exact hp i (by omega)
theorem has_full {W : World} {hb n' q r c : Nat} {p msg : Nat → BitVec 8} (hp : ∀ i, i < r → p i = msg (136 * q + i)) (hrc : r + c = 136) (hn : n' = 136 * (q + 1))
    (h : W.rowIs hb 204 162 (has (permute RCs (absTo (stAfter msg q) (partTo p (fun i => msg (136 * q + i)) r c) 136)) (partTo p (fun i => msg (136 * q + i)) r c) 0)) : HasIn W hb msg n' := by
  refine ⟨partTo p (fun i => msg (136 * q + i)) r c, ?_, fun i hi => absurd hi (by omega)⟩
  rw [show n' / 136 = q + 1 from by omega, show n' % 136 = 0 from by omega]
  unfold stAfter
  rw [absTo_congr (q := fun i => msg (136 * q + i)) 136 (fun i hi => partTo_eq hp (by omega))] at h
  exact h
theorem has_more {W : World} {hb n' q r c r' : Nat} {p msg : Nat → BitVec 8} (hp : ∀ i, i < r → p i = msg (136 * q + i)) (hrc : r' = r + c) (h136 : r' < 136) (hn : n' = 136 * q + r')
    (h : W.rowIs hb 204 162 (has (stAfter msg q) (partTo p (fun i => msg (136 * q + i)) r c) r')) : HasIn W hb msg n' := by
  refine ⟨partTo p (fun i => msg (136 * q + i)) r c, ?_, fun i hi => ?_⟩
  · rw [show n' / 136 = q from by omega, show n' % 136 = r' from by omega]; exact h
  · rw [show n' / 136 = q from by omega]
    exact partTo_eq hp (by omega)
set_option maxRecDepth 100000 in
set_option maxHeartbeats 2000000 in
theorem blocks1_in (m l hb X1 X2 bb off len cap n : Nat) (ao : Option Addr) (msg : Nat → BitVec 8) (W0 : World)
    (hY : ∀ (S : Nat → BitVec 64) (p : Nat → BitVec 8) (W : World), W0.grownBy W (some hb) → W.rowIs hb 204 162 (has S p 0) → YieldAt Fence.wide m Tryz.prog l #[.agg (vec 136 (byt p))] W fun e W' =>
      e = .returned (.bool true) ∧ W.grownBy W' (some hb) ∧ W'.rowIs hb 204 162 (has (permute RCs (absTo S p 136)) p 0))
    (hx1 : W0.cell? ⟨X1, 0, none⟩ = some (.pointer (some ⟨hb, 0, none⟩))) (hx2 : W0.cell? ⟨X2, 0, none⟩ = some (.slice ao len cap)) (hao : 0 < len → ao = some ⟨bb, off, none⟩)
    (hcells : ∀ j, j < len → W0.cell? ⟨bb, off + j, none⟩ = some (.int .u8 (I8 (msg (n + j))))) (hne1 : X1 ≠ hb) (hneb : 0 < len → bb ≠ hb) (hin : HasIn W0 hb msg n) (hlen : len ≤ 140737488351232) (hcap : len ≤ cap) (hcap2 : cap ≤ 9223372036854775807) :
    CallsIn Fence.wide (m + 1) Tryz.prog 156 #[.func (.yield l) #[] #[], .pointer (some ⟨X2, 0, none⟩), .pointer (some ⟨X1, 0, none⟩)] W0 fun e W' =>
      (∃ v, e = .returned v) ∧ W0.grownBy W' (some hb) ∧ HasIn W' hb msg (n + len) := by
  refine callsIn_of_wp Tryz.func156 rfl trivial ?_ rfl
  simp only [Tryz.ntmps156, List.size_toArray, List.length_cons, List.length_nil, Nat.reduceAdd, Nat.reduceSub, Array.replicate_succ, Array.replicate_zero, List.push_toArray, List.append_toArray, List.nil_append, List.cons_append]
  have H0 : Hid (HasIn W0 hb msg n) := hin
  have HC : Hid (∀ j, j < len → W0.cell? ⟨bb, off + j, none⟩ = some (.int .u8 (I8 (msg (n + j))))) := hcells
  have HY : Hid _ := hY
  have HA : Hid (0 < len → ao = some ⟨bb, off, none⟩) := hao
  clear hin hcells hY hao
  gi_wp2
  gi_loopw [4] (fun v wr => ∃ (k : Nat) (a' : Option Addr) (cp : Nat), k ≤ len ∧ v = .slice a' (len - k) cp ∧ (k < len → a' = some ⟨bb, off + k, none⟩) ∧ (len - k ≤ cp ∧ cp ≤ 9223372036854775807) ∧ W0.grownBy wr (some hb) ∧ HasIn wr hb msg (n + k))
    (fun v _ => slen v)
  case atStart => exact ⟨0, ao, cap, Nat.zero_le _, rfl, HA.out, ⟨hcap, hcap2⟩, gb_refl _ _, H0.out⟩
  case round =>
    obtain ⟨k, a', cp, hk, rfl, ha', ⟨hcp, hcp2⟩, hg, p, hrow, hp⟩ := hrel
    by_cases hlt : k < len
    · obtain rfl := ha' hlt
      obtain ⟨r, hr⟩ : ∃ r, r = (n + k) % 136 := ⟨_, rfl⟩
      obtain ⟨q, hq⟩ : ∃ q, q = (n + k) / 136 := ⟨_, rfl⟩
      obtain ⟨c, hc⟩ : ∃ c, c = Nat.min (len - k) (136 - r) := ⟨_, rfl⟩
      obtain ⟨L, hL⟩ : ∃ L, L = len - k := ⟨_, rfl⟩
      rw [← hr, ← hq] at hrow
      rw [← hL] at hcp hc ⊢
      have hr1 : r < 136 := by omega
      have hL0 : 0 < L := by omega
      have cX1 : wr.cell? ⟨X1, 0, none⟩ = some (.pointer (some ⟨hb, 0, none⟩)) := hg.cell hx1 (by simpa using hne1)
      have cH : wr.cell? ⟨hb, 161, none⟩ = some (.int .i64 (r : Int)) := by rw [hrow.cell (by decide), has_held]
      have hc1 : c ≤ L := by rw [hc]; exact Nat.min_le_left _ _
      have hc2 : c ≤ 136 - r := by rw [hc]; exact Nat.min_le_right _ _
      have hc3 : c = L ∨ c = 136 - r := by
        rcases Nat.le_total L (136 - r) with h | h
        · exact Or.inl (by rw [hc]; exact Nat.min_eq_left h)
        · exact Or.inr (by rw [hc]; exact Nat.min_eq_right h)
      have hsrc : ∀ j, j < c → wr.drew.cell? ((⟨bb, off + k, none⟩ : Addr).add j) = some (byt (fun j => msg (n + k + j)) j) := fun j hj => by
        have : (⟨bb, off + k, none⟩ : Addr).add j = ⟨bb, off + (k + j), none⟩ := by unfold Addr.add; simp [Nat.add_assoc]
        rw [this]
        have h1 := HC.out (k + j) (by omega)
        rw [← Nat.add_assoc n k j] at h1
        exact hg.cell h1 (by simpa using hneb (by omega))
      have H1 : Hid (wr.rowIs hb 204 162 (has (stAfter msg q) p r) ∧ W0.grownBy wr (some hb) ∧ (∀ i, i < r → p i = msg (136 * q + i)) ∧ r = (n + k) % 136 ∧ q = (n + k) / 136 ∧ L = len - k) := ⟨hrow, hg, by rw [hr, hq]; exact hp, hr, hq, hL⟩
      have HSC : Hid (c = Nat.min L (136 - r) ∧ ∀ j, j < c → wr.drew.cell? ((⟨bb, off + k, none⟩ : Addr).add j) = some (byt (fun j => msg (n + k + j)) j)) := ⟨hc, hsrc⟩
      have hc0 : 0 < c := by omega
      have hsl := part_from hb r hr1
      have hmv : r + c ≤ 136 := by omega
      clear hrow hg hp hr hq hc hL ha' hsrc H0 HA HC
      gi_wp2
      refine wpIn_wide.2 ?_
      go_region_held3 (fun w' => w'.cell? ⟨X1, 0, none⟩ = some (.pointer (some ⟨hb, 0, none⟩)) ∧ w'.cell? ⟨hb, 161, none⟩ = some (.int .i64 (r : Int))) (first | assumption | exact ⟨cX1, cH⟩) (first | (refine step_copy_vec rfl (.tmp 17) (.tmp 18) 22 22 rfl 5 Tryz.underlying22 (by kernel_rfl) hb (25 + r) 162 204 _ H1.out.1.drew c _ _ _ _ ⟨bb, off + k, none⟩ rfl rfl HSC.out.1 (byt fun j => msg (n + k + j)) HSC.out.2 (fun _ _ => rfl) (by omega) ?_; intro w2 hr2 ho2; have hS2 : w2.cell? ⟨X1, 0, none⟩ = some (.pointer (some ⟨hb, 0, none⟩)) ∧ w2.cell? ⟨hb, 161, none⟩ = some (.int .i64 (r : Int)) := ⟨(World.cell?_of_block (ho2.block _ hne1)).trans cX1, by rw [hr2.cell (by decide), if_neg (by omega), has_held]⟩))
      obtain ⟨cX2, cH2⟩ := hS2
      have row3 : w2.rowIs hb 204 162 (has (stAfter msg q) (partTo p (fun i => msg (136 * q + i)) r c) r) := part_row hmv (fun j hj => by
        have h1 := H1.out.2.2.2.1
        have h2 := H1.out.2.2.2.2.1
        show Value.int .u8 (I8 (msg (n + k + j))) = .int .u8 (I8 (msg (136 * q + (r + j))))
        rw [show n + k + j = 136 * q + (r + j) from by omega]) hr2
      obtain ⟨a2, ha2, hsl2, hsl3⟩ := rest_from bb (off + k) L cp c hc1 hcp
      have f161 : w2.frozen? ⟨hb, 161, none⟩ = false := row3.frozen _
      have H2 : Hid (w2.rowIs hb 204 162 (has (stAfter msg q) (partTo p (fun i => msg (136 * q + i)) r c) r) ∧ W0.grownBy w2 (some hb) ∧ (c < L → a2 = some ⟨bb, off + k + c, none⟩)) := ⟨row3, gb_trans H1.out.2.1 (gb_trans (Only.gb ((Only.refl _ _).drew)) ho2.gb), ha2⟩
      clear row3 hr2 ho2 ha2 HSC hsl cX1 cH
      have hrc : (r : Int) + (c : Int) ≤ 136 := by omega
      by_cases hfull : r + c = 136
      · have hmod : ((r : Int) + (c : Int)) % 136 = 0 := by omega
        have row4 : (w2.setCell ⟨hb, 161, none⟩ (.int .i64 0)).drew.rowIs hb 204 162 (has (stAfter msg q) (partTo p (fun i => msg (136 * q + i)) r c) 0) := (held_row rfl H2.out.1).drew
        have gb4 : W0.grownBy (w2.setCell ⟨hb, 161, none⟩ (.int .i64 0)).drew (some hb) := gb_trans H2.out.2.1 (((Only.refl _ _).setCell _ _).drew).gb
        obtain ⟨fn, tmps, assign, body, hy, hR⟩ := HY.out _ _ _ gb4 row4
        have hcp4 : ∀ j, j < 136 → (w2.setCell ⟨hb, 161, none⟩ (.int .i64 0)).drew.cell? ⟨hb, 25 + j, none⟩ = some (byt (partTo p (fun i => msg (136 * q + i)) r c) j) := fun j hj => by rw [row4.cell (by omega), has_part hj]
        have HCP : Hid _ := hcp4
        have HG : Hid _ := gb4
        clear row4 gb4 hcp4
        gi_wp2
        refine wpIn_wide.2 ?_
        go_region
        gi_wp2_with (refine wpListIn_load_mid (by rfl) 202 _ rfl hb 25 136 rfl _ HCP.out 5 Tryz.underlying202 (by kernel_rfl) ?_)
        refine hR.mono ?_
        rintro e W5 ⟨rfl, g5, row5⟩
        have H5 : Hid (W0.grownBy W5 (some hb) ∧ HasIn W5 hb msg (n + (k + c))) := ⟨gb_trans HG.out g5, has_full H1.out.2.2.1 hfull (by have := H1.out.2.2.2.1; have := H1.out.2.2.2.2.1; omega) row5⟩
        clear g5 row5 hR hy HCP
        gi_wp2
        go_roundw
        case rel => exact ⟨k + c, a2, cp - c, by have := H1.out.2.2.2.2.2; omega, by rw [H1.out.2.2.2.2.2, Nat.sub_sub], fun h => by rw [← Nat.add_assoc]; exact H2.out.2.2 (by have := H1.out.2.2.2.2.2; omega), ⟨by have := H1.out.2.2.2.2.2; omega, by omega⟩, H5.out⟩
        case measure => simp [slen]; omega
      · obtain ⟨r', hr'⟩ : ∃ r', r' = r + c := ⟨_, rfl⟩
        have hmod : ((r : Int) + (c : Int)) % 136 = (r' : Int) := by omega
        have hnz : ((r' : Int) == 0) = false := by simp; omega
        have HR' : Hid (r' = r + c ∧ r' < 136 ∧ c = L) := ⟨hr', by omega, by omega⟩
        clear hr' hfull
        gi_wp2
        refine wpIn_wide.2 ?_
        go_region
        gi_wp2
        refine ⟨fun _ h => (by cases h), ?_⟩
        have H5 : Hid (W0.grownBy (w2.setCell ⟨hb, 161, none⟩ (.int .i64 (r' : Int))).drew (some hb) ∧ HasIn (w2.setCell ⟨hb, 161, none⟩ (.int .i64 (r' : Int))).drew hb msg (n + (k + c))) := ⟨gb_trans H2.out.2.1 (((Only.refl _ _).setCell _ _).drew).gb, has_more H1.out.2.2.1 HR'.out.1 HR'.out.2.1 (by have := H1.out.2.2.2.1; have := H1.out.2.2.2.2.1; have := HR'.out.1; omega) ((held_row rfl H2.out.1).drew)⟩
        gi_wp2
        go_roundw
        case rel => exact ⟨k + c, a2, cp - c, by have := H1.out.2.2.2.2.2; omega, by rw [H1.out.2.2.2.2.2, Nat.sub_sub], fun h => by rw [← Nat.add_assoc]; exact H2.out.2.2 (by have := H1.out.2.2.2.2.2; omega), ⟨by have := H1.out.2.2.2.2.2; omega, by omega⟩, H5.out⟩
        case measure => simp [slen]; omega
    · obtain rfl : k = len := by omega
      have H1 : Hid (W0.grownBy wr (some hb) ∧ HasIn wr hb msg (n + k)) := ⟨hg, p, hrow, hp⟩
      clear hg hrow hp H0 HA HC HY
      rw [Nat.sub_self]
      gi_wp2
      go_end0
      exact ⟨⟨_, rfl⟩, H1.out⟩
end Go.Proofs.YtboeokmaepchgaaGreatDoor.Kc
