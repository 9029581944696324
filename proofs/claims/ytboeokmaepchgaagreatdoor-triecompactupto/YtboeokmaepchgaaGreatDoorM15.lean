/- KcKD, KcKE, KcKF, laid into one text. -/
import Derived.Test.YtboeokmaepchgaaGreatDoorKcKC
import Derived.Laws.CopyOwn
/- A range over a function whose iterator writes cells of its own between the rounds: the statement, and one round (no body leaves early). -/
namespace Go.Proofs.YtboeokmaepchgaaGreatDoor.Kc
open Go.RowKit Go.Shelf
set_option linter.unusedSimpArgs false
set_option linter.unusedVariables false

/-- How a body may be left: off its end. -/
def offEnd (R : World → Prop) : Exit → Act → World → Prop
  | .normal, _, W => R W
  | _, _, _ => False
theorem range_with {P : Program} {n : Nat} {g : Operand} {ps : Array Tmp} {assign body : Code} {Q : Exit → Act → World → Prop} {a : Act} {w : World} {gf : Nat} {lb : Array Value}
    (hg : a.eval g = .func (.func gf) #[] lb) (eg : ∀ args w, (callFunc gf args).run P w = .ok (.enter gf args) w)
    (h : ∀ (r : Loop) (W1 : World), r.state = .ready → r.pending = none → r.tmps = a.tmps → r.params = ps → r.assign = assign → r.body = body → W1 = (w.alloc (.deferred (some []))).alloc (.loop r) →
      CallsIn Fence.wide (n - 1) P gf (#[.func (.yield (w.heap.size + 1)) #[] #[]] ++ lb) W1 fun e W' => (∃ v, e = .returned v) ∧ W'.heap[w.heap.size + 1]? = some (.loop r) ∧
        Q .normal { a with defers := { target := .collected w.heap.size, args := #[] } :: a.defers } (W'.putObj (w.heap.size + 1) (.loop { r with state := .exhausted }))) :
    (Code.rangeFunc g ps assign body).wpIn Fence.wide n P Q a w := by
  refine wpIn_rangeFunc ?_
  intro fn _
  obtain ⟨r, hr⟩ : ∃ r : Loop, r = { state := .ready, pending := none, fn, tmps := a.tmps, params := ps, assign, body, defers := w.heap.size } := ⟨_, rfl⟩
  refine ⟨w.heap.size + 1, [{ target := .collected w.heap.size, args := #[] }], (w.alloc (.deferred (some []))).alloc (.loop r), { target := .fn (.func gf) lb, args := #[.func (.yield (w.heap.size + 1)) #[] #[]] }, (w.alloc (.deferred (some []))).alloc (.loop r), gf,
    #[.func (.yield (w.heap.size + 1)) #[] #[]] ++ lb, (w.alloc (.deferred (some []))).alloc (.loop r), ?_, ?_, fun _ _ => trivial, ?_, (fun h => by simp [Fence.wide] at h), ?_⟩
  · rw [hr]; exact run_enterLoop_outer _ _ _ _ _
  · simp only [resolve, hg]
    simp [go_sem]
  · simp [invoke, go_sem, eg]
  · refine (h r _ (by rw [hr]) (by rw [hr]) (by rw [hr]) (by rw [hr]) (by rw [hr]) (by rw [hr]) rfl).mono ?_
    rintro e W' ⟨⟨v, rfl⟩, hl, hq⟩
    have hpe : r.pending = none := by rw [hr]
    have := run_endLoop (P := P) hl (by rw [hr]; simp)
    rw [hpe] at this hq
    exact ⟨none, _, this, hq⟩
theorem round_with {P : Program} {m l : Nat} {args : Array Value} {W : World} {r : Loop} {R : World → Prop} (hl : W.heap[l]? = some (.loop r)) (hst : r.state = .ready) (hpe : r.pending = none) (hs : args.size = r.params.size)
    (h : ∀ rb : Loop, Hid (rb = { r with state := .busy }) → r.assign.wpIn (Fence.wide.inRound l) m P (Exit.then (fun a1 W1 => W1.heap[l]? = some (.loop r) ∧
        r.body.wpIn (Fence.wide.inRound l) m P (offEnd fun W3 => W3.heap[l]? = some (.loop rb) ∧ R (W3.putObj l (.loop r))) a1 (W1.putObj l (.loop rb))) (fun _ _ _ => False))
      { tmps := (r.params.zip args).foldl (fun t (p, v) => t.setIfInBounds p v) r.tmps, defers := [] } W) :
    YieldAt Fence.wide m P l args W fun e W' => e = .returned (.bool true) ∧ R W' := by
  refine ⟨r.fn, _, r.assign, r.body, run_yield hl hs, roundIn_of_wpIn trivial (wpIn_mono (h _ rfl) ?_)⟩
  rintro e a1 W1 hp
  cases e with
  | normal =>
    obtain ⟨hl1, hb⟩ := hp
    refine ⟨_, run_beginRound hl1 hst, wpIn_mono hb ?_⟩
    rintro e a3 W3 hq
    cases e with
    | normal =>
      obtain ⟨hl3, hR⟩ := hq
      refine ⟨_, _, run_endRound none hl3, rfl, ?_⟩
      have e1 : ({ ({ r with state := .busy } : Loop) with state := if (none : Option Code).isNone then .ready else .done, pending := none } : Loop) = r := by
        cases r; simp only at hst hpe; subst hst hpe; rfl
      rw [e1]
      exact hR
    | ret => exact hq.elim
    | exit id => exact hq.elim
    | goto t => exact hq.elim
    | panic ch => exact hq.elim
    | outgrown => exact hq.elim
  | ret => exact hp.elim
  | exit id => exact hp.elim
  | goto t => exact hp.elim
  | panic ch => exact hp.elim
  | outgrown => exact hp.elim
end Go.Proofs.YtboeokmaepchgaaGreatDoor.Kc
/- A region that draws its order within a round, out of the walk that holds a fact of the world (no defer in it). -/
namespace Go.Proofs.YtboeokmaepchgaaGreatDoor.Kc
open Go.RowKit Go.Shelf
set_option linter.unusedSimpArgs false
set_option linter.unusedVariables false

theorem wpIn_of_wp_op {P : Program} {n l : Nat} {o : Oper} {a : Act} {w : World} {K : Act → World → Prop} {Q : Exit → Act → World → Prop} (hd : ∀ c, o.op ≠ .defer c) (h : o.wp P a w K Q) : o.wpIn (Fence.wide.inRound l) n P a w K Q := by
  refine ⟨fun _ _ => trivial, ?_⟩
  rw [Oper.semAt_eq _ _ _ hd]
  unfold Oper.wp at h
  generalize (execOp a.eval o).run P w = r at h ⊢
  have hdep : (Fence.wide.inRound l).depth.isSome = true → 1 ≤ n := fun h => by simp [Fence.wide] at h
  rcases r with ⟨nx, w'⟩ | ⟨hl, w'⟩
  · cases nx with
    | value v => exact h
    | skip => exact h
    | defer d => exact h
    | enter f args => exact ⟨hdep, CallsIn.inRound l (callsIn_wide.2 h)⟩
    | row row args =>
      refine ⟨hdep, ?_⟩
      intro c cs _
      obtain ⟨v, w'', hr, hs⟩ := h c cs
      exact ⟨v, w'', hr, stepsIn_wide.2 hs⟩
    | _ => exact h.elim
  · cases hl <;> first | exact h | exact h.elim
theorem wpAnyIn_of_wpAny {P : Program} {n l : Nat} {md : Region.Mode} {ops : Array Oper} {Q : Exit → Act → World → Prop} (hd : ∀ (i : Nat) (o : Oper), ops[i]? = some o → ∀ c, o.op ≠ .defer c) (hlo : ¬ LetsOut Q) :
    ∀ (fuel : Nat) (listed : Array Bool) (a : Act) (w : World), wpAny P md ops Q fuel listed a w → wpAnyIn (Fence.wide.inRound l) n P md ops Q fuel listed a w
  | 0, _, _, _, h => h
  | fuel + 1, listed, a, w, h => ⟨h.1, fun i hi => by
      have h2 := h.2 i hi
      unfold wpOp at h2
      unfold wpOpIn
      split
      · rename_i he
        simp only [he] at h2
        exact wpAnyIn_of_wpAny hd hlo fuel _ a w h2
      · rename_i o he
        simp only [he] at h2
        split
        · rename_i hw
          rw [if_pos hw] at h2
          rcases h2 with h2 | h2
          · exact wpIn_of_wp_op (hd i o he) (Oper.wp_mono (fun a' w' h' => wpAnyIn_of_wpAny hd hlo fuel _ a' w' h') h2)
          · exact absurd h2.2 hlo
        · rename_i hw
          rw [if_neg hw] at h2
          exact ⟨fun _ _ => trivial, wpAnyIn_of_wpAny hd hlo fuel _ _ w h2⟩⟩
theorem region_round {P : Program} {n l id : Nat} {ops : Array Oper} {Q : Exit → Act → World → Prop} {S : World → Prop} {a : Act} {w : World} (hm : P.follows .mixedOrders = true) (hd : ∀ (i : Nat) (o : Oper), ops[i]? = some o → ∀ c, o.op ≠ .defer c) (hlo : ¬ LetsOut Q) (hS : S w.drew)
    (h : S w.drew → wpAnyH P .any ops Q S ops.size (Array.replicate ops.size false) a w.drew) : (Code.region id ops true).wpIn (Fence.wide.inRound l) n P Q a w :=
  wpIn_region_any hm (wpAnyIn_of_wpAny hd hlo _ _ _ _ (wpAny_of_held _ _ _ _ (h hS)))
end Go.Proofs.YtboeokmaepchgaaGreatDoor.Kc
/- The Hasher in memory; copy into a row; keccak's blocks. -/
namespace Go.Proofs.YtboeokmaepchgaaGreatDoor.Kc
open Go.RowKit Go.Shelf
set_option linter.unusedSimpArgs false
set_option linter.unusedVariables false
attribute [local go_sem] Oper.semAt_some

/-- A Hasher's cells: the state, the part, how many bytes are held. -/
def has (S : Nat → BitVec 64) (p : Nat → BitVec 8) (h : Nat) : Nat → Value := fun j => if j < 25 then .int .u64 (I (S j)) else if j < 161 then .int .u8 (I8 (p (j - 25))) else .int .i64 (h : Int)
theorem has_state {S : Nat → BitVec 64} {p : Nat → BitVec 8} {h j : Nat} (hj : j < 25) : has S p h j = .int .u64 (I (S j)) := by unfold has; rw [if_pos hj]
theorem has_part {S : Nat → BitVec 64} {p : Nat → BitVec 8} {h i : Nat} (hi : i < 136) : has S p h (25 + i) = .int .u8 (I8 (p i)) := by unfold has; rw [if_neg (by omega), if_pos (by omega), Nat.add_sub_cancel_left]
theorem has_held {S : Nat → BitVec 64} {p : Nat → BitVec 8} {h : Nat} : has S p h 161 = .int .i64 (h : Int) := by unfold has; rw [if_neg (by omega), if_neg (by omega)]
/-- The state behind k blocks of a message. -/
def stAfter (msg : Nat → BitVec 8) : Nat → Nat → BitVec 64
  | 0 => fun _ => 0
  | k + 1 => permute RCs (absTo (stAfter msg k) (fun i => msg (136 * k + i)) 136)
theorem absTo_congr {S : Nat → BitVec 64} {p q : Nat → BitVec 8} : ∀ k, (∀ i, i < k → p i = q i) → absTo S p k = absTo S q k
  | 0, _ => rfl
  | k + 1, h => by
    unfold absTo
    rw [absTo_congr k (fun i hi => h i (by omega)), h k (by omega)]
theorem stAfter_congr {m m' : Nat → BitVec 8} : ∀ k, (∀ i, i < 136 * k → m i = m' i) → stAfter m k = stAfter m' k
  | 0, _ => rfl
  | k + 1, h => by
    unfold stAfter
    rw [stAfter_congr k (fun i hi => h i (by omega)), absTo_congr 136 (fun i hi => h (136 * k + i) (by omega))]
/-- In block hb stands a Hasher into which the first n bytes of the message were written. -/
def HasIn (W : World) (hb : Nat) (msg : Nat → BitVec 8) (n : Nat) : Prop :=
  ∃ p : Nat → BitVec 8, W.rowIs hb 204 162 (has (stAfter msg (n / 136)) p (n % 136)) ∧ ∀ i, i < n % 136 → p i = msg (136 * (n / 136) + i)
theorem HasIn.congr {W : World} {hb n : Nat} {m m' : Nat → BitVec 8} (h : HasIn W hb m n) (e : ∀ i, i < n → m i = m' i) : HasIn W hb m' n := by
  obtain ⟨p, hr, hp⟩ := h
  refine ⟨p, ?_, fun i hi => (hp i hi).trans (e _ (by omega))⟩
  rw [← stAfter_congr (n / 136) (fun i hi => e i (by omega))]
  exact hr

theorem splice_vec (n off c : Nat) (f src : Nat → Value) (hfit : off + c ≤ n) :
    ((vec n f).toList.take off ++ (List.range c).map src ++ (vec n f).toList.drop (off + c)).toArray = vec n (fun j => if off ≤ j ∧ j < off + c then src (j - off) else f j) := by
  have hl : (vec n f).toList = (List.range n).map f := rfl
  rw [hl]
  apply vec_eq
  · simp; omega
  · intro i hi
    rw [List.getElem?_toArray]
    by_cases h1 : i < off
    · rw [List.append_assoc, List.getElem?_append_left (by simp; omega), List.getElem?_take_of_lt h1, List.getElem?_map, List.getElem?_range (by omega), if_neg (by omega)]
      rfl
    · by_cases h2 : i < off + c
      · rw [List.append_assoc, List.getElem?_append_right (by simp; omega), List.getElem?_append_left (by simp; omega), List.getElem?_map, List.length_take, List.length_map, List.length_range, show min off n = off from by omega, List.getElem?_range (by omega), if_pos ⟨by omega, h2⟩]
        rfl
      · rw [List.getElem?_append_right (by simp; omega), List.getElem?_drop, List.length_append, List.length_take, List.length_map, List.length_range, List.length_map, List.length_range, show min off n = off from by omega, show off + c + (i - (off + c)) = i from by omega, List.getElem?_map, List.getElem?_range hi, if_neg (by omega)]
        rfl
theorem step_copy_vec {P : Program} {ops : Array Oper} {o : Oper} {a : Act} {w : World} {K : Act → World → Prop} {Q : Exit → Act → World → Prop} {E : Prop} (hgd : o.guard = none) (d s : Operand) (dT sT : TypeId)
    (ho : o.op = .call { callee := .builtin .copy, args := #[d, s], argTypes := #[dT, sT] }) (elem : TypeId) (hu : P.underlying dT = some (.slice elem)) (hsz : (P.info? elem).map (·.size) = some 1)
    (g off n : Nat) (t : TypeId) (f : Nat → Value) (hg : w.rowIs g t n f) (c dLen dCap sLen sCap : Nat) (ad : Addr) (hd : a.eval d = .slice (some ⟨g, off, none⟩) dLen dCap) (hs : a.eval s = .slice (some ad) sLen sCap)
    (hc : c = Nat.min sLen dLen) (src : Nat → Value) (hsrc : ∀ j, j < c → w.cell? (ad.add j) = some (src j)) (h1 : ∀ j, j < c → (src j).oneCell' = true) (hfit : off + c ≤ n)
    (h : ∀ w', w'.rowIs g t n (fun j => if off ≤ j ∧ j < off + c then src (j - off) else f j) → Only g w w' → K (a.put o.dst (.int .i64 (c : Int))) w') :
    if Region.wanted o (yielded ops a.tmps) = true then Oper.wp P o a w K Q else E := by
  have hw : Region.wanted o (yielded ops a.tmps) = true := by simp [Region.wanted, hgd]
  rw [if_pos hw]
  have hrun := run_copy_row (P := P) w dT sT o.type elem g off dLen dCap ad sLen sCap (vec n f) t ((List.range c).map src) hu hsz (row_heap hg) (by simpa using hc) (fun j v hv => by
    rw [List.getElem?_map] at hv
    by_cases hj : j < c
    · rw [List.getElem?_range hj] at hv; simp at hv; subst hv; exact hsrc j hj
    · rw [List.getElem?_eq_none (by simpa using hj)] at hv; cases hv) (by simpa using hfit) (fun v hv => by
    obtain ⟨j, hj, rfl⟩ := List.mem_map.1 hv
    exact h1 j (by simpa using hj))
  unfold Oper.wp
  simp only [List.length_map, List.length_range] at hrun
  simp [execOp, ho, resolve, invoke, builtin, hd, hs, hrun, Result.andThen]
  refine h _ (heap_row ?_) ((Only.refl _ _).setRow _)
  rw [setRow_heap w g _ _ t _ (row_heap hg)]
  congr 2
  simpa using splice_vec n off c f src hfit
end Go.Proofs.YtboeokmaepchgaaGreatDoor.Kc
