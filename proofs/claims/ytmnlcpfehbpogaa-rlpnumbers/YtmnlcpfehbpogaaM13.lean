/- RO, RP, laid into one text. -/
import Derived.Test.YtmnlcpfehbpogaaM12
import Derived.Deep.AppendLies
/- rlp: laws for read: a range over a function that may give up; append and store of items. -/
namespace Go.Proofs.Ytmnlcpfehbpogaa
open Go.RowKit Go.Maps Go.Joins Go.Shelf
set_option linter.unusedSimpArgs false
set_option linter.unusedVariables false
/-- How a body may be left: off its end. -/
def offEnd (R : World → Prop) : Exit → Act → World → Prop
  | .normal, _, W => R W
  | _, _, _ => False
theorem range_pan {P : Program} {n : Nat} {g : Operand} {ps : Array Tmp} {assign body : Code} {Q : Exit → Act → World → Prop} {a : Act} {w : World} {gf : Nat} {lb : Array Value}
    (hg : a.eval g = .func (.func gf) #[] lb) (eg : ∀ args w, (callFunc gf args).run P w = .ok (.enter gf args) w)
    (h : ∀ (r : Loop) (W1 : World), r.state = .ready → r.pending = none → r.tmps = a.tmps → r.params = ps → r.assign = assign → r.body = body → W1 = (w.alloc (.deferred (some []))).alloc (.loop r) →
      CallsIn Fence.wide (n - 1) P gf (#[.func (.yield (w.heap.size + 1)) #[] #[]] ++ lb) W1 fun e W' => ((∃ v, e = .returned v) ∧ W'.heap[w.heap.size + 1]? = some (.loop r) ∧
        Q .normal { a with defers := { target := .collected w.heap.size, args := #[] } :: a.defers } (W'.putObj (w.heap.size + 1) (.loop { r with state := .exhausted }))) ∨
        ∃ ch, e = .panicked ch ∧ Q (.panic ch) { a with defers := { target := .collected w.heap.size, args := #[] } :: a.defers } W') :
    (Code.rangeFunc g ps assign body).wpIn Fence.wide n P Q a w := by
  refine wpIn_rangeFunc ?_
  intro fn _
  obtain ⟨r, hr⟩ : ∃ r : Loop, r = { state := .ready, pending := none, fn, tmps := a.tmps, params := ps, assign, body, defers := w.heap.size } := ⟨_, rfl⟩
  refine ⟨w.heap.size + 1, [{ target := .collected w.heap.size, args := #[] }], (w.alloc (.deferred (some []))).alloc (.loop r), { target := .fn (.func gf) lb, args := #[.func (.yield (w.heap.size + 1)) #[] #[]] }, (w.alloc (.deferred (some []))).alloc (.loop r), gf,
    #[.func (.yield (w.heap.size + 1)) #[] #[]] ++ lb, (w.alloc (.deferred (some []))).alloc (.loop r), ?_, ?_, fun _ _ => trivial, ?_, (fun h => by simp [Fence.wide] at h), ?_⟩
  · rw [hr]; exact run_enterLoop_outer _ _ _ _ _
  · simp only [resolve, hg]
    simp [go_sem]
  · simp [invoke, go_sem, eg]
  · refine (h r _ (by rw [hr]) (by rw [hr]) (by rw [hr]) (by rw [hr]) (by rw [hr]) (by rw [hr]) rfl).mono ?_
    rintro e W' (⟨⟨v, rfl⟩, hl, hq⟩ | ⟨ch, rfl, hq⟩)
    · have hpe : r.pending = none := by rw [hr]
      have := run_endLoop (P := P) hl (by rw [hr]; simp)
      rw [hpe] at this hq
      exact ⟨none, _, this, hq⟩
    · exact hq
theorem round_with {P : Program} {m l : Nat} {args : Array Value} {W : World} {r : Loop} {R : World → Prop} (hl : W.heap[l]? = some (.loop r)) (hst : r.state = .ready) (hpe : r.pending = none) (hs : args.size = r.params.size)
    (h : ∀ rb : Loop, Hid (rb = { r with state := .busy }) → r.assign.wpIn (Fence.wide.inRound l) m P (Exit.then (fun a1 W1 => W1.heap[l]? = some (.loop r) ∧
        r.body.wpIn (Fence.wide.inRound l) m P (offEnd fun W3 => W3.heap[l]? = some (.loop rb) ∧ R (W3.putObj l (.loop r))) a1 (W1.putObj l (.loop rb))) (fun _ _ _ => False))
      { tmps := (r.params.zip args).foldl (fun t (p, v) => t.setIfInBounds p v) r.tmps, defers := [] } W) :
    YieldAt Fence.wide m P l args W fun e W' => e = .returned (.bool true) ∧ R W' := by
  refine ⟨r.fn, _, r.assign, r.body, run_yield hl hs, roundIn_of_wpIn trivial (wpIn_mono (h _ rfl) ?_)⟩
  rintro e a1 W1 hp
  cases e with
  | normal =>
    obtain ⟨hl1, hb⟩ := hp
    refine ⟨_, run_beginRound hl1 hst, wpIn_mono hb ?_⟩
    rintro e a3 W3 hq
    cases e with
    | normal =>
      obtain ⟨hl3, hR⟩ := hq
      refine ⟨_, _, run_endRound none hl3, rfl, ?_⟩
      have e1 : ({ ({ r with state := .busy } : Loop) with state := if (none : Option Code).isNone then .ready else .done, pending := none } : Loop) = r := by
        cases r; simp only at hst hpe; subst hst hpe; rfl
      rw [e1]
      exact hR
    | ret => exact hq.elim
    | exit id => exact hq.elim
    | goto t => exact hq.elim
    | panic ch => exact hq.elim
    | outgrown => exact hq.elim
  | ret => exact hp.elim
  | exit id => exact hp.elim
  | goto t => exact hp.elim
  | panic ch => exact hp.elim
  | outgrown => exact hp.elim
theorem wpIn_of_wp_op {P : Program} {n l : Nat} {o : Oper} {a : Act} {w : World} {K : Act → World → Prop} {Q : Exit → Act → World → Prop} (hd : ∀ c, o.op ≠ .defer c) (h : o.wp P a w K Q) : o.wpIn (Fence.wide.inRound l) n P a w K Q := by
  refine ⟨fun _ _ => trivial, ?_⟩
  rw [Oper.semAt_eq _ _ _ hd]
  unfold Oper.wp at h
  generalize (execOp a.eval o).run P w = r at h ⊢
  have hdep : (Fence.wide.inRound l).depth.isSome = true → 1 ≤ n := fun h => by simp [Fence.wide] at h
  rcases r with ⟨nx, w'⟩ | ⟨hl, w'⟩
  · cases nx with
    | value v => exact h
    | skip => exact h
    | defer d => exact h
    | enter f args => exact ⟨hdep, CallsIn.inRound l (callsIn_wide.2 h)⟩
    | row row args =>
      refine ⟨hdep, ?_⟩
      intro c cs _
      obtain ⟨v, w'', hr, hs⟩ := h c cs
      exact ⟨v, w'', hr, stepsIn_wide.2 hs⟩
    | _ => exact h.elim
  · cases hl <;> first | exact h | exact h.elim
theorem wpAnyIn_of_wpAny {P : Program} {n l : Nat} {md : Region.Mode} {ops : Array Oper} {Q : Exit → Act → World → Prop} (hd : ∀ (i : Nat) (o : Oper), ops[i]? = some o → ∀ c, o.op ≠ .defer c) (hlo : ¬ LetsOut Q) :
    ∀ (fuel : Nat) (listed : Array Bool) (a : Act) (w : World), wpAny P md ops Q fuel listed a w → wpAnyIn (Fence.wide.inRound l) n P md ops Q fuel listed a w
  | 0, _, _, _, h => h
  | fuel + 1, listed, a, w, h => ⟨h.1, fun i hi => by
      have h2 := h.2 i hi
      unfold wpOp at h2
      unfold wpOpIn
      split
      · rename_i he
        simp only [he] at h2
        exact wpAnyIn_of_wpAny hd hlo fuel _ a w h2
      · rename_i o he
        simp only [he] at h2
        split
        · rename_i hw
          rw [if_pos hw] at h2
          rcases h2 with h2 | h2
          · exact wpIn_of_wp_op (hd i o he) (Oper.wp_mono (fun a' w' h' => wpAnyIn_of_wpAny hd hlo fuel _ a' w' h') h2)
          · exact absurd h2.2 hlo
        · rename_i hw
          rw [if_neg hw] at h2
          exact ⟨fun _ _ => trivial, wpAnyIn_of_wpAny hd hlo fuel _ _ w h2⟩⟩
theorem region_round {P : Program} {n l id : Nat} {ops : Array Oper} {Q : Exit → Act → World → Prop} {S : World → Prop} {a : Act} {w : World} (hm : P.follows .mixedOrders = true) (hd : ∀ (i : Nat) (o : Oper), ops[i]? = some o → ∀ c, o.op ≠ .defer c) (hlo : ¬ LetsOut Q) (hS : S w.drew)
    (h : S w.drew → wpAnyH P .any ops Q S ops.size (Array.replicate ops.size false) a w.drew) : (Code.region id ops true).wpIn (Fence.wide.inRound l) n P Q a w :=
  wpIn_region_any hm (wpAnyIn_of_wpAny hd hlo _ _ _ _ (wpAny_of_held _ _ _ _ (h hS)))
def noDefer (ops : Array Oper) : Bool := ops.all fun o => match o.op with | .defer _ => false | _ => true
theorem noDefer_spec {ops : Array Oper} (h : noDefer ops = true) (i : Nat) (o : Oper) (ho : ops[i]? = some o) (c : Call) : o.op ≠ .defer c := by
  unfold noDefer at h
  rw [Array.all_eq_true] at h
  obtain ⟨hi, e⟩ := Array.getElem?_eq_some_iff.1 ho
  have := h i hi
  rw [e] at this
  intro e2
  rw [e2] at this
  cases this
theorem icC_one (f : IC) (hb : ∃ a l c, f.sb = .slice a l c) (hi : ∃ a l c, f.si = .slice a l c) : ∀ u ∈ icC f, u.oneCell' = true := by
  obtain ⟨a, l, c, hb⟩ := hb
  obtain ⟨a2, l2, c2, hi⟩ := hi
  intro u hu
  simp [icC] at hu
  rcases hu with rfl | rfl | rfl
  · rfl
  · rw [hb]; rfl
  · rw [hi]; rfl
/-- append of an item that lies in a block of its own. -/
theorem run_append_it {w : World} (ty : TypeId) {base : Nat} {v : Value} {A : List IC} (f : IC) (hb : ∃ a l c, f.sb = .slice a l c) (hi : ∃ a l c, f.si = .slice a l c) (hown : w.ownsRow base 31 3 v A.length (icL A)) (g : Nat) (hg : w.heap[g]? = some (.cells #[.bool f.x.l, f.sb, f.si] 31)) (hl : (A.length + 1) * 56 ≤ 140737488355328) (hbase : base ≤ w.heap.size) :
    ∃ v' w', (Builtin.append_ #[29, 29] ty #[v, .slice (some ⟨g, 0, none⟩) 1 1]).run Try.prog w = .ok v' w' ∧ w'.ownsRow base 31 3 v' (A.length + 1) (icL (A ++ [f])) ∧ w.grownBy w' v.ownBlock ∧ (v'.ownBlock = v.ownBlock ∨ v'.ownBlock = some w.heap.size) := by
  obtain ⟨i0, hi0, hz0, hz1, hz2⟩ := info31c
  obtain ⟨v', w', hr, h2, h3, _, h5⟩ := run_append_own_at (P := Try.prog) w base 29 ty 31 i0 _ 3 56 Try.underlying29 hi0 hz0 hz1 hz2 rfl (by decide) v A.length (icL A) hown ⟨g, 0, none⟩ 1 1 (icC f) rfl (fun j u hu => by
    rw [Addr.add_lit, Nat.zero_add, cell_of_block hg]
    simpa [icC] using hu) (icC_one f hb hi) (by unfold maxLen; omega) (by omega) hbase
  refine ⟨v', w', hr, ?_, h3, h5⟩
  rw [icL_append]
  have : icL [f] = icC f := by simp [icL]
  rw [this]
  exact h2
theorem step_append_it {w : World} {ops : Array Oper} {o : Oper} {a : Act} {K : Act → World → Prop} {Q : Exit → Act → World → Prop} {E : Prop} (hgd : o.guard = none) (s x : Operand)
    (ho : o.op = .call { callee := .builtin .append, args := #[s, x], argTypes := #[29, 29] }) {base : Nat} {v : Value} {A : List IC} (f : IC) (hb : ∃ a l c, f.sb = .slice a l c) (hi : ∃ a l c, f.si = .slice a l c) (hs : a.eval s = v) (hown : w.ownsRow base 31 3 v A.length (icL A)) (g : Nat) (hx : a.eval x = .slice (some ⟨g, 0, none⟩) 1 1) (hg : w.heap[g]? = some (.cells #[.bool f.x.l, f.sb, f.si] 31)) (hl : (A.length + 1) * 56 ≤ 140737488355328) (hbase : base ≤ w.heap.size)
    (h : ∀ v' w', w'.ownsRow base 31 3 v' (A.length + 1) (icL (A ++ [f])) → w.grownBy w' v.ownBlock → (v'.ownBlock = v.ownBlock ∨ v'.ownBlock = some w.heap.size) → K (a.put o.dst v') w') :
    if Region.wanted o (yielded ops a.tmps) = true then Oper.wp Try.prog o a w K Q else E := by
  have hw : Region.wanted o (yielded ops a.tmps) = true := by simp [Region.wanted, hgd]
  rw [if_pos hw]
  obtain ⟨v', w', hr, h2, h3, h5⟩ := run_append_it o.type f hb hi hown g hg hl hbase
  unfold Oper.wp execOp
  simp only [ho, resolve, invoke, builtin, Sem.run_bind, Sem.run_pure, Result.andThen_ok, List.map_toArray, List.map_cons, List.map_nil, hs, hx, hr]
  exact h v' w' h2 h3 h5
/-- A row of items is items. -/
theorem row_its {w : World} {base : Nat} {v : Value} {A : List IC} {D : Nat → Prop} (hrow : w.ownsRow base 31 3 v A.length (icL A)) (hit : ∀ f ∈ A, ItV w D f.sb f.si f.x) (hD : ∀ b, v.ownBlock = some b → D b) (hl : A.length * 56 ≤ 140737488355328) : ItsV w D v (A.map IC.x) := by
  have hmap : ∀ i x, (A.map IC.x)[i]? = some x → ∃ f : IC, A[i]? = some f ∧ f.x = x := fun i x hx => by
    rw [List.getElem?_map] at hx
    cases hf : A[i]? with
    | none => rw [hf] at hx; cases hx
    | some f => rw [hf] at hx; injection hx with hx; exact ⟨f, hf, hx⟩
  have hitv : ∀ i x, (A.map IC.x)[i]? = some x → ∃ f : IC, A[i]? = some f ∧ f.x = x ∧ ItV w D f.sb f.si f.x := fun i x hx => by
    obtain ⟨f, hf, e⟩ := hmap i x hx
    exact ⟨f, hf, e, hit f (List.mem_of_getElem? hf)⟩
  have hlen : (A.map IC.x).length = A.length := by simp
  obtain ⟨a, cap, hv, q1, q2, q3, q4⟩ := row_cap hrow
  have hcells : ∀ g, v.ownBlock = some g → ∀ i f, A[i]? = some f → ∀ j u, (icC f)[j]? = some u → w.cell? ⟨g, 0 + i * 3 + j, none⟩ = some u := fun g hg i f hf j u hu => by
    have h3 : j < 3 := by
      have := (List.getElem?_eq_some_iff.1 hu).1
      simpa [icC] using this
    have := hrow.cells hg (i * 3 + j) u (by rw [icL_at A i f hf j h3]; exact hu)
    rw [Addr.add_lit, ← Nat.add_assoc] at this
    exact this
  subst hv
  have hex : ∃ g, 0 < A.length → a = some ⟨g, 0, none⟩ := by
    by_cases h0 : 0 < A.length
    · cases a with
      | none => have := q3 rfl; omega
      | some ad => obtain ⟨g, hg⟩ := q4 ad rfl; exact ⟨g, fun _ => by rw [hg]⟩
    · exact ⟨0, fun h => absurd h h0⟩
  obtain ⟨g, hg⟩ := hex
  have hA : ∀ i f, A[i]? = some f → 0 < A.length := fun i f hf => by have := (List.getElem?_eq_some_iff.1 hf).1; omega
  have hob : ∀ i f, A[i]? = some f → (Value.slice a A.length cap).ownBlock = some g := fun i f hf => by rw [hg (hA i f hf)]; rfl
  have := ItsV.mk (w := w) (D := D) (A.map IC.x) a cap g 0 (fun i => ((A[i]?).map IC.sb).getD .nilIface) (fun i => ((A[i]?).map IC.si).getD .nilIface) (by rw [hlen]; exact q1) q2 (by rw [hlen]; exact hl)
    (fun h0 => hg (by rw [hlen] at h0; exact h0)) (fun h0 => by
      rw [hlen] at h0
      exact hD g (by rw [hg h0]; rfl))
    (fun i x hx => by obtain ⟨f, hf, rfl⟩ := hmap i x hx; exact hcells g (hob i f hf) i f hf 0 _ rfl)
    (fun i x hx => by obtain ⟨f, hf, rfl⟩ := hmap i x hx; rw [hf]; exact hcells g (hob i f hf) i f hf 1 _ rfl)
    (fun i x hx => by obtain ⟨f, hf, rfl⟩ := hmap i x hx; rw [hf]; exact hcells g (hob i f hf) i f hf 2 _ rfl)
    (fun i x hx => by obtain ⟨f, hf, rfl, hv⟩ := hitv i x hx; rw [hf]; exact hv.b)
    (fun i x hx => by obtain ⟨f, hf, rfl, hv⟩ := hitv i x hx; rw [hf]; exact hv.xs)
  rw [hlen] at this
  exact this
theorem set3 {α : Type} (L : List α) (a : Nat) (x y z : α) (h : a + 3 ≤ L.length) : (((L.set a x).set (a + 1) y).set (a + 2) z).take (a + 3) = L.take a ++ [x, y, z] := by
  apply List.ext_getElem?
  intro i
  rw [List.getElem?_take]
  by_cases h1 : i < a
  · rw [if_pos (by omega), List.getElem?_append_left (by rw [List.length_take]; omega), List.getElem?_take, if_pos h1, List.getElem?_set_ne (by omega), List.getElem?_set_ne (by omega), List.getElem?_set_ne (by omega)]
  · have hl : (L.take a).length = a := by rw [List.length_take]; omega
    rw [List.getElem?_append_right (by omega), hl]
    by_cases h2 : i < a + 3
    · rw [if_pos h2]
      have : i = a ∨ i = a + 1 ∨ i = a + 2 := by omega
      rcases this with rfl | rfl | rfl
      · rw [List.getElem?_set_ne (by omega), List.getElem?_set_ne (by omega), List.getElem?_set_self (by omega)]; simp
      · rw [List.getElem?_set_ne (by omega), List.getElem?_set_self (by simp; omega)]; simp
      · rw [List.getElem?_set_self (by simp; omega)]; simp
    · rw [if_neg h2, List.getElem?_eq_none (by simp; omega)]
/-- An item is stored over the last one of a row. -/
theorem row_last {w : World} {base g n c : Nat} {A : List IC} {z f : IC} (h : w.ownsRow base 31 3 (.slice (some ⟨g, 0, none⟩) n c) (A.length + 1) (icL (A ++ [z]))) :
    (((w.setCell ⟨g, A.length * 3, none⟩ (.bool f.x.l)).setCell ⟨g, A.length * 3 + 1, none⟩ f.sb).setCell ⟨g, A.length * 3 + 2, none⟩ f.si).ownsRow base 31 3 (.slice (some ⟨g, 0, none⟩) n c) (A.length + 1) (icL (A ++ [f])) := by
  obtain ⟨h1, h2⟩ := h
  refine ⟨by rw [icL_length]; simp, ?_⟩
  rcases h2 with ⟨e, _⟩ | ⟨g', cap, cur, e, hb, hg, hn, hm, hs, ht⟩
  · cases e
  · cases e
    refine Or.inr ⟨g, c, ((cur.setIfInBounds (A.length * 3) (.bool f.x.l)).setIfInBounds (A.length * 3 + 1) f.sb).setIfInBounds (A.length * 3 + 2) f.si, rfl, hb, ?_, hn, hm, by simp [hs], ?_⟩
    · exact heap_setCell_same _ g _ _ 31 _ (heap_setCell_same _ g _ _ 31 _ (heap_setCell_same _ g _ _ 31 _ hg))
    · rw [icL_append] at ht
      have hlA : (icL A).length = A.length * 3 := icL_length A
      have hlz : (icL [z]).length = 3 := by rw [icL_length]; rfl
      have hlen : A.length * 3 + 3 ≤ cur.toList.length := by
        have := congrArg List.length ht
        rw [List.length_take, List.length_append, hlA, hlz] at this
        rw [Array.length_toList] at this ⊢
        omega
      have htA : cur.toList.take (A.length * 3) = icL A := by
        have := congrArg (List.take (A.length * 3)) ht
        have e : (icL A ++ icL [z]).take (A.length * 3) = icL A := by rw [← hlA]; exact List.take_left
        rw [List.take_take, Nat.min_eq_left (by omega), e] at this
        exact this
      rw [icL_append, show icL [f] = [.bool f.x.l, f.sb, f.si] from by simp [icL, icC], ← htA, show (A.length + 1) * 3 = A.length * 3 + 3 from by omega, ← set3 _ _ _ _ _ hlen]
      simp only [Array.toList_setIfInBounds]
end Go.Proofs.Ytmnlcpfehbpogaa
/- rlp: read, but for lists. -/
namespace Go.Proofs.Ytmnlcpfehbpogaa
open Go.RowKit Go.Maps Go.Joins Go.Shelf
set_option linter.unusedSimpArgs false
set_option linter.unusedVariables false
theorem BytD.of_own {w : World} {base : Nat} {D : Nat → Prop} {v : Value} {bs : List Int} (h : w.ownsRow base 5 1 v bs.length (vB bs)) (hD : ∀ b, base ≤ b → b < w.heap.size → D b) (hl : bs.length ≤ 140737488355328) : BytD w D v bs :=
  ⟨BytesV.of_own h, fun b hb => by have := h.lt b (dBlock_own hb); exact hD b this.1 this.2, hl⟩
theorem load31 {w : World} {b : Nat} {x y z : Value} (h : w.heap[b]? = some (.cells #[x, y, z] 31)) : (loadVar 31 ⟨b, 0, none⟩).run Try.prog w = .ok (.agg #[x, y, z]) w :=
  run_loadVar_row w b 31 31 #[x, y, z] (0, 0) _ h Try.underlying31 rfl (by kernel_rfl)
/-- Three cells are stored. -/
theorem set31 {w : World} {b : Nat} {x y z x' y' z' : Value} (h : w.heap[b]? = some (.cells #[x, y, z] 31)) : (((w.setCell ⟨b, 0, none⟩ x').setCell ⟨b, 1, none⟩ y').setCell ⟨b, 2, none⟩ z').heap[b]? = some (.cells #[x', y', z'] 31) :=
  heap_setCell_same _ b 2 _ 31 z' (heap_setCell_same _ b 1 _ 31 y' (heap_setCell_same _ b 0 _ 31 x' h))
theorem set31_other (w : World) (b k : Nat) (x' y' z' : Value) (h : k ≠ b) : (((w.setCell ⟨b, 0, none⟩ x').setCell ⟨b, 1, none⟩ y').setCell ⟨b, 2, none⟩ z').heap[k]? = w.heap[k]? := by
  rw [Below.heap_setCell _ _ _ _ h, Below.heap_setCell _ _ _ _ h, Below.heap_setCell _ _ _ _ h]
theorem set31_below {w0 w : World} {B b : Nat} (h : Below B w0 w) (hb : B ≤ b) (x' y' z' : Value) : Below B w0 (((w.setCell ⟨b, 0, none⟩ x').setCell ⟨b, 1, none⟩ y').setCell ⟨b, 2, none⟩ z') :=
  ((h.setCell (p := ⟨b, 0, none⟩) hb _).setCell (p := ⟨b, 1, none⟩) hb _).setCell (p := ⟨b, 2, none⟩) hb _
theorem set31_size (w : World) (b : Nat) (x' y' z' : Value) : (((w.setCell ⟨b, 0, none⟩ x').setCell ⟨b, 1, none⟩ y').setCell ⟨b, 2, none⟩ z').heap.size = w.heap.size := by simp
set_option maxRecDepth 100000 in
set_option maxHeartbeats 8000000 in
theorem read_err {w : World} {a : Option Addr} {cap : Nat} {bs : List Int} (h : Src w a cap bs) (i k : Nat) (hi : i ≤ bs.length) (c : Int) (he : sps (bs.drop i) = .error c) :
    Calls Try.prog 38 #[.slice a bs.length cap, .int .i64 i, .int .i64 k] w fun e w' => Below w.heap.size w w' ∧ e = pan c := by
  have hb : Below w.heap.size w (w.alloc (.cells #[.bool false, .slice none 0 0, .slice none 0 0] 31)) := by go_grown
  have hC := span_any (h.below hb) i hi
  rw [he] at hC
  obtain ⟨N, hN⟩ : ∃ N, N = bs.length := ⟨_, rfl⟩
  rw [← hN] at hC ⊢
  have HC : Hid (Calls Try.prog 54 #[.slice a N cap, .int .i64 i] (w.alloc (.cells #[.bool false, .slice none 0 0, .slice none 0 0] 31)) fun e w' => w' = (w.alloc (.cells #[.bool false, .slice none 0 0, .slice none 0 0] 31)) ∧ e = pan c) := hC
  have HB : Hid _ := hb
  clear hC hb hN h he hi
  go_enter Try.func38, Try.ntmps38
  go_wp2_with fail
  refine Calls.mono HC.out ?_
  rintro e w2 ⟨rfl, rfl⟩
  exact ⟨rfl, HB.out, rfl⟩
set_option maxRecDepth 100000 in
set_option maxHeartbeats 8000000 in
theorem read_bytes {w : World} {a : Option Addr} {cap : Nat} {bs : List Int} (h : Src w a cap bs) (i k : Nat) (hi : i ≤ bs.length) (hh n : Nat) (he : sps (bs.drop i) = .ok (false, hh, n)) :
    Calls Try.prog 38 #[.slice a bs.length cap, .int .i64 i, .int .i64 k] w fun e w' => Below w.heap.size w w' ∧ RdR w w' (.ok (.mk false (((bs.drop i).drop hh).take n) [], hh + n)) i e := by
  have hb : Below w.heap.size w (w.alloc (.cells #[.bool false, .slice none 0 0, .slice none 0 0] 31)) := by go_grown
  have hC := span_any (h.below hb) i hi
  rw [he] at hC
  have hsp := sps_ok (h.by'.drop i) he
  rw [List.length_drop] at hsp
  obtain ⟨part, hpart⟩ : ∃ part, part = ((bs.drop i).drop hh).take n := ⟨_, rfl⟩
  have hpl : part.length = n := by rw [hpart, List.length_take, List.length_drop, List.length_drop]; omega
  rw [← hpart]
  obtain ⟨F, hF⟩ : ∃ F, F = i + hh := ⟨_, rfl⟩
  obtain ⟨T, hT⟩ : ∃ T, T = i + hh + n := ⟨_, rfl⟩
  have hcp := h.cp
  have hl6 := h.len
  obtain ⟨g, o, c0, rfl, -⟩ := h.at (i := i) (by omega)
  have hpv0 : BytesV w (.slice (some ⟨g, if cap = F then o else o + F, none⟩) n (cap - F)) part := by
    by_cases hn0 : n = 0
    · have hp0 : part = [] := List.eq_nil_of_length_eq_zero (by omega)
      rw [hp0, hn0]
      exact BytesV.empty _ _ _ (fun h => by cases h)
    · have := h.is.part F n (cap - F) (by omega)
      rw [hpart, List.drop_drop, ← hF, if_neg (by omega)]
      exact this
  have hpv := hpv0.below hb
  have hsl : ∀ w', (Instr.slice 22 (.slice (some ⟨g, o, none⟩) bs.length cap) (some (.int .i64 F)) (some (.int .i64 T)) none).run Try.prog w' = .ok (.slice (some ⟨g, if cap = F then o else o + F, none⟩) n (cap - F)) w' := fun w' => by
    rw [slLH w' g o bs.length cap F T F T rfl rfl (by omega) (by omega), show T - F = n from by omega]
  have hfin : ((i + (hh + n) : Nat) : Int) = (T : Int) := by omega
  obtain ⟨N, hN⟩ : ∃ N, N = bs.length := ⟨_, rfl⟩
  rw [← hN] at hC hsl ⊢
  generalize (if cap = F then o else o + F) = o2 at hsl hpv
  have HC : Hid (Calls Try.prog 54 #[.slice (some ⟨g, o, none⟩) N cap, .int .i64 i] (w.alloc (.cells #[.bool false, .slice none 0 0, .slice none 0 0] 31)) fun e w' => w' = (w.alloc (.cells #[.bool false, .slice none 0 0, .slice none 0 0] 31)) ∧ e = .returned (.tuple #[.bool false, .int .i64 F, .int .i64 T])) := by rw [hF, hT]; exact hC
  have HV : Hid (BytesV (w.alloc (.cells #[.bool false, .slice none 0 0, .slice none 0 0] 31)) (.slice (some ⟨g, o2, none⟩) n (cap - F)) part ∧ part.length = n ∧ n ≤ 65536 ∧ ((i + (hh + n) : Nat) : Int) = (T : Int)) := ⟨hpv, hpl, by omega, hfin⟩
  have H0 : Hid ((w.alloc (.cells #[.bool false, .slice none 0 0, .slice none 0 0] 31)).heap[w.heap.size]? = some (.cells #[.bool false, .slice none 0 0, .slice none 0 0] 31) ∧ Below w.heap.size w (w.alloc (.cells #[.bool false, .slice none 0 0, .slice none 0 0] 31)) ∧ w.heap.size < (w.alloc (.cells #[.bool false, .slice none 0 0, .slice none 0 0] 31)).heap.size) := ⟨heap_alloc_new _ _, hb, by simp⟩
  clear hC hb hN h he hi hsp hpart hpl hF hT hcp hl6 hpv hfin
  have T1 : Hid True := trivial
  go_enter Try.func38, Try.ntmps38
  go_wp2_with (first
    | (have _ := T1
       go_at_call 54
       clear T1
       refine Calls.mono HC.out ?_
       rintro e w1 ⟨hw1, rfl⟩
       rw [← hw1] at HV H0
       clear hw1 HC
       have T2 : Hid True := trivial)
    | (have _ := T2
       go_at_call 53
       clear T2
       refine Calls.mono (bclone_any (.slice (some ⟨g, o2, none⟩) n (cap - F)) part HV.out.1 (by have := HV.out.2; omega)) ?_
       rintro e w2 ⟨v, rfl, ho, hb2⟩
       obtain ⟨av, cv, hv⟩ := row_form ho
       rw [HV.out.2.1] at hv
       have hk : w2.heap[w.heap.size]? = some (.cells #[.bool false, .slice none 0 0, .slice none 0 0] 31) := (hb2.block _ H0.out.2.2).trans H0.out.1
       have c0 : w2.cell? ⟨w.heap.size, 0, none⟩ = some (.bool false) := (cell_of_block hk 0).trans rfl
       have c1 : w2.cell? ⟨w.heap.size, 1, none⟩ = some (.slice none 0 0) := (cell_of_block hk 1).trans rfl
       have c2 : w2.cell? ⟨w.heap.size, 2, none⟩ = some (.slice none 0 0) := (cell_of_block hk 2).trans rfl
       have z0 := unfrozen_of_block hk 0
       have z1 := unfrozen_of_block hk 1
       have z2 := unfrozen_of_block hk 2
       subst hv
       have H2 : Hid (w2.ownsRow w1.heap.size 5 1 (.slice av n cv) part.length (vB part) ∧ Below w.heap.size w w2 ∧ w2.heap[w.heap.size]? = some (.cells #[.bool false, .slice none 0 0, .slice none 0 0] 31)) := ⟨ho, H0.out.2.1.trans (hb2.mono H0.out.2.1.size), hk⟩
       clear ho hb2 hk))
  have hl := load31 (set31 H2.out.2.2 (x' := .bool false) (y' := .slice av n cv) (z' := .slice none 0 0))
  have hbw := set31_below H2.out.2.1 (Nat.le_refl _) (.bool false) (.slice av n cv) (.slice none 0 0)
  have hsz := set31_size w2 w.heap.size (.bool false) (.slice av n cv) (.slice none 0 0)
  have hoth := fun k h => set31_other w2 w.heap.size k (.bool false) (.slice av n cv) (.slice none 0 0) h
  generalize ((w2.setCell ⟨w.heap.size, 0, none⟩ (.bool false)).setCell ⟨w.heap.size, 1, none⟩ (.slice av n cv)).setCell ⟨w.heap.size, 2, none⟩ (.slice none 0 0) = w3 at hl hbw hsz hoth ⊢
  refine ⟨rfl, .tuple #[.agg #[.bool false, .slice av n cv, .slice none 0 0], .int .i64 T], by simp [results, Try.results38, asAddr, hl], hbw, .slice av n cv, .slice none 0 0, ?_, ?_⟩
  · rw [HV.out.2.2.2]; rfl
  · have ho3 : w3.ownsRow w1.heap.size 5 1 (.slice av n cv) part.length (vB part) := ownsRow_heap H2.out.1 (fun b hb => hoth b (by have := (H2.out.1.lt b hb).1; have := H0.out.2.2; omega))
    exact ⟨BytD.of_own ho3 (fun b h1 h2 => ⟨by have := H0.out.2.2; omega, h2⟩) (by show part.length ≤ _; rw [HV.out.2.1]; have := HV.out.2.2.1; omega), ItsV.empty _ _⟩
set_option maxRecDepth 100000 in
set_option maxHeartbeats 8000000 in
theorem read_deep {w : World} {a : Option Addr} {cap : Nat} {bs : List Int} (h : Src w a cap bs) (i : Nat) (hi : i ≤ bs.length) (hh n : Nat) (he : sps (bs.drop i) = .ok (true, hh, n)) :
    Calls Try.prog 38 #[.slice a bs.length cap, .int .i64 i, .int .i64 16] w fun e w' => Below w.heap.size w w' ∧ e = pan 3 := by
  have hb : Below w.heap.size w (w.alloc (.cells #[.bool false, .slice none 0 0, .slice none 0 0] 31)) := by go_grown
  have hC := span_any (h.below hb) i hi
  rw [he] at hC
  obtain ⟨N, hN⟩ : ∃ N, N = bs.length := ⟨_, rfl⟩
  obtain ⟨F, hF⟩ : ∃ F, F = i + hh := ⟨_, rfl⟩
  obtain ⟨T, hT⟩ : ∃ T, T = i + hh + n := ⟨_, rfl⟩
  rw [← hN] at hC ⊢
  have HC : Hid (Calls Try.prog 54 #[.slice a N cap, .int .i64 i] (w.alloc (.cells #[.bool false, .slice none 0 0, .slice none 0 0] 31)) fun e w' => w' = (w.alloc (.cells #[.bool false, .slice none 0 0, .slice none 0 0] 31)) ∧ e = .returned (.tuple #[.bool true, .int .i64 F, .int .i64 T])) := by rw [hF, hT]; exact hC
  have HB : Hid _ := hb
  clear hC hb hN h he hi hF hT
  have T1 : Hid True := trivial
  go_enter Try.func38, Try.ntmps38
  go_wp2_with (first
    | (have _ := T1
       go_at_call 54
       clear T1
       refine Calls.mono HC.out ?_
       rintro e w2 ⟨rfl, rfl⟩))
  exact ⟨rfl, HB.out, rfl⟩
end Go.Proofs.Ytmnlcpfehbpogaa
