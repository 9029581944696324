/- net: Tick, where the first timers are told. -/
import Derived.Test.YtemapnfbmhjlbaaNZ
import Derived.Test.YtemapnfbmhjlbaaNY
import Derived.Test.YtemapnfbmhjlbaaND
import Derived.Test.YtemapnfbmhjlbaaNQ
import Derived.Maps.OwnIn
namespace Go.Proofs.Ytemapnfbmhjlbaa
open Go.RowKit Go.Maps Go.Joins Go.Shelf
set_option linter.unusedSimpArgs false
set_option linter.unusedVariables false
/-- How a body may be left: off its end. -/
def offEnd (R : World → Prop) : Exit → Act → World → Prop
  | .normal, _, W => R W
  | _, _, _ => False
theorem range_with {P : Program} {n : Nat} {g : Operand} {ps : Array Tmp} {assign body : Code} {Q : Exit → Act → World → Prop} {a : Act} {w : World} {gf : Nat} {lb : Array Value}
    (hg : a.eval g = .func (.func gf) #[] lb) (eg : ∀ args w, (callFunc gf args).run P w = .ok (.enter gf args) w)
    (h : ∀ (r : Loop) (W1 : World), r.state = .ready → r.pending = none → r.tmps = a.tmps → r.params = ps → r.assign = assign → r.body = body → W1 = (w.alloc (.deferred (some []))).alloc (.loop r) →
      CallsIn Fence.wide (n - 1) P gf (#[.func (.yield (w.heap.size + 1)) #[] #[]] ++ lb) W1 fun e W' => (∃ v, e = .returned v) ∧ W'.heap[w.heap.size + 1]? = some (.loop r) ∧
        Q .normal { a with defers := { target := .collected w.heap.size, args := #[] } :: a.defers } (W'.putObj (w.heap.size + 1) (.loop { r with state := .exhausted }))) :
    (Code.rangeFunc g ps assign body).wpIn Fence.wide n P Q a w := by
  refine wpIn_rangeFunc ?_
  intro fn _
  obtain ⟨r, hr⟩ : ∃ r : Loop, r = { state := .ready, pending := none, fn, tmps := a.tmps, params := ps, assign, body, defers := w.heap.size } := ⟨_, rfl⟩
  refine ⟨w.heap.size + 1, [{ target := .collected w.heap.size, args := #[] }], (w.alloc (.deferred (some []))).alloc (.loop r), { target := .fn (.func gf) lb, args := #[.func (.yield (w.heap.size + 1)) #[] #[]] }, (w.alloc (.deferred (some []))).alloc (.loop r), gf,
    #[.func (.yield (w.heap.size + 1)) #[] #[]] ++ lb, (w.alloc (.deferred (some []))).alloc (.loop r), ?_, ?_, fun _ _ => trivial, ?_, (fun h => by simp [Fence.wide] at h), ?_⟩
  · rw [hr]; exact run_enterLoop_outer _ _ _ _ _
  · simp only [resolve, hg]
    simp [go_sem]
  · simp [invoke, go_sem, eg]
  · refine (h r _ (by rw [hr]) (by rw [hr]) (by rw [hr]) (by rw [hr]) (by rw [hr]) (by rw [hr]) rfl).mono ?_
    rintro e W' ⟨⟨v, rfl⟩, hl, hq⟩
    have hpe : r.pending = none := by rw [hr]
    have := run_endLoop (P := P) hl (by rw [hr]; simp)
    rw [hpe] at this hq
    exact ⟨none, _, this, hq⟩
theorem round_with {P : Program} {m l : Nat} {args : Array Value} {W : World} {r : Loop} {R : World → Prop} (hl : W.heap[l]? = some (.loop r)) (hst : r.state = .ready) (hpe : r.pending = none) (hs : args.size = r.params.size)
    (h : ∀ rb : Loop, Hid (rb = { r with state := .busy }) → r.assign.wpIn (Fence.wide.inRound l) m P (Exit.then (fun a1 W1 => W1.heap[l]? = some (.loop r) ∧
        r.body.wpIn (Fence.wide.inRound l) m P (offEnd fun W3 => W3.heap[l]? = some (.loop rb) ∧ R (W3.putObj l (.loop r))) a1 (W1.putObj l (.loop rb))) (fun _ _ _ => False))
      { tmps := (r.params.zip args).foldl (fun t (p, v) => t.setIfInBounds p v) r.tmps, defers := [] } W) :
    YieldAt Fence.wide m P l args W fun e W' => e = .returned (.bool true) ∧ R W' := by
  refine ⟨r.fn, _, r.assign, r.body, run_yield hl hs, roundIn_of_wpIn trivial (wpIn_mono (h _ rfl) ?_)⟩
  rintro e a1 W1 hp
  cases e with
  | normal =>
    obtain ⟨hl1, hb⟩ := hp
    refine ⟨_, run_beginRound hl1 hst, wpIn_mono hb ?_⟩
    rintro e a3 W3 hq
    cases e with
    | normal =>
      obtain ⟨hl3, hR⟩ := hq
      refine ⟨_, _, run_endRound none hl3, rfl, ?_⟩
      have e1 : ({ ({ r with state := .busy } : Loop) with state := if (none : Option Code).isNone then .ready else .done, pending := none } : Loop) = r := by
        cases r; simp only at hst hpe; subst hst hpe; rfl
      rw [e1]
      exact hR
    | ret => exact hq.elim
    | exit id => exact hq.elim
    | goto t => exact hq.elim
    | panic ch => exact hq.elim
    | outgrown => exact hq.elim
  | ret => exact hp.elim
  | exit id => exact hp.elim
  | goto t => exact hp.elim
  | panic ch => exact hp.elim
  | outgrown => exact hp.elim
theorem allocs_old : ∀ (objs : List Obj) (w : World) (i : Nat), i < w.heap.size → (objs.foldl World.alloc w).heap[i]? = w.heap[i]?
  | [], w, i, h => rfl
  | A :: r, w, i, h => (allocs_old r (w.alloc A) i (by simp; omega)).trans (heap_alloc_old w A h)
theorem allocs_heap : ∀ (objs : List Obj) (w : World) (k : Nat) (o : Obj), objs[k]? = some o → (objs.foldl World.alloc w).heap[w.heap.size + k]? = some o
  | [], w, k, o, h => by simp at h
  | A :: r, w, 0, o, h => by
    simp at h
    subst h
    exact (allocs_old r (w.alloc A) w.heap.size (by simp)).trans (heap_alloc_new w A)
  | A :: r, w, k + 1, o, h => by
    have := allocs_heap r (w.alloc A) k o (by simpa using h)
    have e : (w.alloc A).heap.size + k = w.heap.size + (k + 1) := by simp; omega
    rw [e] at this
    exact this
theorem allocs_size : ∀ (objs : List Obj) (w : World), (objs.foldl World.alloc w).heap.size = w.heap.size + objs.length
  | [], w => rfl
  | A :: r, w => by show (r.foldl World.alloc (w.alloc A)).heap.size = _; rw [allocs_size r]; simp; omega
theorem allocs_below : ∀ (objs : List Obj) (w : World), Below w.heap.size w (objs.foldl World.alloc w)
  | [], w => Below.refl _ _
  | A :: r, w => ((Below.refl _ w).alloc (Nat.le_refl _) A).trans ((allocs_below r (w.alloc A)).mono (by simp))
/-- No panic comes. -/
def noP (Q : Exit → Act → World → Prop) : Exit → Act → World → Prop
  | .panic _, _, _ => False
  | e, a, w => Q e a w
theorem wp_noP {P : Program} {c : Code} {Q : Exit → Act → World → Prop} {a : Act} {w : World} (h : c.wp P (noP Q) a w) : c.wp P Q a w := by
  refine wp_mono h ?_
  intro e a w hq
  cases e <;> first | exact hq | exact hq.elim
/-- Tick, of the net told plainly. -/
def nTick (A : NA) (most : Int) : List TM × NA := match A.tm with
  | [] => ([], nWait A most)
  | t :: _ => if max most 0 < t.at_ - A.clk then ([], nWait A most) else (A.tm.take (many A.tm), { A with clk := max t.at_ A.clk, tm := A.tm.drop (many A.tm) })
set_option maxRecDepth 100000 in
/-- first -/
theorem first_any (b : Nat) (w : World) : Calls Try.prog 44 #[.pointer (some ⟨b, 0, none⟩)] w fun e w' => e = .returned (.func (.func 58) #[] #[.pointer (some ⟨w.heap.size, 0, none⟩)]) ∧ w' = w.alloc (.cells #[.pointer (some ⟨b, 0, none⟩)] 23) := by
  have hmf : ∀ (fn : Fn) (first cap : Array Value) (w : World), (Instr.makeFunc fn first cap).run Try.prog w = .ok (.func fn first cap) w := fun _ _ _ _ => rfl
  go_enter Try.func44, Try.ntmps44
  go_wp2
  go_ret
  exact ⟨rfl, rfl⟩
/-- Within the rounds of Tick: block t holds what is told so far. -/
structure TkJ (w3 W : World) (t b : Nat) (r : Loop) (v : Value) (l : List TM) : Prop where
  b0 : W.heap[t]? = some (.cells #[v] 46)
  b1 : W.heap[t + 1]? = some (.cells #[.pointer (some ⟨b, 0, none⟩)] 23)
  b2 : W.heap[t + 2]? = some (.deferred (some []))
  b3 : W.heap[t + 3]? = some (.loop r)
  row : W.ownsRow (t + 4) 63 3 v l.length (tmL l)
  bl : Below t w3 W
  sz : t + 4 ≤ W.heap.size
theorem TkJ.below {w3 W W2 : World} {t b : Nat} {r : Loop} {v : Value} {l : List TM} (h : TkJ w3 W t b r v l) (hb : Below W.heap.size W W2) : TkJ w3 W2 t b r v l := by
  have hs := h.sz
  exact ⟨(hb.block _ (by omega)).trans h.b0, (hb.block _ (by omega)).trans h.b1, (hb.block _ (by omega)).trans h.b2, (hb.block _ (by omega)).trans h.b3, ownsRow_heap h.row (fun x hx => hb.block x (h.row.lt x hx).2), h.bl.trans (hb.mono (by omega)), Nat.le_trans hs hb.size⟩
theorem TkJ.put {w3 W : World} {t b : Nat} {r : Loop} {v : Value} {l : List TM} (h : TkJ w3 W t b r v l) (r2 : Loop) : TkJ w3 (W.putObj (t + 3) (.loop r2)) t b r2 v l := by
  have hs := h.sz
  have ho : ∀ x, x ≠ t + 3 → (W.putObj (t + 3) (.loop r2)).heap[x]? = W.heap[x]? := fun x hx => World.putObj_heap_other hx
  refine ⟨(ho _ (by omega)).trans h.b0, (ho _ (by omega)).trans h.b1, (ho _ (by omega)).trans h.b2, World.putObj_heap_same (by omega), ownsRow_heap h.row (fun x hx => ho x (by have := (h.row.lt x hx).1; omega)), ?_, by simpa [World.putObj] using hs⟩
  exact ⟨h.bl.os, h.bl.tape, h.bl.output, by simpa [World.putObj] using h.bl.size, fun x hx => (ho x (by omega)).trans (h.bl.block x hx)⟩
/-- Behind the append of a round, told's own cell stored. -/
theorem TkJ.told {w3 W W2 : World} {t b : Nat} {r : Loop} {v v2 : Value} {l l2 : List TM} (h : TkJ w3 W t b r v l) (hg : W.grownBy W2 v.ownBlock) (hr : W2.ownsRow (t + 4) 63 3 v2 l2.length (tmL l2)) : TkJ w3 (W2.setCell ⟨t, 0, none⟩ v2) t b r v2 l2 := by
  have hs := h.sz
  have hs2 := hg.size
  have hne : ∀ x, x < t + 4 → W2.heap[x]? = W.heap[x]? := fun x hx => hg.block x (by omega) (fun e => by have := (h.row.lt x e.symm).1; omega)
  have ho : ∀ x, x ≠ t → (W2.setCell ⟨t, 0, none⟩ v2).heap[x]? = W2.heap[x]? := fun x hx => Below.heap_setCell _ _ _ _ hx
  refine ⟨?_, (ho _ (by omega)).trans ((hne _ (by omega)).trans h.b1), (ho _ (by omega)).trans ((hne _ (by omega)).trans h.b2), (ho _ (by omega)).trans ((hne _ (by omega)).trans h.b3), ownsRow_heap hr (fun x hx => ho x (by have := (hr.lt x hx).1; omega)), ?_, by simp; omega⟩
  · rw [block_setCell ((hne t (by omega)).trans h.b0) _]
    rfl
  · exact ⟨hg.os.trans h.bl.os, hg.tape.trans h.bl.tape, hg.output.trans h.bl.output, by simp; have := h.bl.size; omega, fun x hx => (ho x (by omega)).trans ((hne x (by omega)).trans (h.bl.block x hx))⟩
theorem info63v : (Try.prog.info? 63).map (·.size) = some 3 := by kernel_rfl
attribute [local go_sem] Oper.semAt_some
set_option maxRecDepth 100000 in
set_option maxHeartbeats 16000000 in
/-- Tick, the first timers told. -/
theorem tick_ring {w : World} {b : Nat} {N0 : NS} (h : NetIs w b N0) (ho : NOk N0) {t : TM} {r : List TM} (he : N0.tm = t :: r) (most : Int) (hfar : ¬ max most 0 < t.at_ - N0.clk) :
    Calls Try.prog 23 #[.pointer (some ⟨b, 0, none⟩), .int .i64 most] w fun e w' => TiR w b N0 (N0.tm.take (many N0.tm)) { absN N0 with clk := max t.at_ N0.clk, tm := N0.tm.drop (many N0.tm) } e w' := by
  obtain ⟨g, tc, htv⟩ := h.tvg he
  obtain ⟨n, hn⟩ : ∃ n, n = N0.tm.length := ⟨_, rfl⟩
  rw [← hn] at htv
  have hnp : 0 < n := by rw [hn, he]; simp
  have hF := h.fst htv he
  have hat := ho.at_ t (by rw [he]; simp)
  have hC0 := ho.ck
  obtain ⟨C, hC1⟩ : ∃ C, C = N0.clk := ⟨_, rfl⟩
  have hclk0 : N0.clk = C := hC1.symm
  rw [hclk0] at hC0 hfar
  have hC : 0 ≤ C ∧ C ≤ 1099511627776 := hC0
  obtain ⟨A, hA⟩ : ∃ A, A = t.at_ := ⟨_, rfl⟩
  rw [← hA] at hF hat hfar
  obtain ⟨M, hM⟩ : ∃ M, M = max most 0 := ⟨_, rfl⟩
  rw [← hM] at hfar
  have hM3 : max most 0 = M := hM.symm
  have hwA : IntKind.i64.wrap (A - C) = A - C := by rw [IntKind.wrap_i64]; omega
  have hn0 : ((n : Int) == 0) = false := by simp; omega
  have hn1 : ¬ n = 0 := by omega
  have hMA : ¬ M < A - C := hfar
  have hn4 : n ≤ 4096 := by rw [hn]; exact ho.tm
  have H0 : Hid (NetIs w b N0 ∧ NFr w w N0 N0) := ⟨h, NFr.refl _ _⟩
  have HS : Hid (N0.tv = .slice (some ⟨g, 0, none⟩) n tc ∧ N0.tm = t :: r ∧ n = N0.tm.length ∧ A = t.at_ ∧ n ≤ 4096) := ⟨htv, he, hn, hA, hn4⟩
  have HCC : Hid (C = N0.clk) := hC1
  clear h ho he htv hC0 hC1 hM hn hA hfar hnp
  refine (callsIn_wide (n := 4)).1 ?_
  refine callsIn_of_wp_marks Try.func23 rfl trivial ?_ rfl
  simp only [Try.ntmps23, List.size_toArray, List.length_cons, List.length_nil, Nat.reduceAdd, Nat.reduceSub, Array.replicate_succ, Array.replicate_zero, List.push_toArray, List.append_toArray, List.nil_append, List.cons_append]
  refine wpIn_wide.2 ?_
  go_wp2_with fail
  refine wp_noP ?_
  refine wp_region_held_drew (S := fun w' => Fst w' b g n tc A) (by kernel_rfl) ⟨hF.c7, hF.c2⟩ (fun hHeld => ?_)
  refine wpAnyH_take (i := 0) (v := .pointer (some ⟨b, 0, none⟩)) rfl (by kernel_rfl) (by kernel_rfl) (by kernel_rfl) (fun _ _ _ h => h) (Or.inl ⟨by rfl, fun w9 hSw => ?_⟩) hHeld ?_
  · go_simp
  simp only [List.getElem_toArray, List.getElem_cons_succ, List.getElem_cons_zero, Act.put, List.setIfInBounds_toArray, List.set_cons_zero, List.set_cons_succ]
  refine wpAnyH_take (i := 1) (v := .pointer (some ⟨b, 0, none⟩)) rfl (by kernel_rfl) (by kernel_rfl) (by kernel_rfl) (fun _ _ _ h => h) (Or.inl ⟨by rfl, fun w9 hSw => ?_⟩) hHeld ?_
  · go_simp
  simp only [List.getElem_toArray, List.getElem_cons_succ, List.getElem_cons_zero, Act.put, List.setIfInBounds_toArray, List.set_cons_zero, List.set_cons_succ]
  refine wpAnyH_take (i := 2) (v := .pointer (some ⟨b, 7, none⟩)) rfl (by kernel_rfl) (by kernel_rfl) (by kernel_rfl) (fun _ _ _ h => h) (Or.inl ⟨by rfl, fun w9 hSw => ?_⟩) hHeld ?_
  · go_simp
  simp only [List.getElem_toArray, List.getElem_cons_succ, List.getElem_cons_zero, Act.put, List.setIfInBounds_toArray, List.set_cons_zero, List.set_cons_succ]
  refine wpAnyH_take (i := 3) (v := .slice (some ⟨g, 0, none⟩) n tc) rfl (by kernel_rfl) (by kernel_rfl) (by kernel_rfl) (fun _ _ _ h => h) (Or.inl ⟨by rfl, fun w9 hSw => ?_⟩) hHeld ?_
  · have hc := hSw.c7
    go_simp
  simp only [List.getElem_toArray, List.getElem_cons_succ, List.getElem_cons_zero, Act.put, List.setIfInBounds_toArray, List.set_cons_zero, List.set_cons_succ]
  refine wpAnyH_take (i := 4) (v := .int .i64 n) rfl (by kernel_rfl) (by kernel_rfl) (by kernel_rfl) (fun _ _ _ h => h) (Or.inl ⟨by rfl, fun w9 hSw => ?_⟩) hHeld ?_
  · go_simp
  simp only [List.getElem_toArray, List.getElem_cons_succ, List.getElem_cons_zero, Act.put, List.setIfInBounds_toArray, List.set_cons_zero, List.set_cons_succ]
  refine wpAnyH_take (i := 5) (v := .bool false) rfl (by kernel_rfl) (by kernel_rfl) (by kernel_rfl) (fun _ _ _ h => h) (Or.inl ⟨by rfl, fun w9 hSw => ?_⟩) hHeld ?_
  · go_simp
  simp only [List.getElem_toArray, List.getElem_cons_succ, List.getElem_cons_zero, Act.put, List.setIfInBounds_toArray, List.set_cons_zero, List.set_cons_succ]
  refine wpAnyH_take (i := 6) (v := .bool false) rfl (by kernel_rfl) (by kernel_rfl) (by kernel_rfl) (fun _ _ _ h => h) (Or.inl ⟨by rfl, fun w9 hSw => ?_⟩) hHeld ?_
  · go_simp
  simp only [List.getElem_toArray, List.getElem_cons_succ, List.getElem_cons_zero, Act.put, List.setIfInBounds_toArray, List.set_cons_zero, List.set_cons_succ]
  refine wpAnyH_take (i := 7) (v := .pointer (some ⟨b, 0, none⟩)) rfl (by kernel_rfl) (by kernel_rfl) (by kernel_rfl) (fun _ _ _ h => h) (Or.inl ⟨by rfl, fun w9 hSw => ?_⟩) hHeld ?_
  · go_simp
  simp only [List.getElem_toArray, List.getElem_cons_succ, List.getElem_cons_zero, Act.put, List.setIfInBounds_toArray, List.set_cons_zero, List.set_cons_succ]
  refine wpAnyH_take (i := 8) (v := .pointer (some ⟨b, 0, none⟩)) rfl (by kernel_rfl) (by kernel_rfl) (by kernel_rfl) (fun _ _ _ h => h) (Or.inl ⟨by rfl, fun w9 hSw => ?_⟩) hHeld ?_
  · go_simp
  simp only [List.getElem_toArray, List.getElem_cons_succ, List.getElem_cons_zero, Act.put, List.setIfInBounds_toArray, List.set_cons_zero, List.set_cons_succ]
  refine wpAnyH_take (i := 9) (v := .pointer (some ⟨b, 7, none⟩)) rfl (by kernel_rfl) (by kernel_rfl) (by kernel_rfl) (fun _ _ _ h => h) (Or.inl ⟨by rfl, fun w9 hSw => ?_⟩) hHeld ?_
  · go_simp
  simp only [List.getElem_toArray, List.getElem_cons_succ, List.getElem_cons_zero, Act.put, List.setIfInBounds_toArray, List.set_cons_zero, List.set_cons_succ]
  refine wpAnyH_take (i := 10) (v := .slice (some ⟨g, 0, none⟩) n tc) rfl (by kernel_rfl) (by kernel_rfl) (by kernel_rfl) (fun _ _ _ h => h) (Or.inl ⟨by rfl, fun w9 hSw => ?_⟩) hHeld ?_
  · have hc := hSw.c7
    go_simp
  simp only [List.getElem_toArray, List.getElem_cons_succ, List.getElem_cons_zero, Act.put, List.setIfInBounds_toArray, List.set_cons_zero, List.set_cons_succ]
  refine wpAnyH_take (i := 11) (v := .pointer (some ⟨g, 0, none⟩)) rfl (by kernel_rfl) (by kernel_rfl) (by kernel_rfl) (fun _ _ _ h => h) (Or.inl ⟨by rfl, fun w9 hSw => ?_⟩) hHeld ?_
  · go_simp
  simp only [List.getElem_toArray, List.getElem_cons_succ, List.getElem_cons_zero, Act.put, List.setIfInBounds_toArray, List.set_cons_zero, List.set_cons_succ]
  refine wpAnyH_take (i := 12) (v := .pointer (some ⟨g, 2, none⟩)) rfl (by kernel_rfl) (by kernel_rfl) (by kernel_rfl) (fun _ _ _ h => h) (Or.inl ⟨by rfl, fun w9 hSw => ?_⟩) hHeld ?_
  · go_simp
  simp only [List.getElem_toArray, List.getElem_cons_succ, List.getElem_cons_zero, Act.put, List.setIfInBounds_toArray, List.set_cons_zero, List.set_cons_succ]
  refine wpAnyH_take (i := 13) (v := .int .i64 A) rfl (by kernel_rfl) (by kernel_rfl) (by kernel_rfl) (fun _ _ _ h => h) (Or.inl ⟨by rfl, fun w9 hSw => ?_⟩) hHeld ?_
  · have hc := hSw.c2
    go_simp
  simp only [List.getElem_toArray, List.getElem_cons_succ, List.getElem_cons_zero, Act.put, List.setIfInBounds_toArray, List.set_cons_zero, List.set_cons_succ]
  refine wpAnyH_take (i := 14) (v := .pointer (some ⟨b, 0, none⟩)) rfl (by kernel_rfl) (by kernel_rfl) (by kernel_rfl) (fun _ _ _ h => h) (Or.inl ⟨by rfl, fun w9 hSw => ?_⟩) hHeld ?_
  · go_simp
  simp only [List.getElem_toArray, List.getElem_cons_succ, List.getElem_cons_zero, Act.put, List.setIfInBounds_toArray, List.set_cons_zero, List.set_cons_succ]
  refine wpAnyH_take (i := 15) (v := .pointer (some ⟨b, 0, none⟩)) rfl (by kernel_rfl) (by kernel_rfl) (by kernel_rfl) (fun _ _ _ h => h) (Or.inl ⟨by rfl, fun w9 hSw => ?_⟩) hHeld ?_
  · go_simp
  simp only [List.getElem_toArray, List.getElem_cons_succ, List.getElem_cons_zero, Act.put, List.setIfInBounds_toArray, List.set_cons_zero, List.set_cons_succ]
  refine wpAnyH_take (i := 16) (v := .pointer (some ⟨b, 0, none⟩)) rfl (by kernel_rfl) (by kernel_rfl) (by kernel_rfl) (fun _ _ _ h => h) (Or.inl ⟨by rfl, fun w9 hSw => ?_⟩) hHeld ?_
  · go_simp
  simp only [List.getElem_toArray, List.getElem_cons_succ, List.getElem_cons_zero, Act.put, List.setIfInBounds_toArray, List.set_cons_zero, List.set_cons_succ]
  refine wpAnyH_take (i := 19) (v := .int .i64 M) rfl (by kernel_rfl) (by kernel_rfl) (by kernel_rfl) (fun _ _ _ h => h) (Or.inl ⟨by rfl, fun w9 hSw => ?_⟩) hHeld ?_
  · go_simp
  simp only [List.getElem_toArray, List.getElem_cons_succ, List.getElem_cons_zero, Act.put, List.setIfInBounds_toArray, List.set_cons_zero, List.set_cons_succ]
  refine wpAnyH_ready (rs := [17]) (by kernel_rfl) (by simp) ?_
  refine AllReadyH.cons rfl (fun K hK => ?_) AllReadyH.nil
  have HA : Hid (NetIs w.drew b N0 ∧ NFr w w.drew N0 N0) := ⟨H0.out.1.below ⟨rfl, rfl, rfl, Nat.le_refl _, fun _ _ => rfl⟩, NFr.below ⟨rfl, rfl, rfl, Nat.le_refl _, fun _ _ => rfl⟩⟩
  generalize w.drew = wa at HA ⊢
  go_simp
  refine Calls.mono (now_any HA.out.1) ?_
  rintro e w2 ⟨rfl, gk, p1, p2⟩
  have H2 : Hid (NetIs w2 b (setCk N0 gk) ∧ NFr w w2 N0 (setCk N0 gk)) := ⟨p1, HA.out.2.trans p2⟩
  have hF2 : Fst w2 b g n tc A := by rw [HS.out.2.2.2.1]; exact p1.fst HS.out.1 HS.out.2.1
  clear p1 p2 HA hF
  rw [hclk0]
  go_wp2_with fail
  refine hK.out _ _ hF2 (fun hHeld => ?_)
  clear hK K
  try simp only [List.getElem_toArray, List.getElem_cons_succ, List.getElem_cons_zero, Act.put, List.setIfInBounds_toArray, List.set_cons_zero, List.set_cons_succ]
  refine wpAnyH_take (i := 18) (v := .int .i64 (A - C)) rfl (by kernel_rfl) (by kernel_rfl) (by kernel_rfl) (fun _ _ _ h => h) (Or.inl ⟨by rfl, fun w9 hSw => ?_⟩) hHeld ?_
  · go_simp
  simp only [List.getElem_toArray, List.getElem_cons_succ, List.getElem_cons_zero, Act.put, List.setIfInBounds_toArray, List.set_cons_zero, List.set_cons_succ]
  refine wpAnyH_take (i := 20) (v := .bool false) rfl (by kernel_rfl) (by kernel_rfl) (by kernel_rfl) (fun _ _ _ h => h) (Or.inl ⟨by rfl, fun w9 hSw => ?_⟩) hHeld ?_
  · go_simp
  simp only [List.getElem_toArray, List.getElem_cons_succ, List.getElem_cons_zero, Act.put, List.setIfInBounds_toArray, List.set_cons_zero, List.set_cons_succ]
  refine wpAnyH_take (i := 21) (v := .bool false) rfl (by kernel_rfl) (by kernel_rfl) (by kernel_rfl) (fun _ _ _ h => h) (Or.inl ⟨by rfl, fun w9 hSw => ?_⟩) hHeld ?_
  · go_simp
  simp only [List.getElem_toArray, List.getElem_cons_succ, List.getElem_cons_zero, Act.put, List.setIfInBounds_toArray, List.set_cons_zero, List.set_cons_succ]
  refine wpAnyH_done (by kernel_rfl) ?_ _
  simp only [noP]
  clear hHeld hF2
  have hF3 : Fst w2 b g n tc A := by rw [HS.out.2.2.2.1]; exact H2.out.1.fst HS.out.1 HS.out.2.1
  go_wp2_with fail
  refine wp_noP ?_
  refine wp_region_held_drew (S := fun w' => Fst w' b g n tc A) (by kernel_rfl) ⟨hF3.c7, hF3.c2⟩ (fun hHeld => ?_)
  refine wpAnyH_take (i := 0) (v := .pointer (some ⟨b, 0, none⟩)) rfl (by kernel_rfl) (by kernel_rfl) (by kernel_rfl) (fun _ _ _ h => h) (Or.inl ⟨by rfl, fun w9 hSw => ?_⟩) hHeld ?_
  · go_simp
  simp only [List.getElem_toArray, List.getElem_cons_succ, List.getElem_cons_zero, Act.put, List.setIfInBounds_toArray, List.set_cons_zero, List.set_cons_succ]
  refine wpAnyH_take (i := 1) (v := .pointer (some ⟨b, 0, none⟩)) rfl (by kernel_rfl) (by kernel_rfl) (by kernel_rfl) (fun _ _ _ h => h) (Or.inl ⟨by rfl, fun w9 hSw => ?_⟩) hHeld ?_
  · go_simp
  simp only [List.getElem_toArray, List.getElem_cons_succ, List.getElem_cons_zero, Act.put, List.setIfInBounds_toArray, List.set_cons_zero, List.set_cons_succ]
  refine wpAnyH_take (i := 2) (v := .pointer (some ⟨b, 0, none⟩)) rfl (by kernel_rfl) (by kernel_rfl) (by kernel_rfl) (fun _ _ _ h => h) (Or.inl ⟨by rfl, fun w9 hSw => ?_⟩) hHeld ?_
  · go_simp
  simp only [List.getElem_toArray, List.getElem_cons_succ, List.getElem_cons_zero, Act.put, List.setIfInBounds_toArray, List.set_cons_zero, List.set_cons_succ]
  refine wpAnyH_take (i := 3) (v := .pointer (some ⟨b, 0, none⟩)) rfl (by kernel_rfl) (by kernel_rfl) (by kernel_rfl) (fun _ _ _ h => h) (Or.inl ⟨by rfl, fun w9 hSw => ?_⟩) hHeld ?_
  · go_simp
  simp only [List.getElem_toArray, List.getElem_cons_succ, List.getElem_cons_zero, Act.put, List.setIfInBounds_toArray, List.set_cons_zero, List.set_cons_succ]
  refine wpAnyH_take (i := 4) (v := .pointer (some ⟨b, 0, none⟩)) rfl (by kernel_rfl) (by kernel_rfl) (by kernel_rfl) (fun _ _ _ h => h) (Or.inl ⟨by rfl, fun w9 hSw => ?_⟩) hHeld ?_
  · go_simp
  simp only [List.getElem_toArray, List.getElem_cons_succ, List.getElem_cons_zero, Act.put, List.setIfInBounds_toArray, List.set_cons_zero, List.set_cons_succ]
  refine wpAnyH_take (i := 5) (v := .pointer (some ⟨b, 7, none⟩)) rfl (by kernel_rfl) (by kernel_rfl) (by kernel_rfl) (fun _ _ _ h => h) (Or.inl ⟨by rfl, fun w9 hSw => ?_⟩) hHeld ?_
  · go_simp
  simp only [List.getElem_toArray, List.getElem_cons_succ, List.getElem_cons_zero, Act.put, List.setIfInBounds_toArray, List.set_cons_zero, List.set_cons_succ]
  refine wpAnyH_take (i := 6) (v := .slice (some ⟨g, 0, none⟩) n tc) rfl (by kernel_rfl) (by kernel_rfl) (by kernel_rfl) (fun _ _ _ h => h) (Or.inl ⟨by rfl, fun w9 hSw => ?_⟩) hHeld ?_
  · have hc := hSw.c7
    go_simp
  simp only [List.getElem_toArray, List.getElem_cons_succ, List.getElem_cons_zero, Act.put, List.setIfInBounds_toArray, List.set_cons_zero, List.set_cons_succ]
  refine wpAnyH_take (i := 7) (v := .pointer (some ⟨g, 0, none⟩)) rfl (by kernel_rfl) (by kernel_rfl) (by kernel_rfl) (fun _ _ _ h => h) (Or.inl ⟨by rfl, fun w9 hSw => ?_⟩) hHeld ?_
  · go_simp
  simp only [List.getElem_toArray, List.getElem_cons_succ, List.getElem_cons_zero, Act.put, List.setIfInBounds_toArray, List.set_cons_zero, List.set_cons_succ]
  refine wpAnyH_take (i := 8) (v := .pointer (some ⟨g, 2, none⟩)) rfl (by kernel_rfl) (by kernel_rfl) (by kernel_rfl) (fun _ _ _ h => h) (Or.inl ⟨by rfl, fun w9 hSw => ?_⟩) hHeld ?_
  · go_simp
  simp only [List.getElem_toArray, List.getElem_cons_succ, List.getElem_cons_zero, Act.put, List.setIfInBounds_toArray, List.set_cons_zero, List.set_cons_succ]
  refine wpAnyH_take (i := 9) (v := .int .i64 A) rfl (by kernel_rfl) (by kernel_rfl) (by kernel_rfl) (fun _ _ _ h => h) (Or.inl ⟨by rfl, fun w9 hSw => ?_⟩) hHeld ?_
  · have hc := hSw.c2
    go_simp
  simp only [List.getElem_toArray, List.getElem_cons_succ, List.getElem_cons_zero, Act.put, List.setIfInBounds_toArray, List.set_cons_zero, List.set_cons_succ]
  refine wpAnyH_ready (rs := [10]) (by kernel_rfl) (by simp) ?_
  refine AllReadyH.cons rfl (fun K hK => ?_) AllReadyH.nil
  have HA : Hid (NetIs w2.drew b (setCk N0 gk) ∧ NFr w w2.drew N0 (setCk N0 gk)) := ⟨H2.out.1.below ⟨rfl, rfl, rfl, Nat.le_refl _, fun _ _ => rfl⟩, H2.out.2.trans (NFr.below ⟨rfl, rfl, rfl, Nat.le_refl _, fun _ _ => rfl⟩)⟩
  generalize w2.drew = wa at HA ⊢
  go_simp
  refine Calls.mono (reach_any HA.out.1 A) ?_
  rintro e w3 ⟨rfl, ge, p1, p2⟩
  obtain ⟨N2, hN2⟩ : ∃ N2, N2 = setAt (setCk (setCk N0 gk) ge) (max A (setCk N0 gk).clk) := ⟨_, rfl⟩
  rw [← hN2] at p1 p2
  have H3 : Hid (NetIs w3 b N2 ∧ NFr w w3 N0 N2 ∧ N2.tv = .slice (some ⟨g, 0, none⟩) n tc ∧ N2.tm = t :: r ∧ absN N2 = { absN N0 with clk := max A N0.clk }) := ⟨p1, HA.out.2.trans p2, by rw [hN2]; exact HS.out.1, by rw [hN2]; exact HS.out.2.1, by rw [hN2]; rfl⟩
  have hF4 : Fst w3 b g n tc A := by rw [HS.out.2.2.2.1]; exact p1.fst H3.out.2.2.1 H3.out.2.2.2.1
  clear p1 p2 HA hF3 hN2
  go_wp2_with fail
  refine hK.out _ _ hF4 (fun hHeld => ?_)
  clear hK K
  try simp only [List.getElem_toArray, List.getElem_cons_succ, List.getElem_cons_zero, Act.put, List.setIfInBounds_toArray, List.set_cons_zero, List.set_cons_succ]
  refine wpAnyH_done (by kernel_rfl) ?_ _
  simp only [noP]
  clear hHeld hF4 H2
  have hb3 := H3.out.1.lt
  have T1 : Hid True := trivial
  go_wp2_with (first
    | (have _ := T1
       go_at_call 44
       clear T1
       refine Calls.mono (first_any _ _) ?_
       rintro e w4 ⟨rfl, rfl⟩))
  obtain ⟨tb, htb⟩ : ∃ tb, tb = w3.heap.size := ⟨_, rfl⟩
  obtain ⟨kk, hkk⟩ : ∃ kk, kk = many N0.tm := ⟨_, rfl⟩
  have HKK : Hid (kk = many N0.tm ∧ kk ≤ n) := ⟨hkk, by rw [hkk, HS.out.2.2.1]; exact many_le _⟩
  have HTB : Hid (tb = w3.heap.size) := htb
  refine (wpIn_wide (n := 4)).1 ?_
  refine range_with (gf := 58) (lb := #[.pointer (some ⟨tb + 1, 0, none⟩)]) (by rw [htb]; rfl) (enters_of Try.func58 (by kernel_rfl) rfl) ?_
  intro r W1 hst hpe htm hpar has' hbod hW1
  have hW : W1 = [Obj.cells #[.slice none 0 0] 46, .cells #[.pointer (some ⟨b, 0, none⟩)] 23, .deferred (some []), .loop r].foldl World.alloc w3 := by rw [hW1]; rfl
  have hsz : ((w3.alloc (.cells #[.slice none 0 0] 46)).alloc (.cells #[.pointer (some ⟨b, 0, none⟩)] 23)).heap.size = tb + 2 := by rw [htb]; simp
  rw [hsz]
  have hh := fun k ob hk => allocs_heap [Obj.cells #[.slice none 0 0] 46, .cells #[.pointer (some ⟨b, 0, none⟩)] 23, .deferred (some []), .loop r] w3 k ob hk
  have hbl := allocs_below [Obj.cells #[.slice none 0 0] 46, .cells #[.pointer (some ⟨b, 0, none⟩)] 23, .deferred (some []), .loop r] w3
  have hsz4 := allocs_size [Obj.cells #[.slice none 0 0] 46, .cells #[.pointer (some ⟨b, 0, none⟩)] 23, .deferred (some []), .loop r] w3
  rw [← hW, ← htb] at hh hbl hsz4
  have hj0 : TkJ w3 W1 tb b r (.slice none 0 0) (N0.tm.take 0) := ⟨hh 0 _ rfl, hh 1 _ rfl, hh 2 _ rfl, hh 3 _ rfl, World.ownsRow_nil _ _ _ _, hbl, by rw [hsz4]; simp⟩
  have hFi : ∀ W, Below tb w3 W → FiV W (tb + 1) b (some ⟨g, 0, none⟩) n tc N0.tm ∨ True := fun _ _ => Or.inr trivial
  have hbw : ∀ {W : World}, Below tb w3 W → NetIs W b N2 := fun hb => H3.out.1.below (by rw [← HTB.out]; exact hb)
  clear hW hW1 hh hsz hsz4 hbl hFi htb hkk
  refine CallsIn.mono (first1_in 2 (tb + 3) (tb + 1) b n tc (some ⟨g, 0, none⟩) N0.tm HS.out.2.2.1 (by omega) W1 (fun k W => ∃ v, TkJ w3 W tb b r v (N0.tm.take k)) ⟨_, hj0⟩ (fun k W hj => ?hFV) (fun k W W' hj hb => ?hJB) (fun k W W2 t ht hk hj hb => ?hY)) ?hE
  case hFV =>
    obtain ⟨v, hj⟩ := hj
    have hN := hbw hj.bl
    refine ⟨(cell_of_block hj.b1 0).trans rfl, hN.cells.2.2.2.2.2.2.2.trans (by rw [H3.out.2.2.1]), TmV.of (n := n) (c := tc) (base := 0) ?_⟩
    have h1 := hN.tm
    rw [H3.out.2.2.1, H3.out.2.2.2.1, ← HS.out.2.1] at h1
    exact h1
  case hJB =>
    obtain ⟨v, hj⟩ := hj
    exact ⟨v, hj.below hb⟩
  case hY =>
    obtain ⟨v, hj⟩ := hj
    have hj2 := hj.below hb
    refine round_with (R := fun W' => ∃ v', TkJ w3 W' tb b r v' (N0.tm.take (k + 1))) hj2.b3 hst hpe (by rw [hpar]; rfl) ?_
    intro rb hrb
    rw [hpar, has', hbod, htm]
    clear hpar has' hbod htm hst hpe hrb hj0
    simp only [List.zip_toArray, List.zip_cons_cons, List.zip_nil_right, List.foldl_toArray, List.foldl_cons, List.foldl_nil, List.setIfInBounds_toArray, List.set_cons_zero, List.set_cons_succ]
    obtain ⟨va, vc, rfl⟩ := row_form hj2.row
    have hkn := (List.getElem?_eq_some_iff.1 ht).1
    have hlk : (N0.tm.take k).length = k := by rw [List.length_take]; omega
    rw [hlk] at hj2
    have HK : Hid (N0.tm[k]? = some t ∧ k < n ∧ (N0.tm.take k).length = k ∧ n ≤ 4096) := ⟨ht, by rw [HS.out.2.2.1]; exact hkn, hlk, HS.out.2.2.2.2⟩
    obtain ⟨V1, hV1⟩ : ∃ V1, V1 = W2.alloc (.cells #[.int .i64 t.nd, .int .i64 t.tg, .int .i64 t.at_] 63) := ⟨_, rfl⟩
    have hB1 : Below W2.heap.size W2 V1 := by rw [hV1]; exact (Below.refl _ W2).alloc (Nat.le_refl _) _
    have HJ : Hid (TkJ w3 V1 tb b r (.slice va k vc) (N0.tm.take k) ∧ V1.heap[W2.heap.size]? = some (.cells #[.int .i64 t.nd, .int .i64 t.tg, .int .i64 t.at_] 63) ∧ tb + 4 ≤ W2.heap.size ∧ (∀ x, (Value.slice va k vc).ownBlock = some x → x < W2.heap.size)) := ⟨hj2.below hB1, by rw [hV1]; exact heap_alloc_new _ _, hj2.sz, fun x hx => (hj2.row.lt x hx).2⟩
    have HV1 : Hid (V1 = W2.alloc (.cells #[.int .i64 t.nd, .int .i64 t.tg, .int .i64 t.at_] 63)) := hV1
    clear hj hj2 hb ht hkn hlk hk hV1 hB1
    gi_wp2
    have hV1 := HV1.out
    rw [← hV1]
    clear hV1
    refine ⟨HJ.out.1.b3, ?_⟩
    obtain ⟨P, hP⟩ : ∃ P, P = W2.heap.size := ⟨_, rfl⟩
    rw [← hP] at HJ ⊢
    have HX : Hid (TkJ w3 (V1.putObj (tb + 3) (.loop rb)) tb b rb (.slice va k vc) (N0.tm.take k) ∧ (V1.putObj (tb + 3) (.loop rb)).heap[P]? = some (.cells #[.int .i64 t.nd, .int .i64 t.tg, .int .i64 t.at_] 63) ∧ (∀ x, (Value.slice va k vc).ownBlock = some x → x ≠ P)) := ⟨HJ.out.1.put rb, (World.putObj_heap_other (by have := HJ.out; omega)).trans HJ.out.2.1, fun x hx e => by have := HJ.out.2.2.2 x hx; omega⟩
    generalize V1.putObj (tb + 3) (.loop rb) = V at HX ⊢
    clear HJ HV1 hP
    have e0 : V.cell? ⟨tb, 0, none⟩ = some (.slice va k vc) := (cell_of_block HX.out.1.b0 0).trans rfl
    have e1 : V.cell? ⟨P, 0, none⟩ = some (.int .i64 t.nd) := (cell_of_block HX.out.2.1 0).trans rfl
    have e2 : V.cell? ⟨P, 1, none⟩ = some (.int .i64 t.tg) := (cell_of_block HX.out.2.1 1).trans rfl
    have e3 : V.cell? ⟨P, 2, none⟩ = some (.int .i64 t.at_) := (cell_of_block HX.out.2.1 2).trans rfl
    have htb := HTB.out
    rw [← htb]
    clear htb
    have hPb : P ≠ tb := fun e => by have := HX.out.1.b0; rw [← e, HX.out.2.1] at this; cases this
    obtain ⟨i0, hi, hz, hsz, hby⟩ := elT.i
    have HI0 : Hid (Try.prog.info? 63 = some i0 ∧ i0.zero = some (.agg #[.int .i64 0, .int .i64 0, .int .i64 0]) ∧ i0.size = 3 ∧ i0.bytes = 24) := ⟨hi, hz, hsz, hby⟩
    clear hi hz hsz hby
    have T2 : Hid True := trivial
    gi_wp2_with (first
      | (have _ := T2
         refine wpListIn_append_own_at _ rfl _ _ 46 rfl (tb + 4) 63 i0 _ 3 24 elT.u HI0.out.1 HI0.out.2.1 HI0.out.2.2.1 HI0.out.2.2.2 elT.zs (by decide) (.slice va k vc) k (tmL (N0.tm.take k)) rfl (by have h1 := HX.out.1.row; rw [HK.out.2.2.1] at h1; exact h1.alloc _) ⟨V.heap.size, 0, none⟩ 1 1 (tmC t) rfl rfl (fun j u hu => by rw [Addr.add_lit, Nat.zero_add, cell_of_block (heap_alloc_new V _)]; simpa [tmC] using hu) (fun u hu => by simp only [tmC, List.mem_cons, List.not_mem_nil, or_false] at hu; rcases hu with rfl | rfl | rfl <;> rfl) (by unfold maxLen; have := HK.out; omega) (by have := HK.out; omega) (by have := HX.out.1.sz; simp; omega) ?_
         clear T2
         intro v2 V3 o2 g2 _ a2
         obtain ⟨v2a, v2c, rfl⟩ := row_form o2
         have htk : tmL (N0.tm.take k) ++ tmC t = tmL (N0.tm.take (k + 1)) ∧ (N0.tm.take (k + 1)).length = k + 1 := by
           constructor
           · rw [List.take_add_one, HK.out.1, tmL_append]; simp [tmL]
           · rw [List.length_take]; have := HK.out; have := HS.out.2.2.1; omega
         rw [htk.1] at o2
         have hj3 := HX.out.1.told (v2 := .slice v2a (k + 1) v2c) (l2 := N0.tm.take (k + 1)) ((World.grownBy_alloc V _ _).trans g2) (by rw [htk.2]; exact o2)
         have hlow : ∀ x, x < tb + 4 → V3.heap[x]? = V.heap[x]? := fun x hx => by
           have h1 := HX.out.1.sz
           rw [g2.block x (by simp; omega) (fun e => by have h2 := HX.out.1.row; have h3 := (h2.lt x e.symm).1; omega)]
           exact heap_alloc_old V _ (by omega)
         have hb3 : V3.heap[tb]? = some (.cells #[.slice va k vc] 46) := (hlow tb (by omega)).trans HX.out.1.b0
         have q0 : V3.cell? ⟨tb, 0, none⟩ = some (.slice va k vc) := (cell_of_block hb3 0).trans rfl
         have f0 : V3.frozen? ⟨tb, 0, none⟩ = false := unfrozen_of_block hb3 0
         have HE3 : Hid (TkJ w3 (V3.setCell ⟨tb, 0, none⟩ (.slice v2a (k + 1) v2c)) tb b rb (.slice v2a (k + 1) v2c) (N0.tm.take (k + 1))) := hj3
         clear o2 g2 a2 htk hj3 hlow hb3))
    refine ⟨HE3.out.b3, _, HE3.out.put r⟩
  case hE =>
    rintro e W' ⟨hv, va0, hj⟩
    refine ⟨hv, hj.b3, ?_⟩
    clear hst hpe htm hpar has' hbod hj0 hv
    obtain ⟨re, hre⟩ : ∃ re : Loop, { r with state := .exhausted } = re := ⟨_, rfl⟩
    rw [hre]
    obtain ⟨va, vc, hv⟩ := row_form hj.row
    subst hv
    have hlk : (N0.tm.take (many N0.tm)).length = kk := by rw [List.length_take, ← HKK.out.1]; have := HKK.out; have := HS.out.2.2.1; omega
    rw [hlk] at hj
    have J1 : Hid (TkJ w3 (W'.putObj (tb + 3) (.loop re)) tb b re (.slice va kk vc) (N0.tm.take (many N0.tm)) ∧ (N0.tm.take (many N0.tm)).length = kk) := ⟨hj.put re, hlk⟩
    show Exit.inBlock _ _ _ _ (W'.putObj (tb + 3) (.loop re))
    generalize W'.putObj (tb + 3) (.loop re) = V at J1 ⊢
    clear hj hre hlk
    have htb := HTB.out
    rw [← htb]
    clear htb
    go_wp2_with fail
    refine wp_noP ?_
    refine wp_region_held_drew (S := fun w' => w'.heap[tb]? = some (.cells #[.slice va kk vc] 46)) (by kernel_rfl) J1.out.1.b0 (fun hHeld => ?_)
    refine wpAnyH_take (i := 0) (v := .pointer (some ⟨b, 0, none⟩)) rfl (by kernel_rfl) (by kernel_rfl) (by kernel_rfl) (fun _ _ _ h => h) (Or.inl ⟨by rfl, fun w9 hSw => ?_⟩) hHeld ?_
    · go_simp
    simp only [List.getElem_toArray, List.getElem_cons_succ, List.getElem_cons_zero, Act.put, List.setIfInBounds_toArray, List.set_cons_zero, List.set_cons_succ]
    refine wpAnyH_take (i := 1) (v := .pointer (some ⟨b, 0, none⟩)) rfl (by kernel_rfl) (by kernel_rfl) (by kernel_rfl) (fun _ _ _ h => h) (Or.inl ⟨by rfl, fun w9 hSw => ?_⟩) hHeld ?_
    · go_simp
    simp only [List.getElem_toArray, List.getElem_cons_succ, List.getElem_cons_zero, Act.put, List.setIfInBounds_toArray, List.set_cons_zero, List.set_cons_succ]
    refine wpAnyH_take (i := 2) (v := .pointer (some ⟨b, 0, none⟩)) rfl (by kernel_rfl) (by kernel_rfl) (by kernel_rfl) (fun _ _ _ h => h) (Or.inl ⟨by rfl, fun w9 hSw => ?_⟩) hHeld ?_
    · go_simp
    simp only [List.getElem_toArray, List.getElem_cons_succ, List.getElem_cons_zero, Act.put, List.setIfInBounds_toArray, List.set_cons_zero, List.set_cons_succ]
    refine wpAnyH_take (i := 3) (v := .pointer (some ⟨b, 7, none⟩)) rfl (by kernel_rfl) (by kernel_rfl) (by kernel_rfl) (fun _ _ _ h => h) (Or.inl ⟨by rfl, fun w9 hSw => ?_⟩) hHeld ?_
    · go_simp
    simp only [List.getElem_toArray, List.getElem_cons_succ, List.getElem_cons_zero, Act.put, List.setIfInBounds_toArray, List.set_cons_zero, List.set_cons_succ]
    refine wpAnyH_take (i := 5) (v := .slice va kk vc) rfl (by kernel_rfl) (by kernel_rfl) (by kernel_rfl) (fun _ _ _ h => h) (Or.inl ⟨by rfl, fun w9 hSw => ?_⟩) hHeld ?_
    · have hc : w9.cell? ⟨tb, 0, none⟩ = some (.slice va kk vc) := (cell_of_block hSw 0).trans rfl
      go_simp
    simp only [List.getElem_toArray, List.getElem_cons_succ, List.getElem_cons_zero, Act.put, List.setIfInBounds_toArray, List.set_cons_zero, List.set_cons_succ]
    refine wpAnyH_take (i := 6) (v := .int .i64 kk) rfl (by kernel_rfl) (by kernel_rfl) (by kernel_rfl) (fun _ _ _ h => h) (Or.inl ⟨by rfl, fun w9 hSw => ?_⟩) hHeld ?_
    · go_simp
    simp only [List.getElem_toArray, List.getElem_cons_succ, List.getElem_cons_zero, Act.put, List.setIfInBounds_toArray, List.set_cons_zero, List.set_cons_succ]
    refine wpAnyH_ready (rs := [4]) (by kernel_rfl) (by simp) ?_
    refine AllReadyH.cons rfl (fun K hK => ?_) AllReadyH.nil
    have J2 : Hid (TkJ w3 V.drew tb b re (.slice va kk vc) (N0.tm.take (many N0.tm)) ∧ NetIs V.drew b N2) := ⟨J1.out.1.below ⟨rfl, rfl, rfl, Nat.le_refl _, fun _ _ => rfl⟩, hbw ((J1.out.1.below ⟨rfl, rfl, rfl, Nat.le_refl _, fun _ _ => rfl⟩ : TkJ w3 V.drew tb b re (.slice va kk vc) (N0.tm.take (many N0.tm))).bl)⟩
    have hc7 : V.drew.cell? ⟨b, 7, none⟩ = some (.slice (some ⟨g, 0, none⟩) n tc) := J2.out.2.cells.2.2.2.2.2.2.2.trans (by rw [H3.out.2.2.1])
    have HLK : Hid ((N0.tm.take (many N0.tm)).length = kk) := J1.out.2
    clear J1
    generalize V.drew = V0 at hHeld J2 hc7 ⊢
    go_simp
    refine hK.out _ _ hHeld (fun hHeld => ?_)
    clear hK K
    try simp only [List.getElem_toArray, List.getElem_cons_succ, List.getElem_cons_zero, Act.put, List.setIfInBounds_toArray, List.set_cons_zero, List.set_cons_succ]
    refine wpAnyH_ready (rs := [7]) (by kernel_rfl) (by simp) ?_
    refine AllReadyH.cons rfl (fun K hK => ?_) AllReadyH.nil
    have HD : Hid _ := delT_any (w := V0) (base := 0) (.slice (some ⟨g, 0, none⟩) n tc) (tmL N0.tm) n 0 kk (Nat.zero_le _) HKK.out.2 (by have h1 := J2.out.2.tm; rw [H3.out.2.2.1, H3.out.2.2.2.1, ← HS.out.2.1, ← HS.out.2.2.1] at h1; exact h1) (tmL_one _) (by omega)
    rw [show ((0 : Nat) : Int) = 0 from rfl] at HD
    go_simp
    refine Calls.mono HD.out ?_
    rintro e V5 ⟨v5, rfl, o5, ob5, g5⟩
    obtain ⟨v5a, v5c, rfl⟩ := row_form o5
    have hdl : (N0.tm.drop kk).length = n - (kk - 0) := by rw [List.length_drop, HS.out.2.2.1]; rfl
    have hend := setT_end (v := .slice v5a (n - (kk - 0)) v5c) (l := N0.tm.drop kk) J2.out.2 (by rw [H3.out.2.2.1]; exact g5) (by rw [hdl, tmL_drop]; rw [Nat.zero_mul, List.take_zero, List.nil_append] at o5; exact o5) (Or.inl (by rw [H3.out.2.2.1]; exact ob5))
    have hs4 := J2.out.1.sz
    have hgw : g < w3.heap.size := (H3.out.1.tm.lt g (by rw [H3.out.2.2.1]; rfl)).2
    have htb := HTB.out
    have hlow : ∀ x, x ≠ g → x < V0.heap.size → V5.heap[x]? = V0.heap[x]? := fun x hx hl => g5.block x hl (fun e => hx (by injection e))
    have hb5 : V5.heap[b]? = some (.cells (nC N2) 82) := (hlow b (fun e => by have h1 := J2.out.2.rt g (by rw [H3.out.2.2.1]; rfl); rw [← e, J2.out.2.rn] at h1; cases h1) J2.out.2.lt).trans J2.out.2.net
    have d7 : V5.cell? ⟨b, 7, none⟩ = some (.slice (some ⟨g, 0, none⟩) n tc) := by rw [cell_of_block hb5]; show some N2.tv = _; rw [H3.out.2.2.1]
    have z7 : V5.frozen? ⟨b, 7, none⟩ = false := unfrozen_of_block hb5 7
    have hk5 : ∀ x, tb ≤ x → x < V0.heap.size → (V5.setCell ⟨b, 7, none⟩ (.slice v5a (n - (kk - 0)) v5c)).heap[x]? = V0.heap[x]? := fun x hx hl => (Below.heap_setCell _ _ _ _ (fun e => by have e' : x = b := e; omega)).trans (hlow x (by omega) hl)
    have hS5 : V5.heap[tb]? = some (.cells #[.slice va kk vc] 46) := (hlow tb (by omega) (by omega)).trans J2.out.1.b0
    have hS6 : (V5.setCell ⟨b, 7, none⟩ (.slice v5a (n - (kk - 0)) v5c)).heap[tb]? = some (.cells #[.slice va kk vc] 46) := (hk5 tb (Nat.le_refl _) (by omega)).trans J2.out.1.b0
    have HE : Hid (NetIs (V5.setCell ⟨b, 7, none⟩ (.slice v5a (n - (kk - 0)) v5c)) b (setT N2 (.slice v5a (n - (kk - 0)) v5c) (N0.tm.drop kk)) ∧ NFr V0 (V5.setCell ⟨b, 7, none⟩ (.slice v5a (n - (kk - 0)) v5c)) N2 (setT N2 (.slice v5a (n - (kk - 0)) v5c) (N0.tm.drop kk)) ∧ (∀ x, tb ≤ x → x < V0.heap.size → (V5.setCell ⟨b, 7, none⟩ (.slice v5a (n - (kk - 0)) v5c)).heap[x]? = V0.heap[x]?) ∧ (Value.slice v5a (n - (kk - 0)) v5c).ownBlock = some g ∧ g < w3.heap.size) := ⟨hend.1, hend.2, hk5, ob5, hgw⟩
    clear o5 ob5 g5 hdl hend hlow hb5 hk5 hc7 HD htb hHeld
    generalize n - (kk - 0) = nn at *
    go_wp2_with fail
    refine hK.out _ _ hS5 (fun hHeld => ?_)
    clear hK K
    try simp only [List.getElem_toArray, List.getElem_cons_succ, List.getElem_cons_zero, Act.put, List.setIfInBounds_toArray, List.set_cons_zero, List.set_cons_succ]
    refine wpAnyH_take (i := 8) (v := .pointer (some ⟨b, 0, none⟩)) rfl (by kernel_rfl) (by kernel_rfl) (by kernel_rfl) (fun _ _ _ h => h) (Or.inl ⟨by rfl, fun w9 hSw => ?_⟩) hHeld ?_
    · go_simp
    simp only [List.getElem_toArray, List.getElem_cons_succ, List.getElem_cons_zero, Act.put, List.setIfInBounds_toArray, List.set_cons_zero, List.set_cons_succ]
    refine wpAnyH_take (i := 9) (v := .pointer (some ⟨b, 7, none⟩)) rfl (by kernel_rfl) (by kernel_rfl) (by kernel_rfl) (fun _ _ _ h => h) (Or.inl ⟨by rfl, fun w9 hSw => ?_⟩) hHeld ?_
    · go_simp
    simp only [List.getElem_toArray, List.getElem_cons_succ, List.getElem_cons_zero, Act.put, List.setIfInBounds_toArray, List.set_cons_zero, List.set_cons_succ]
    refine wpAnyH_ready (rs := [10]) (by kernel_rfl) (by simp) ?_
    refine AllReadyH.cons rfl (fun K hK => ?_) AllReadyH.nil
    go_simp
    clear hS5 d7 z7
    obtain ⟨V6, hV6⟩ : ∃ V6, V6 = V5.setCell ⟨b, 7, none⟩ (.slice v5a nn v5c) := ⟨_, rfl⟩
    rw [← hV6] at HE hS6 ⊢
    clear hV6
    have hS7 := hS6
    clear hS6
    go_wp2_with fail
    refine hK.out _ _ hS7 (fun hHeld => ?_)
    clear hK K
    try simp only [List.getElem_toArray, List.getElem_cons_succ, List.getElem_cons_zero, Act.put, List.setIfInBounds_toArray, List.set_cons_zero, List.set_cons_succ]
    refine wpAnyH_done (by kernel_rfl) ?_ _
    simp only [noP]
    have q0 : V6.cell? ⟨tb, 0, none⟩ = some (.slice va kk vc) := (cell_of_block hS7 0).trans rfl
    clear hHeld hS7
    go_wp2
    have hs := J2.out.1.sz
    have htb := HTB.out
    have hb2 : V6.heap[tb + 2]? = some (.deferred (some [])) := (HE.out.2.2.1 _ (by omega) (by omega)).trans J2.out.1.b2
    refine ⟨by simp, .inl ⟨_, _, rfl, run_takeDeferred (w := V6) hb2, ?_⟩⟩
    refine ⟨.slice va kk vc, by simp [results, Try.results23], ?_⟩
    have ho : ∀ x, x ≠ tb + 2 → (V6.putObj (tb + 2) (.deferred none)).heap[x]? = V6.heap[x]? := fun x hx => World.putObj_heap_other hx
    have hz9 : (V6.putObj (tb + 2) (.deferred none)).heap.size = V6.heap.size := by simp [World.putObj]
    have hws := H3.out.2.1.size
    have hown : ∀ x, tb ≤ x → (setT N2 (.slice v5a nn v5c) (N0.tm.drop kk)).own x = 0 := fun x hx => by
      show (if (Value.slice v5a nn v5c).ownBlock = some x then 4 else N2.own x) = 0
      rw [if_neg (fun e => by rw [HE.out.2.2.2.1] at e; injection e with e; have := HE.out.2.2.2.2; omega)]
      exact H3.out.1.fresh x (by omega)
    have F := (H3.out.2.1.trans (NFr.below (by rw [← htb]; exact J2.out.1.bl))).trans HE.out.2.1
    refine ⟨_, setT N2 (.slice v5a nn v5c) (N0.tm.drop kk), rfl, ?_, HE.out.1.but (r := tb + 2) ho (by rw [hz9]; exact Nat.le_refl _) (hown _ (by omega)) (fun p hp x hx => by have := dBlock_lt (H3.out.1.data p hp) hx; omega), ⟨⟨F.os, F.tape, F.output, by rw [hz9]; exact F.size, fun x hx h0 => (ho x (by omega)).trans (F.block x hx h0), F.own⟩, F.dat⟩, ?_, fun gg hgg => hown gg (by have := (J2.out.1.row.lt gg hgg).1; omega)⟩
    · have h1 := J2.out.1.row
      rcases h1.2 with ⟨e, e0⟩ | ⟨g9, cap, cur, e, hb, hg, r9⟩
      · exact ⟨h1.1, Or.inl ⟨e, e0⟩⟩
      · refine ⟨h1.1, Or.inr ⟨g9, cap, cur, e, by omega, ?_, r9⟩⟩
        rw [ho g9 (by omega), HE.out.2.2.1 g9 (by omega) (heap_lt hg)]
        exact hg
    · show { absN N2 with tm := N0.tm.drop kk } = _
      rw [H3.out.2.2.2.2, HS.out.2.2.2.1, HKK.out.1]
/-- Tick. -/
theorem tick_any {w : World} {b : Nat} {N : NS} (h : NetIs w b N) (ho : NOk N) (most : Int) :
    Calls Try.prog 23 #[.pointer (some ⟨b, 0, none⟩), .int .i64 most] w fun e w' => TiR w b N (nTick (absN N) most).1 (nTick (absN N) most).2 e w' := by
  have hA : (absN N).tm = N.tm := rfl
  have hC : (absN N).clk = N.clk := rfl
  rcases he : N.tm with _ | ⟨t, r⟩
  · have e : nTick (absN N) most = ([], nWait (absN N) most) := by unfold nTick; rw [hA, he]
    rw [e]
    exact tick_empty h ho he most
  · by_cases hf : max most 0 < t.at_ - N.clk
    · have e : nTick (absN N) most = ([], nWait (absN N) most) := by
        unfold nTick
        rw [hA, he]
        show (if max most 0 < t.at_ - (absN N).clk then _ else _) = _
        rw [hC, if_pos hf]
      rw [e]
      exact tick_far h ho he most hf
    · have e : nTick (absN N) most = (N.tm.take (many N.tm), { absN N with clk := max t.at_ N.clk, tm := N.tm.drop (many N.tm) }) := by
        unfold nTick
        rw [hA, he]
        show (if max most 0 < t.at_ - (absN N).clk then _ else _) = _
        rw [hC, if_neg hf]
      rw [e]
      exact tick_ring h ho he most hf
end Go.Proofs.Ytemapnfbmhjlbaa
