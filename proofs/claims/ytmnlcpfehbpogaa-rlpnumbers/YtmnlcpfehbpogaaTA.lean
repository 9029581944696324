/- rlp: Theirs (the law's). -/
import Derived.Test.YtmnlcpfehbpogaaSF
namespace Go.Proofs.Ytmnlcpfehbpogaa
open Go.RowKit Go.Maps Go.Joins
set_option linter.unusedSimpArgs false
set_option linter.unusedVariables false
theorem info25b : (Try.prog.info? 25).map (fun i => (i.zero, i.size, i.bytes)) = some (some (.agg #[.bool false, .slice none 0 0, .slice none 0 0]), 3, 56) := by kernel_rfl
theorem info25c : ∃ i, Try.prog.info? 25 = some i ∧ i.zero = some (.agg #[.bool false, .slice none 0 0, .slice none 0 0]) ∧ i.size = 3 ∧ i.bytes = 56 := by
  have := info25b
  cases h : Try.prog.info? 25 with
  | none => rw [h] at this; cases this
  | some i =>
    rw [h] at this
    simp at this
    exact ⟨i, rfl, this.1, this.2.1, this.2.2⟩
theorem set25 {w : World} {b : Nat} {x y z x' y' z' : Value} (h : w.heap[b]? = some (.cells #[x, y, z] 25)) : (((w.setCell ⟨b, 0, none⟩ x').setCell ⟨b, 1, none⟩ y').setCell ⟨b, 2, none⟩ z').heap[b]? = some (.cells #[x', y', z'] 25) :=
  heap_setCell_same _ b 2 _ 25 z' (heap_setCell_same _ b 1 _ 25 y' (heap_setCell_same _ b 0 _ 25 x' h))
/-- append of an item that lies in a block of its own. -/
theorem run_append_itR {w : World} (ty : TypeId) {base : Nat} {v : Value} {A : List IC} (f : IC) (hb : ∃ a l c, f.sb = .slice a l c) (hi : ∃ a l c, f.si = .slice a l c) (hown : w.ownsRow base 25 3 v A.length (icL A)) (g : Nat) (hg : w.heap[g]? = some (.cells #[.bool f.x.l, f.sb, f.si] 25)) (hl : (A.length + 1) * 56 ≤ 140737488355328) (hbase : base ≤ w.heap.size) :
    ∃ v' w', (Builtin.append_ #[23, 23] ty #[v, .slice (some ⟨g, 0, none⟩) 1 1]).run Try.prog w = .ok v' w' ∧ w'.ownsRow base 25 3 v' (A.length + 1) (icL (A ++ [f])) ∧ w.grownBy w' v.ownBlock ∧ (v'.ownBlock = v.ownBlock ∨ v'.ownBlock = some w.heap.size) := by
  obtain ⟨i0, hi0, hz0, hz1, hz2⟩ := info25c
  obtain ⟨v', w', hr, h2, h3, _, h5⟩ := run_append_own_at (P := Try.prog) w base 23 ty 25 i0 _ 3 56 Try.underlying23 hi0 hz0 hz1 hz2 rfl (by decide) v A.length (icL A) hown ⟨g, 0, none⟩ 1 1 (icC f) rfl (fun j u hu => by
    rw [Addr.add_lit, Nat.zero_add, cell_of_block hg]
    simpa [icC] using hu) (icC_one f hb hi) (by unfold maxLen; omega) (by omega) hbase
  refine ⟨v', w', hr, ?_, h3, h5⟩
  rw [icL_append]
  have : icL [f] = icC f := by simp [icL]
  rw [this]
  exact h2
theorem step_append_itR {w : World} {ops : Array Oper} {o : Oper} {a : Act} {K : Act → World → Prop} {Q : Exit → Act → World → Prop} {E : Prop} (hgd : o.guard = none) (s x : Operand)
    (ho : o.op = .call { callee := .builtin .append, args := #[s, x], argTypes := #[23, 23] }) {base : Nat} {v : Value} {A : List IC} (f : IC) (hb : ∃ a l c, f.sb = .slice a l c) (hi : ∃ a l c, f.si = .slice a l c) (hs : a.eval s = v) (hown : w.ownsRow base 25 3 v A.length (icL A)) (g : Nat) (hx : a.eval x = .slice (some ⟨g, 0, none⟩) 1 1) (hg : w.heap[g]? = some (.cells #[.bool f.x.l, f.sb, f.si] 25)) (hl : (A.length + 1) * 56 ≤ 140737488355328) (hbase : base ≤ w.heap.size)
    (h : ∀ v' w', w'.ownsRow base 25 3 v' (A.length + 1) (icL (A ++ [f])) → w.grownBy w' v.ownBlock → (v'.ownBlock = v.ownBlock ∨ v'.ownBlock = some w.heap.size) → K (a.put o.dst v') w') :
    if Region.wanted o (yielded ops a.tmps) = true then Oper.wp Try.prog o a w K Q else E := by
  have hw : Region.wanted o (yielded ops a.tmps) = true := by simp [Region.wanted, hgd]
  rw [if_pos hw]
  obtain ⟨v', w', hr, h2, h3, h5⟩ := run_append_itR o.type f hb hi hown g hg hl hbase
  unfold Oper.wp execOp
  simp only [ho, resolve, invoke, builtin, Sem.run_bind, Sem.run_pure, Result.andThen_ok, List.map_toArray, List.map_cons, List.map_nil, hs, hx, hr]
  exact h v' w' h2 h3 h5
/-- A row of items is items. -/
theorem row_itsR {w : World} {base : Nat} {v : Value} {A : List IC} {D : Nat → Prop} (hrow : w.ownsRow base 25 3 v A.length (icL A)) (hit : ∀ f ∈ A, ItV w D f.sb f.si f.x) (hD : ∀ b, v.ownBlock = some b → D b) (hl : A.length * 56 ≤ 140737488355328) : ItsV w D v (A.map IC.x) := by
  have hmap : ∀ i x, (A.map IC.x)[i]? = some x → ∃ f : IC, A[i]? = some f ∧ f.x = x := fun i x hx => by
    rw [List.getElem?_map] at hx
    cases hf : A[i]? with
    | none => rw [hf] at hx; cases hx
    | some f => rw [hf] at hx; injection hx with hx; exact ⟨f, hf, hx⟩
  have hitv : ∀ i x, (A.map IC.x)[i]? = some x → ∃ f : IC, A[i]? = some f ∧ f.x = x ∧ ItV w D f.sb f.si f.x := fun i x hx => by
    obtain ⟨f, hf, e⟩ := hmap i x hx
    exact ⟨f, hf, e, hit f (List.mem_of_getElem? hf)⟩
  have hlen : (A.map IC.x).length = A.length := by simp
  obtain ⟨a, cap, hv, q1, q2, q3, q4⟩ := row_cap hrow
  have hcells : ∀ g, v.ownBlock = some g → ∀ i f, A[i]? = some f → ∀ j u, (icC f)[j]? = some u → w.cell? ⟨g, 0 + i * 3 + j, none⟩ = some u := fun g hg i f hf j u hu => by
    have h3 : j < 3 := by
      have := (List.getElem?_eq_some_iff.1 hu).1
      simpa [icC] using this
    have := hrow.cells hg (i * 3 + j) u (by rw [icL_at A i f hf j h3]; exact hu)
    rw [Addr.add_lit, ← Nat.add_assoc] at this
    exact this
  subst hv
  have hex : ∃ g, 0 < A.length → a = some ⟨g, 0, none⟩ := by
    by_cases h0 : 0 < A.length
    · cases a with
      | none => have := q3 rfl; omega
      | some ad => obtain ⟨g, hg⟩ := q4 ad rfl; exact ⟨g, fun _ => by rw [hg]⟩
    · exact ⟨0, fun h => absurd h h0⟩
  obtain ⟨g, hg⟩ := hex
  have hA : ∀ i f, A[i]? = some f → 0 < A.length := fun i f hf => by have := (List.getElem?_eq_some_iff.1 hf).1; omega
  have hob : ∀ i f, A[i]? = some f → (Value.slice a A.length cap).ownBlock = some g := fun i f hf => by rw [hg (hA i f hf)]; rfl
  have := ItsV.mk (w := w) (D := D) (A.map IC.x) a cap g 0 (fun i => ((A[i]?).map IC.sb).getD .nilIface) (fun i => ((A[i]?).map IC.si).getD .nilIface) (by rw [hlen]; exact q1) q2 (by rw [hlen]; exact hl)
    (fun h0 => hg (by rw [hlen] at h0; exact h0)) (fun h0 => by
      rw [hlen] at h0
      exact hD g (by rw [hg h0]; rfl))
    (fun i x hx => by obtain ⟨f, hf, rfl⟩ := hmap i x hx; exact hcells g (hob i f hf) i f hf 0 _ rfl)
    (fun i x hx => by obtain ⟨f, hf, rfl⟩ := hmap i x hx; rw [hf]; exact hcells g (hob i f hf) i f hf 1 _ rfl)
    (fun i x hx => by obtain ⟨f, hf, rfl⟩ := hmap i x hx; rw [hf]; exact hcells g (hob i f hf) i f hf 2 _ rfl)
    (fun i x hx => by obtain ⟨f, hf, rfl, hv⟩ := hitv i x hx; rw [hf]; exact hv.b)
    (fun i x hx => by obtain ⟨f, hf, rfl, hv⟩ := hitv i x hx; rw [hf]; exact hv.xs)
  rw [hlen] at this
  exact this
theorem setCell_b1R {w : World} {b : Nat} {x y z z' : Value} (h : w.heap[b]? = some (.cells #[x, y, z] 25)) : (w.setCell ⟨b, 2, none⟩ z').heap[b]? = some (.cells #[x, y, z'] 25) := heap_setCell_same _ b 2 _ 25 z' h
/-- Within the rounds of Own. -/
structure OJR (w W : World) (D : Nat → Prop) (l : Bool) (sb si : Value) (A : List IC) (v : Value) (t : TypeId) : Prop where
  b0 : W.heap[w.heap.size]? = some (.cells #[.bool l, sb, si] t)
  b1 : W.heap[w.heap.size + 1]? = some (.cells #[.bool false, .slice none 0 0, .slice none 0 0] 25)
  b2 : W.heap[w.heap.size + 1 + 1]? = some (.cells #[.bool l, sb, v] 25)
  row : W.ownsRow (w.heap.size + 3) 25 3 v A.length (icL A)
  it : ∀ f ∈ A, ItV W (fun b => (D b ∨ w.heap.size + 3 ≤ b) ∧ b < W.heap.size ∧ v.ownBlock ≠ some b) f.sb f.si f.x
  bl : Below w.heap.size w W
  dl : ∀ b, D b → b < w.heap.size
theorem OJR.size {w W : World} {D : Nat → Prop} {l : Bool} {sb si v : Value} {A : List IC} {t : TypeId} (h : OJR w W D l sb si A v t) : w.heap.size + 3 ≤ W.heap.size := by
  have := heap_lt h.b2
  omega
theorem OJR.below {w W W2 : World} {D : Nat → Prop} {l : Bool} {sb si v : Value} {A : List IC} {t : TypeId} (h : OJR w W D l sb si A v t) (hb : Below W.heap.size W W2) : OJR w W2 D l sb si A v t := by
  have hs := h.size
  exact ⟨(hb.block _ (by omega)).trans h.b0, (hb.block _ (by omega)).trans h.b1, (hb.block _ (by omega)).trans h.b2, ownsRow_heap h.row (fun b hb' => hb.block b (h.row.lt b hb').2), fun f hf => (h.it f hf).mono (fun b hb' => hb.block b hb'.2.1) (fun b hb' => ⟨hb'.1, Nat.lt_of_lt_of_le hb'.2.1 hb.size, hb'.2.2⟩), h.bl.trans (hb.mono h.bl.size), h.dl⟩
/-- One item more: it was appended, then the variable is stored. -/
theorem OJR.step {w V V2 : World} {D : Nat → Prop} {l : Bool} {sb si v v' : Value} {A : List IC} {f : IC} {t : TypeId} (h : OJR w V D l sb si A v t) (hg : V.grownBy V2 v.ownBlock) (hrow : V2.ownsRow (w.heap.size + 3) 25 3 v' (A.length + 1) (icL (A ++ [f]))) (hv : v'.ownBlock = v.ownBlock ∨ v'.ownBlock = some V.heap.size)
    (hf : ItV V (fun b => (D b ∨ w.heap.size + 3 ≤ b) ∧ b < V.heap.size ∧ v.ownBlock ≠ some b) f.sb f.si f.x) : OJR w (V2.setCell ⟨w.heap.size + 1 + 1, 2, none⟩ v') D l sb si (A ++ [f]) v' t := by
  have hs := h.size
  have hvl : ∀ b, v.ownBlock = some b → w.heap.size + 3 ≤ b := fun b hb' => (h.row.lt b hb').1
  have k2 : ∀ b, b < V.heap.size → v.ownBlock ≠ some b → V2.heap[b]? = V.heap[b]? := fun b h1 h2 => hg.block b h1 (fun e => h2 e.symm)
  have hlow : ∀ b, b < w.heap.size + 3 → V2.heap[b]? = V.heap[b]? := fun b hb' => k2 b (by omega) (fun e => by have := hvl b e; omega)
  have k4 : ∀ b, b ≠ w.heap.size + 1 + 1 → (V2.setCell ⟨w.heap.size + 1 + 1, 2, none⟩ v').heap[b]? = V2.heap[b]? := fun b hb' => Below.heap_setCell _ _ _ _ hb'
  have hsz : (V2.setCell ⟨w.heap.size + 1 + 1, 2, none⟩ v').heap.size = V2.heap.size := by simp
  have hsv : V.heap.size ≤ V2.heap.size := hg.size
  have hit : ∀ f' : IC, ItV V (fun b => (D b ∨ w.heap.size + 3 ≤ b) ∧ b < V.heap.size ∧ v.ownBlock ≠ some b) f'.sb f'.si f'.x → ItV (V2.setCell ⟨w.heap.size + 1 + 1, 2, none⟩ v') (fun b => (D b ∨ w.heap.size + 3 ≤ b) ∧ b < (V2.setCell ⟨w.heap.size + 1 + 1, 2, none⟩ v').heap.size ∧ v'.ownBlock ≠ some b) f'.sb f'.si f'.x := fun f' hf' => by
    refine hf'.mono (fun b hb' => ?_) (fun b hb' => ⟨hb'.1, by rw [hsz]; omega, fun e => ?_⟩)
    · rw [k4 b (by rcases hb'.1 with h9 | h9; (have := h.dl b h9; omega); omega), k2 b hb'.2.1 hb'.2.2]
    · rcases hv with hv | hv
      · rw [hv] at e; exact hb'.2.2 e
      · rw [hv] at e; injection e with e; omega
  refine ⟨(k4 _ (by omega)).trans ((hlow _ (by omega)).trans h.b0), (k4 _ (by omega)).trans ((hlow _ (by omega)).trans h.b1), setCell_b1R ((hlow _ (by omega)).trans h.b2), ?_, ?_, ?_, h.dl⟩
  · rw [List.length_append]
    exact ownsRow_heap hrow (fun b hb' => k4 b (by have := (hrow.lt b hb').1; omega))
  · intro f' hf'
    rcases List.mem_append.1 hf' with h9 | h9
    · exact hit f' (h.it f' h9)
    · obtain rfl := List.mem_singleton.1 h9
      exact hit f' hf
  · exact (h.bl.grown hg (by omega) (fun b hb' => by have := hvl b hb'; omega)).setCell (p := ⟨w.heap.size + 1 + 1, 2, none⟩) (by show w.heap.size ≤ w.heap.size + 1 + 1; omega) _
set_option maxRecDepth 100000 in
set_option maxHeartbeats 16000000 in
theorem theirs_any (x : Tr) : ∀ (w : World) (sb si : Value) (D : Nat → Prop), ItV w D sb si x → (∀ b, D b → b < w.heap.size) →
    Calls Try.prog 18 #[.agg #[.bool x.l, sb, si]] w fun e w' => Below w.heap.size w w' ∧ ∃ si', e = .returned (.agg #[.bool x.l, sb, si']) ∧ ItV w' (fun b => b < w'.heap.size ∧ (D b ∨ w.heap.size ≤ b)) sb si' x := by
  induction x using Tr.ind with
  | h l b xs ih =>
    intro w sb si D h hD
    obtain ⟨ab, cb, rfl⟩ : ∃ a cap, sb = .slice a b.length cap := h.b.is.form
    obtain ⟨ai, ci, rfl, i1, i2, i3⟩ : ∃ a cap, si = .slice a xs.length cap ∧ xs.length ≤ cap ∧ cap ≤ 9223372036854775807 ∧ xs.length * 56 ≤ 140737488355328 := h.xs.form
    show Calls Try.prog 18 #[.agg #[.bool l, .slice ab b.length cb, .slice ai xs.length ci]] w _
    have HI : Hid (ItV w D (.slice ab b.length cb) (.slice ai xs.length ci) (.mk l b xs)) := h
    have HD : Hid (∀ b, D b → b < w.heap.size) := hD
    have IH : Hid _ := ih
    obtain ⟨n, hn⟩ : ∃ n, n = xs.length := ⟨_, rfl⟩
    obtain ⟨m, hm⟩ : ∃ m, m = b.length := ⟨_, rfl⟩
    rw [← hn, ← hm] at HI
    rw [← hn, ← hm]
    rw [← hn] at i1 i3
    have HN : Hid (n = xs.length ∧ m = b.length) := ⟨hn, hm⟩
    clear h hD ih hn hm
    have hlt : n * 56 ≤ 140737488355328 := i3
    have hW := allocs_heap [Obj.cells #[.bool l, .slice ab m cb, .slice ai n ci] 31, .cells #[.bool false, .slice none 0 0, .slice none 0 0] 25, .cells #[.bool l, .slice ab m cb, .slice none 0 0] 25] w
    have hB := allocs_below [Obj.cells #[.bool l, .slice ab m cb, .slice ai n ci] 31, .cells #[.bool false, .slice none 0 0, .slice none 0 0] 25, .cells #[.bool l, .slice ab m cb, .slice none 0 0] 25] w
    have h0 : OJR w (((w.alloc (.cells #[.bool l, .slice ab m cb, .slice ai n ci] 31)).alloc (.cells #[.bool false, .slice none 0 0, .slice none 0 0] 25)).alloc (.cells #[.bool l, .slice ab m cb, .slice none 0 0] 25)) D l (.slice ab m cb) (.slice ai n ci) [] (.slice none 0 0) 31 := ⟨hW 0 _ rfl, hW 1 _ rfl, hW 2 _ rfl, World.ownsRow_nil _ _ _ _, fun f hf => (by cases hf), hB, HD.out⟩
    have H0 : Hid _ := h0
    clear hW hB h0
    go_enter Try.func18, Try.ntmps18
    go_wp2_with fail
    go_loopw [4] (fun i wr => ∃ (j : Nat) (A : List IC) (v : Value), j ≤ n ∧ i = .int .i64 j ∧ OJR w wr D l (.slice ab m cb) (.slice ai n ci) A v 31 ∧ A.map IC.x = xs.take j) (fun i _ => n - (intOf i).toNat)
    case atStart => exact ⟨0, [], _, Nat.zero_le _, rfl, H0.out, by simp⟩
    case round =>
      obtain ⟨j, A, v, hj, rfl, hJ, hA⟩ := hrel
      obtain ⟨av, cv, hv⟩ := row_form hJ.row
      subst hv
      have hAl : A.length = j := by have := congrArg List.length hA; rw [List.length_map, List.length_take, ← HN.out.1] at this; omega
      have e0 : wr.cell? ⟨w.heap.size, 2, none⟩ = some (.slice ai n ci) := (cell_of_block hJ.b0 2).trans rfl
      by_cases hjl : j < n
      · obtain ⟨y, hy⟩ : ∃ y, xs[j]? = some y := ⟨_, List.getElem?_eq_getElem (by have := HN.out.1; omega)⟩
        obtain ⟨g, o, sb', si', rfl, hDg, c0, c1, c2, hbb, hii⟩ := HI.out.xs.at hy
        obtain ⟨ab', cb', rfl⟩ := hbb.is.form
        obtain ⟨ai', ci', rfl, j1, j2, j3⟩ := hii.form
        have hgl := HD.out g hDg
        have HR2 : Hid (g < w.heap.size) := hgl
        have c0 : wr.cell? ⟨g, o + j * 3, none⟩ = some (.bool y.l) := (hJ.bl.cell (p := ⟨g, o + j * 3, none⟩) hgl).trans c0
        have c1 : wr.cell? ⟨g, o + j * 3 + 1, none⟩ = some (.slice ab' y.b.length cb') := (hJ.bl.cell (p := ⟨g, o + j * 3 + 1, none⟩) hgl).trans c1
        have c2 : wr.cell? ⟨g, o + j * 3 + 2, none⟩ = some (.slice ai' y.xs.length ci') := (hJ.bl.cell (p := ⟨g, o + j * 3 + 2, none⟩) hgl).trans c2
        obtain ⟨yl, hyl⟩ : ∃ yl, yl = y.l := ⟨_, rfl⟩
        obtain ⟨yn, hyn⟩ : ∃ yn, yn = y.b.length := ⟨_, rfl⟩
        obtain ⟨ym, hym⟩ : ∃ ym, ym = y.xs.length := ⟨_, rfl⟩
        obtain ⟨q, hq⟩ : ∃ q, q = A.length := ⟨_, rfl⟩
        rw [← hyl] at c0
        rw [← hyn] at c1
        rw [← hym] at c2
        have hyv : ItV wr.drew D (.slice ab' y.b.length cb') (.slice ai' y.xs.length ci') y := ItV.mono ⟨hbb, hii⟩ (fun b hb' => hJ.bl.block b (HD.out b hb')) (fun _ h => h)
        have hdd : ∀ b, D b → b < wr.drew.heap.size := fun b hb' => Nat.lt_of_lt_of_le (HD.out b hb') hJ.bl.size
        have HR : Hid (xs[j]? = some y ∧ OJR w wr D l (.slice ab m cb) (.slice (some ⟨g, o, none⟩) n ci) A (.slice av q cv) 31 ∧ (wr.cell? ⟨g, o + j * 3, none⟩ = some (.bool yl) ∧ wr.cell? ⟨g, o + j * 3 + 1, none⟩ = some (.slice ab' yn cb') ∧ wr.cell? ⟨g, o + j * 3 + 2, none⟩ = some (.slice ai' ym ci')) ∧ ItV wr.drew D (.slice ab' y.b.length cb') (.slice ai' y.xs.length ci') y ∧ (∀ b, D b → b < wr.drew.heap.size)) := ⟨hy, by rw [hq]; exact hJ, ⟨c0, c1, c2⟩, hyv, hdd⟩
        have HY : Hid (yl = y.l ∧ yn = y.b.length ∧ ym = y.xs.length) := ⟨hyl, hyn, hym⟩
        have HA : Hid (A.map IC.x = xs.take j ∧ A.length = j) := ⟨hA, hAl⟩
        have HQ : Hid ((A.length + 1) * 56 ≤ 140737488355328) := by show _ ≤ _; omega
        have hki : (j : Int) < n := by omega
        clear hy hJ hA hAl hbb hii hDg hyl hyn hym hyv hdd c0 c1 c2 hq j1 j2 j3 hgl H0
        go_wp2_with fail
        have hS0 : (fun w' => w'.heap[w.heap.size]? = some (.cells #[.bool l, .slice ab m cb, .slice (some ⟨g, o, none⟩) n ci] 31) ∧ w'.cell? ⟨g, o + j * 3, none⟩ = some (.bool yl) ∧ w'.cell? ⟨g, o + j * 3 + 1, none⟩ = some (.slice ab' yn cb') ∧ w'.cell? ⟨g, o + j * 3 + 2, none⟩ = some (.slice ai' ym ci')) wr.drew := ⟨HR.out.2.1.b0, HR.out.2.2.1⟩
        have e1 : wr.drew.cell? ⟨w.heap.size + 1 + 1, 2, none⟩ = some (.slice av q cv) := (cell_of_block (w := wr.drew) HR.out.2.1.b2 2).trans rfl
        refine wp_noP ?_
        refine wp_region_held_drew (S := (fun w' => w'.heap[w.heap.size]? = some (.cells #[.bool l, .slice ab m cb, .slice (some ⟨g, o, none⟩) n ci] 31) ∧ w'.cell? ⟨g, o + j * 3, none⟩ = some (.bool yl) ∧ w'.cell? ⟨g, o + j * 3 + 1, none⟩ = some (.slice ab' yn cb') ∧ w'.cell? ⟨g, o + j * 3 + 2, none⟩ = some (.slice ai' ym ci'))) (by kernel_rfl) hS0 (fun hHeld => ?_)
        refine wpAnyH_take (i := 0) (v := .pointer (some ⟨w.heap.size + 1 + 1, 2, none⟩)) rfl (by kernel_rfl) (by kernel_rfl) (by kernel_rfl) (fun _ _ _ h => h) (Or.inl ⟨by rfl, fun w9 hSw => ?_⟩) hHeld ?_
        · go_simp
        simp only [List.getElem_toArray, List.getElem_cons_succ, List.getElem_cons_zero, Act.put, List.setIfInBounds_toArray, List.set_cons_zero, List.set_cons_succ]
        refine wpAnyH_take (i := 2) (v := .pointer (some ⟨w.heap.size, 2, none⟩)) rfl (by kernel_rfl) (by kernel_rfl) (by kernel_rfl) (fun _ _ _ h => h) (Or.inl ⟨by rfl, fun w9 hSw => ?_⟩) hHeld ?_
        · go_simp
        simp only [List.getElem_toArray, List.getElem_cons_succ, List.getElem_cons_zero, Act.put, List.setIfInBounds_toArray, List.set_cons_zero, List.set_cons_succ]
        refine wpAnyH_take (i := 3) (v := .slice (some ⟨g, o, none⟩) n ci) rfl (by kernel_rfl) (by kernel_rfl) (by kernel_rfl) (fun _ _ _ h => h) (Or.inl ⟨by rfl, fun w9 hSw => ?_⟩) hHeld ?_
        · have h2 : w9.cell? ⟨w.heap.size, 2, none⟩ = some (.slice (some ⟨g, o, none⟩) n ci) := (cell_of_block hSw.1 2).trans rfl
          go_simp
        simp only [List.getElem_toArray, List.getElem_cons_succ, List.getElem_cons_zero, Act.put, List.setIfInBounds_toArray, List.set_cons_zero, List.set_cons_succ]
        refine wpAnyH_take (i := 4) (v := .int .i64 j) rfl (by kernel_rfl) (by kernel_rfl) (by kernel_rfl) (fun _ _ _ h => h) (Or.inl ⟨by rfl, fun w9 hSw => ?_⟩) hHeld ?_
        · go_simp
        simp only [List.getElem_toArray, List.getElem_cons_succ, List.getElem_cons_zero, Act.put, List.setIfInBounds_toArray, List.set_cons_zero, List.set_cons_succ]
        refine wpAnyH_take (i := 5) (v := .pointer (some ⟨g, o + j * 3, none⟩)) rfl (by kernel_rfl) (by kernel_rfl) (by kernel_rfl) (fun _ _ _ h => h) (Or.inl ⟨by rfl, fun w9 hSw => ?_⟩) hHeld ?_
        · go_simp
        simp only [List.getElem_toArray, List.getElem_cons_succ, List.getElem_cons_zero, Act.put, List.setIfInBounds_toArray, List.set_cons_zero, List.set_cons_succ]
        refine wpAnyH_take (i := 6) (v := .agg #[.bool yl, .slice ab' yn cb', .slice ai' ym ci']) rfl (by kernel_rfl) (by kernel_rfl) (by kernel_rfl) (fun _ _ _ h => h) (Or.inl ⟨by rfl, fun w9 hSw => ?_⟩) hHeld ?_
        · have h0 := hSw.2.1
          have h1 := hSw.2.2.1
          have h2 := hSw.2.2.2
          go_simp
        simp only [List.getElem_toArray, List.getElem_cons_succ, List.getElem_cons_zero, Act.put, List.setIfInBounds_toArray, List.set_cons_zero, List.set_cons_succ]
        refine wpAnyH_ready (rs := [1, 7]) (by kernel_rfl) (by simp) ?_
        refine AllReadyH.cons rfl (fun K hK => ?_) (AllReadyH.cons rfl (fun K hK => ?_) AllReadyH.nil)
        · go_simp
          refine hK.out _ _ hHeld (fun hHeld => ?_)
          clear hK K
          try simp only [List.getElem_toArray, List.getElem_cons_succ, List.getElem_cons_zero, Act.put, List.setIfInBounds_toArray, List.set_cons_zero, List.set_cons_succ]
          refine wpAnyH_ready (rs := [7]) (by kernel_rfl) (by simp) ?_
          refine AllReadyH.cons rfl (fun K hK => ?_) AllReadyH.nil
          have hC := IH.out y (List.mem_of_getElem? HR.out.1) wr.drew (.slice ab' y.b.length cb') (.slice ai' y.xs.length ci') D HR.out.2.2.2.1 HR.out.2.2.2.2
          rw [← HY.out.1, ← HY.out.2.1, ← HY.out.2.2] at hC
          go_simp
          refine Calls.mono hC ?_
          clear hC
          rintro e w2 ⟨hb2, si', rfl, hit2⟩
          have hJ2 := HR.out.2.1.below (W2 := w2) ⟨hb2.os, hb2.tape, hb2.output, hb2.size, hb2.block⟩
          have hS2 : (fun w' => w'.heap[w.heap.size]? = some (.cells #[.bool l, .slice ab m cb, .slice (some ⟨g, o, none⟩) n ci] 31) ∧ w'.cell? ⟨g, o + j * 3, none⟩ = some (.bool yl) ∧ w'.cell? ⟨g, o + j * 3 + 1, none⟩ = some (.slice ab' yn cb') ∧ w'.cell? ⟨g, o + j * 3 + 2, none⟩ = some (.slice ai' ym ci')) w2 := ⟨hJ2.b0, (hb2.cell (cell_lt hHeld.2.1)).trans hHeld.2.1, (hb2.cell (cell_lt hHeld.2.2.1)).trans hHeld.2.2.1, (hb2.cell (cell_lt hHeld.2.2.2)).trans hHeld.2.2.2⟩
          obtain ⟨a9, c9, rfl, -⟩ := hit2.xs.form
          obtain ⟨yk, hyk⟩ : ∃ yk, yk = y.xs.length := ⟨_, rfl⟩
          rw [← hyk] at hit2 ⊢
          have e2 : w2.cell? ⟨w.heap.size + 1 + 1, 2, none⟩ = some (.slice av q cv) := (cell_of_block hJ2.b2 2).trans rfl
          have hvr : ∀ b, (Value.slice av q cv).ownBlock = some b → w.heap.size + 3 ≤ b ∧ b < wr.heap.size := fun b hb => HR.out.2.1.row.lt b hb
          have hit3 : ItV w2 (fun b => (D b ∨ w.heap.size + 3 ≤ b) ∧ b < w2.heap.size ∧ (Value.slice av q cv).ownBlock ≠ some b) (.slice ab' yn cb') (.slice a9 yk c9) y := by
            refine hit2.mono (fun _ _ => rfl) (fun b hb => ⟨?_, hb.1, fun e => ?_⟩)
            · rcases hb.2 with h | h
              · exact Or.inl h
              · exact Or.inr (by have := HR.out.2.1.size; have : wr.drew.heap.size = wr.heap.size := rfl; omega)
            · have h8 := hvr b e
              rcases hb.2 with h | h
              · have := HD.out b h; omega
              · have : wr.drew.heap.size = wr.heap.size := rfl; omega
          have H2 : Hid (OJR w w2 D l (.slice ab m cb) (.slice (some ⟨g, o, none⟩) n ci) A (.slice av q cv) 31 ∧ ItV w2 (fun b => (D b ∨ w.heap.size + 3 ≤ b) ∧ b < w2.heap.size ∧ (Value.slice av q cv).ownBlock ≠ some b) (.slice ab' yn cb') (.slice a9 yk c9) y) := ⟨hJ2, hit3⟩
          clear hb2 hit2 hit3 hJ2 hvr hyk
          refine hK.out _ _ hS2 (fun hHeld => ?_)
          clear hK K
          try simp only [List.getElem_toArray, List.getElem_cons_succ, List.getElem_cons_zero, Act.put, List.setIfInBounds_toArray, List.set_cons_zero, List.set_cons_succ]
          refine wpAnyH_ready (rs := [8]) (by kernel_rfl) (by simp) ?_
          refine AllReadyH.cons rfl (fun K hK => ?_) AllReadyH.nil
          go_simp
          have hB : Below w2.heap.size w2 (w2.alloc (.cells #[.bool yl, .slice ab' yn cb', .slice a9 yk c9] 25)) := by go_grown
          have hS3 : (fun w' => w'.heap[w.heap.size]? = some (.cells #[.bool l, .slice ab m cb, .slice (some ⟨g, o, none⟩) n ci] 31) ∧ w'.cell? ⟨g, o + j * 3, none⟩ = some (.bool yl) ∧ w'.cell? ⟨g, o + j * 3 + 1, none⟩ = some (.slice ab' yn cb') ∧ w'.cell? ⟨g, o + j * 3 + 2, none⟩ = some (.slice ai' ym ci')) (w2.alloc (.cells #[.bool yl, .slice ab' yn cb', .slice a9 yk c9] 25)) := ⟨(hB.block _ (heap_lt hHeld.1)).trans hHeld.1, (hB.cell (cell_lt hHeld.2.1)).trans hHeld.2.1, (hB.cell (cell_lt hHeld.2.2.1)).trans hHeld.2.2.1, (hB.cell (cell_lt hHeld.2.2.2)).trans hHeld.2.2.2⟩
          have e3 : (w2.alloc (.cells #[.bool yl, .slice ab' yn cb', .slice a9 yk c9] 25)).cell? ⟨w.heap.size + 1 + 1, 2, none⟩ = some (.slice av q cv) := (cell_of_block (H2.out.1.below hB).b2 2).trans rfl
          have H3 : Hid (OJR w (w2.alloc (.cells #[.bool yl, .slice ab' yn cb', .slice a9 yk c9] 25)) D l (.slice ab m cb) (.slice (some ⟨g, o, none⟩) n ci) A (.slice av q cv) 31 ∧ (w2.alloc (.cells #[.bool yl, .slice ab' yn cb', .slice a9 yk c9] 25)).heap[w2.heap.size]? = some (.cells #[.bool yl, .slice ab' yn cb', .slice a9 yk c9] 25) ∧ ItV (w2.alloc (.cells #[.bool yl, .slice ab' yn cb', .slice a9 yk c9] 25)) (fun b => (D b ∨ w.heap.size + 3 ≤ b) ∧ b < (w2.alloc (.cells #[.bool yl, .slice ab' yn cb', .slice a9 yk c9] 25)).heap.size ∧ (Value.slice av q cv).ownBlock ≠ some b) (.slice ab' yn cb') (.slice a9 yk c9) y) := ⟨H2.out.1.below hB, heap_alloc_new _ _, H2.out.2.mono (fun b hb => hB.block b hb.2.1) (fun b hb => ⟨hb.1, Nat.lt_of_lt_of_le hb.2.1 hB.size, hb.2.2⟩)⟩
          obtain ⟨gz, hgz⟩ : ∃ gz, gz = w2.heap.size := ⟨_, rfl⟩
          rw [← hgz] at H3 ⊢
          clear hB hgz
          refine hK.out _ _ hS3 (fun hHeld => ?_)
          clear hK K
          try simp only [List.getElem_toArray, List.getElem_cons_succ, List.getElem_cons_zero, Act.put, List.setIfInBounds_toArray, List.set_cons_zero, List.set_cons_succ]
          generalize w2.alloc (.cells #[.bool yl, .slice ab' yn cb', .slice a9 yk c9] 25) = w3 at H3 hHeld e3 hS3 ⊢
          refine wpAnyH_ready (rs := [9]) (by kernel_rfl) (by simp) ?_
          refine AllReadyH.cons rfl (fun K hK => ?_) AllReadyH.nil
          refine step_append_itR (by rfl) _ _ (by rfl) (base := w.heap.size + 3) (v := .slice av q cv) (A := A) ⟨y, .slice ab' yn cb', .slice a9 yk c9⟩ ⟨_, _, _, rfl⟩ ⟨_, _, _, rfl⟩ (by rfl) H3.out.1.row gz (by rfl) (by rw [← HY.out.1]; exact H3.out.2.1) (by have := HQ.out; omega) (by have := H3.out.1.size; omega) ?_
          intro v' V2 ho hg ha
          obtain ⟨av', cv', rfl⟩ := row_form ho
          have hlv : ∀ b, (Value.slice av q cv).ownBlock = some b → w.heap.size + 3 ≤ b := fun b hb => (H3.out.1.row.lt b hb).1
          have hk : ∀ b, b < w3.heap.size → (b < w.heap.size + 3) → V2.heap[b]? = w3.heap[b]? := fun b h1 h2 => hg.block b h1 (fun e => by have := hlv b e.symm; omega)
          have hs3 := H3.out.1.size
          have hgl : g < w.heap.size := HR2.out
          have hS4 : (fun w' => w'.heap[w.heap.size]? = some (.cells #[.bool l, .slice ab m cb, .slice (some ⟨g, o, none⟩) n ci] 31) ∧ w'.cell? ⟨g, o + j * 3, none⟩ = some (.bool yl) ∧ w'.cell? ⟨g, o + j * 3 + 1, none⟩ = some (.slice ab' yn cb') ∧ w'.cell? ⟨g, o + j * 3 + 2, none⟩ = some (.slice ai' ym ci')) V2 := ⟨(hk _ (by omega) (by omega)).trans hHeld.1, (World.cell?_of_block (a := ⟨g, o + j * 3, none⟩) (hk g (by omega) (by omega))).trans hHeld.2.1, (World.cell?_of_block (a := ⟨g, o + j * 3 + 1, none⟩) (hk g (by omega) (by omega))).trans hHeld.2.2.1, (World.cell?_of_block (a := ⟨g, o + j * 3 + 2, none⟩) (hk g (by omega) (by omega))).trans hHeld.2.2.2⟩
          have hb2 : V2.heap[w.heap.size + 1 + 1]? = some (.cells #[.bool l, .slice ab m cb, .slice av q cv] 25) := (hk _ (by omega) (by omega)).trans H3.out.1.b2
          have x0 : V2.cell? ⟨w.heap.size + 1 + 1, 2, none⟩ = some (.slice av q cv) := (cell_of_block hb2 2).trans rfl
          have xz : V2.frozen? ⟨w.heap.size + 1 + 1, 2, none⟩ = false := unfrozen_of_block hb2 2
          obtain ⟨q', hq'⟩ : ∃ q', q' = A.length + 1 := ⟨_, rfl⟩
          have H4 : Hid (OJR w (V2.setCell ⟨w.heap.size + 1 + 1, 2, none⟩ (.slice av' q' cv')) D l (.slice ab m cb) (.slice (some ⟨g, o, none⟩) n ci) (A ++ [⟨y, .slice ab' yn cb', .slice a9 yk c9⟩]) (.slice av' q' cv') 31) := by rw [hq']; exact H3.out.1.step hg ho ha H3.out.2.2
          rw [← hq']
          clear ho hg ha hlv hk hb2 hq' hs3
          refine hK.out _ _ hS4 (fun hHeld => ?_)
          clear hK K
          try simp only [List.getElem_toArray, List.getElem_cons_succ, List.getElem_cons_zero, Act.put, List.setIfInBounds_toArray, List.set_cons_zero, List.set_cons_succ]
          refine wpAnyH_take (i := 10) (v := .pointer (some ⟨w.heap.size + 1 + 1, 2, none⟩)) rfl (by kernel_rfl) (by kernel_rfl) (by kernel_rfl) (fun _ _ _ h => h) (Or.inl ⟨by rfl, fun w9 hSw => ?_⟩) hHeld ?_
          · go_simp
          simp only [List.getElem_toArray, List.getElem_cons_succ, List.getElem_cons_zero, Act.put, List.setIfInBounds_toArray, List.set_cons_zero, List.set_cons_succ]
          refine wpAnyH_ready (rs := [11]) (by kernel_rfl) (by simp) ?_
          refine AllReadyH.cons rfl (fun K hK => ?_) AllReadyH.nil
          go_simp
          have hS5 : (fun w' => w'.heap[w.heap.size]? = some (.cells #[.bool l, .slice ab m cb, .slice (some ⟨g, o, none⟩) n ci] 31) ∧ w'.cell? ⟨g, o + j * 3, none⟩ = some (.bool yl) ∧ w'.cell? ⟨g, o + j * 3 + 1, none⟩ = some (.slice ab' yn cb') ∧ w'.cell? ⟨g, o + j * 3 + 2, none⟩ = some (.slice ai' ym ci')) (V2.setCell ⟨w.heap.size + 1 + 1, 2, none⟩ (.slice av' q' cv')) := ⟨(Below.heap_setCell _ _ _ _ (by show w.heap.size ≠ w.heap.size + 1 + 1; omega)).trans hHeld.1, (World.cell?_setCell_far _ _ _ _ (by show w.heap.size + 1 + 1 ≠ g; have := HR2.out; omega)).trans hHeld.2.1, (World.cell?_setCell_far _ _ _ _ (by show w.heap.size + 1 + 1 ≠ g; have := HR2.out; omega)).trans hHeld.2.2.1, (World.cell?_setCell_far _ _ _ _ (by show w.heap.size + 1 + 1 ≠ g; have := HR2.out; omega)).trans hHeld.2.2.2⟩
          refine hK.out _ _ hS5 (fun hHeld => ?_)
          clear hK K
          try simp only [List.getElem_toArray, List.getElem_cons_succ, List.getElem_cons_zero, Act.put, List.setIfInBounds_toArray, List.set_cons_zero, List.set_cons_succ]
          refine wpAnyH_done (by kernel_rfl) ?_ _
          simp only [noP]
          go_wp2
          go_roundw
          case rel => exact ⟨j + 1, A ++ [⟨y, .slice ab' yn cb', .slice a9 yk c9⟩], _, by omega, by go_num, H4.out, by rw [List.map_append, HA.out.1, take_snoc HR.out.1]; rfl⟩
          case measure => simp [intOf]; omega
        · have hC := IH.out y (List.mem_of_getElem? HR.out.1) wr.drew (.slice ab' y.b.length cb') (.slice ai' y.xs.length ci') D HR.out.2.2.2.1 HR.out.2.2.2.2
          rw [← HY.out.1, ← HY.out.2.1, ← HY.out.2.2] at hC
          go_simp
          refine Calls.mono hC ?_
          clear hC
          rintro e w2 ⟨hb2, si', rfl, hit2⟩
          have hJ2 := HR.out.2.1.below (W2 := w2) ⟨hb2.os, hb2.tape, hb2.output, hb2.size, hb2.block⟩
          have hS2 : (fun w' => w'.heap[w.heap.size]? = some (.cells #[.bool l, .slice ab m cb, .slice (some ⟨g, o, none⟩) n ci] 31) ∧ w'.cell? ⟨g, o + j * 3, none⟩ = some (.bool yl) ∧ w'.cell? ⟨g, o + j * 3 + 1, none⟩ = some (.slice ab' yn cb') ∧ w'.cell? ⟨g, o + j * 3 + 2, none⟩ = some (.slice ai' ym ci')) w2 := ⟨hJ2.b0, (hb2.cell (cell_lt hHeld.2.1)).trans hHeld.2.1, (hb2.cell (cell_lt hHeld.2.2.1)).trans hHeld.2.2.1, (hb2.cell (cell_lt hHeld.2.2.2)).trans hHeld.2.2.2⟩
          obtain ⟨a9, c9, rfl, -⟩ := hit2.xs.form
          obtain ⟨yk, hyk⟩ : ∃ yk, yk = y.xs.length := ⟨_, rfl⟩
          rw [← hyk] at hit2 ⊢
          have e2 : w2.cell? ⟨w.heap.size + 1 + 1, 2, none⟩ = some (.slice av q cv) := (cell_of_block hJ2.b2 2).trans rfl
          have hvr : ∀ b, (Value.slice av q cv).ownBlock = some b → w.heap.size + 3 ≤ b ∧ b < wr.heap.size := fun b hb => HR.out.2.1.row.lt b hb
          have hit3 : ItV w2 (fun b => (D b ∨ w.heap.size + 3 ≤ b) ∧ b < w2.heap.size ∧ (Value.slice av q cv).ownBlock ≠ some b) (.slice ab' yn cb') (.slice a9 yk c9) y := by
            refine hit2.mono (fun _ _ => rfl) (fun b hb => ⟨?_, hb.1, fun e => ?_⟩)
            · rcases hb.2 with h | h
              · exact Or.inl h
              · exact Or.inr (by have := HR.out.2.1.size; have : wr.drew.heap.size = wr.heap.size := rfl; omega)
            · have h8 := hvr b e
              rcases hb.2 with h | h
              · have := HD.out b h; omega
              · have : wr.drew.heap.size = wr.heap.size := rfl; omega
          have H2 : Hid (OJR w w2 D l (.slice ab m cb) (.slice (some ⟨g, o, none⟩) n ci) A (.slice av q cv) 31 ∧ ItV w2 (fun b => (D b ∨ w.heap.size + 3 ≤ b) ∧ b < w2.heap.size ∧ (Value.slice av q cv).ownBlock ≠ some b) (.slice ab' yn cb') (.slice a9 yk c9) y) := ⟨hJ2, hit3⟩
          clear hb2 hit2 hit3 hJ2 hvr hyk
          refine hK.out _ _ hS2 (fun hHeld => ?_)
          clear hK K
          try simp only [List.getElem_toArray, List.getElem_cons_succ, List.getElem_cons_zero, Act.put, List.setIfInBounds_toArray, List.set_cons_zero, List.set_cons_succ]
          refine wpAnyH_ready (rs := [1, 8]) (by kernel_rfl) (by simp) ?_
          refine AllReadyH.cons rfl (fun K hK => ?_) (AllReadyH.cons rfl (fun K hK => ?_) AllReadyH.nil)
          · go_simp
            refine hK.out _ _ hHeld (fun hHeld => ?_)
            clear hK K
            try simp only [List.getElem_toArray, List.getElem_cons_succ, List.getElem_cons_zero, Act.put, List.setIfInBounds_toArray, List.set_cons_zero, List.set_cons_succ]
            refine wpAnyH_ready (rs := [8]) (by kernel_rfl) (by simp) ?_
            refine AllReadyH.cons rfl (fun K hK => ?_) AllReadyH.nil
            go_simp
            have hB : Below w2.heap.size w2 (w2.alloc (.cells #[.bool yl, .slice ab' yn cb', .slice a9 yk c9] 25)) := by go_grown
            have hS3 : (fun w' => w'.heap[w.heap.size]? = some (.cells #[.bool l, .slice ab m cb, .slice (some ⟨g, o, none⟩) n ci] 31) ∧ w'.cell? ⟨g, o + j * 3, none⟩ = some (.bool yl) ∧ w'.cell? ⟨g, o + j * 3 + 1, none⟩ = some (.slice ab' yn cb') ∧ w'.cell? ⟨g, o + j * 3 + 2, none⟩ = some (.slice ai' ym ci')) (w2.alloc (.cells #[.bool yl, .slice ab' yn cb', .slice a9 yk c9] 25)) := ⟨(hB.block _ (heap_lt hHeld.1)).trans hHeld.1, (hB.cell (cell_lt hHeld.2.1)).trans hHeld.2.1, (hB.cell (cell_lt hHeld.2.2.1)).trans hHeld.2.2.1, (hB.cell (cell_lt hHeld.2.2.2)).trans hHeld.2.2.2⟩
            have e3 : (w2.alloc (.cells #[.bool yl, .slice ab' yn cb', .slice a9 yk c9] 25)).cell? ⟨w.heap.size + 1 + 1, 2, none⟩ = some (.slice av q cv) := (cell_of_block (H2.out.1.below hB).b2 2).trans rfl
            have H3 : Hid (OJR w (w2.alloc (.cells #[.bool yl, .slice ab' yn cb', .slice a9 yk c9] 25)) D l (.slice ab m cb) (.slice (some ⟨g, o, none⟩) n ci) A (.slice av q cv) 31 ∧ (w2.alloc (.cells #[.bool yl, .slice ab' yn cb', .slice a9 yk c9] 25)).heap[w2.heap.size]? = some (.cells #[.bool yl, .slice ab' yn cb', .slice a9 yk c9] 25) ∧ ItV (w2.alloc (.cells #[.bool yl, .slice ab' yn cb', .slice a9 yk c9] 25)) (fun b => (D b ∨ w.heap.size + 3 ≤ b) ∧ b < (w2.alloc (.cells #[.bool yl, .slice ab' yn cb', .slice a9 yk c9] 25)).heap.size ∧ (Value.slice av q cv).ownBlock ≠ some b) (.slice ab' yn cb') (.slice a9 yk c9) y) := ⟨H2.out.1.below hB, heap_alloc_new _ _, H2.out.2.mono (fun b hb => hB.block b hb.2.1) (fun b hb => ⟨hb.1, Nat.lt_of_lt_of_le hb.2.1 hB.size, hb.2.2⟩)⟩
            obtain ⟨gz, hgz⟩ : ∃ gz, gz = w2.heap.size := ⟨_, rfl⟩
            rw [← hgz] at H3 ⊢
            clear hB hgz
            refine hK.out _ _ hS3 (fun hHeld => ?_)
            clear hK K
            try simp only [List.getElem_toArray, List.getElem_cons_succ, List.getElem_cons_zero, Act.put, List.setIfInBounds_toArray, List.set_cons_zero, List.set_cons_succ]
            generalize w2.alloc (.cells #[.bool yl, .slice ab' yn cb', .slice a9 yk c9] 25) = w3 at H3 hHeld e3 hS3 ⊢
            refine wpAnyH_ready (rs := [9]) (by kernel_rfl) (by simp) ?_
            refine AllReadyH.cons rfl (fun K hK => ?_) AllReadyH.nil
            refine step_append_itR (by rfl) _ _ (by rfl) (base := w.heap.size + 3) (v := .slice av q cv) (A := A) ⟨y, .slice ab' yn cb', .slice a9 yk c9⟩ ⟨_, _, _, rfl⟩ ⟨_, _, _, rfl⟩ (by rfl) H3.out.1.row gz (by rfl) (by rw [← HY.out.1]; exact H3.out.2.1) (by have := HQ.out; omega) (by have := H3.out.1.size; omega) ?_
            intro v' V2 ho hg ha
            obtain ⟨av', cv', rfl⟩ := row_form ho
            have hlv : ∀ b, (Value.slice av q cv).ownBlock = some b → w.heap.size + 3 ≤ b := fun b hb => (H3.out.1.row.lt b hb).1
            have hk : ∀ b, b < w3.heap.size → (b < w.heap.size + 3) → V2.heap[b]? = w3.heap[b]? := fun b h1 h2 => hg.block b h1 (fun e => by have := hlv b e.symm; omega)
            have hs3 := H3.out.1.size
            have hgl : g < w.heap.size := HR2.out
            have hS4 : (fun w' => w'.heap[w.heap.size]? = some (.cells #[.bool l, .slice ab m cb, .slice (some ⟨g, o, none⟩) n ci] 31) ∧ w'.cell? ⟨g, o + j * 3, none⟩ = some (.bool yl) ∧ w'.cell? ⟨g, o + j * 3 + 1, none⟩ = some (.slice ab' yn cb') ∧ w'.cell? ⟨g, o + j * 3 + 2, none⟩ = some (.slice ai' ym ci')) V2 := ⟨(hk _ (by omega) (by omega)).trans hHeld.1, (World.cell?_of_block (a := ⟨g, o + j * 3, none⟩) (hk g (by omega) (by omega))).trans hHeld.2.1, (World.cell?_of_block (a := ⟨g, o + j * 3 + 1, none⟩) (hk g (by omega) (by omega))).trans hHeld.2.2.1, (World.cell?_of_block (a := ⟨g, o + j * 3 + 2, none⟩) (hk g (by omega) (by omega))).trans hHeld.2.2.2⟩
            have hb2 : V2.heap[w.heap.size + 1 + 1]? = some (.cells #[.bool l, .slice ab m cb, .slice av q cv] 25) := (hk _ (by omega) (by omega)).trans H3.out.1.b2
            have x0 : V2.cell? ⟨w.heap.size + 1 + 1, 2, none⟩ = some (.slice av q cv) := (cell_of_block hb2 2).trans rfl
            have xz : V2.frozen? ⟨w.heap.size + 1 + 1, 2, none⟩ = false := unfrozen_of_block hb2 2
            obtain ⟨q', hq'⟩ : ∃ q', q' = A.length + 1 := ⟨_, rfl⟩
            have H4 : Hid (OJR w (V2.setCell ⟨w.heap.size + 1 + 1, 2, none⟩ (.slice av' q' cv')) D l (.slice ab m cb) (.slice (some ⟨g, o, none⟩) n ci) (A ++ [⟨y, .slice ab' yn cb', .slice a9 yk c9⟩]) (.slice av' q' cv') 31) := by rw [hq']; exact H3.out.1.step hg ho ha H3.out.2.2
            rw [← hq']
            clear ho hg ha hlv hk hb2 hq' hs3
            refine hK.out _ _ hS4 (fun hHeld => ?_)
            clear hK K
            try simp only [List.getElem_toArray, List.getElem_cons_succ, List.getElem_cons_zero, Act.put, List.setIfInBounds_toArray, List.set_cons_zero, List.set_cons_succ]
            refine wpAnyH_take (i := 10) (v := .pointer (some ⟨w.heap.size + 1 + 1, 2, none⟩)) rfl (by kernel_rfl) (by kernel_rfl) (by kernel_rfl) (fun _ _ _ h => h) (Or.inl ⟨by rfl, fun w9 hSw => ?_⟩) hHeld ?_
            · go_simp
            simp only [List.getElem_toArray, List.getElem_cons_succ, List.getElem_cons_zero, Act.put, List.setIfInBounds_toArray, List.set_cons_zero, List.set_cons_succ]
            refine wpAnyH_ready (rs := [11]) (by kernel_rfl) (by simp) ?_
            refine AllReadyH.cons rfl (fun K hK => ?_) AllReadyH.nil
            go_simp
            have hS5 : (fun w' => w'.heap[w.heap.size]? = some (.cells #[.bool l, .slice ab m cb, .slice (some ⟨g, o, none⟩) n ci] 31) ∧ w'.cell? ⟨g, o + j * 3, none⟩ = some (.bool yl) ∧ w'.cell? ⟨g, o + j * 3 + 1, none⟩ = some (.slice ab' yn cb') ∧ w'.cell? ⟨g, o + j * 3 + 2, none⟩ = some (.slice ai' ym ci')) (V2.setCell ⟨w.heap.size + 1 + 1, 2, none⟩ (.slice av' q' cv')) := ⟨(Below.heap_setCell _ _ _ _ (by show w.heap.size ≠ w.heap.size + 1 + 1; omega)).trans hHeld.1, (World.cell?_setCell_far _ _ _ _ (by show w.heap.size + 1 + 1 ≠ g; have := HR2.out; omega)).trans hHeld.2.1, (World.cell?_setCell_far _ _ _ _ (by show w.heap.size + 1 + 1 ≠ g; have := HR2.out; omega)).trans hHeld.2.2.1, (World.cell?_setCell_far _ _ _ _ (by show w.heap.size + 1 + 1 ≠ g; have := HR2.out; omega)).trans hHeld.2.2.2⟩
            refine hK.out _ _ hS5 (fun hHeld => ?_)
            clear hK K
            try simp only [List.getElem_toArray, List.getElem_cons_succ, List.getElem_cons_zero, Act.put, List.setIfInBounds_toArray, List.set_cons_zero, List.set_cons_succ]
            refine wpAnyH_done (by kernel_rfl) ?_ _
            simp only [noP]
            go_wp2
            go_roundw
            case rel => exact ⟨j + 1, A ++ [⟨y, .slice ab' yn cb', .slice a9 yk c9⟩], _, by omega, by go_num, H4.out, by rw [List.map_append, HA.out.1, take_snoc HR.out.1]; rfl⟩
            case measure => simp [intOf]; omega
          · go_simp
            have hB : Below w2.heap.size w2 (w2.alloc (.cells #[.bool yl, .slice ab' yn cb', .slice a9 yk c9] 25)) := by go_grown
            have hS3 : (fun w' => w'.heap[w.heap.size]? = some (.cells #[.bool l, .slice ab m cb, .slice (some ⟨g, o, none⟩) n ci] 31) ∧ w'.cell? ⟨g, o + j * 3, none⟩ = some (.bool yl) ∧ w'.cell? ⟨g, o + j * 3 + 1, none⟩ = some (.slice ab' yn cb') ∧ w'.cell? ⟨g, o + j * 3 + 2, none⟩ = some (.slice ai' ym ci')) (w2.alloc (.cells #[.bool yl, .slice ab' yn cb', .slice a9 yk c9] 25)) := ⟨(hB.block _ (heap_lt hHeld.1)).trans hHeld.1, (hB.cell (cell_lt hHeld.2.1)).trans hHeld.2.1, (hB.cell (cell_lt hHeld.2.2.1)).trans hHeld.2.2.1, (hB.cell (cell_lt hHeld.2.2.2)).trans hHeld.2.2.2⟩
            have e3 : (w2.alloc (.cells #[.bool yl, .slice ab' yn cb', .slice a9 yk c9] 25)).cell? ⟨w.heap.size + 1 + 1, 2, none⟩ = some (.slice av q cv) := (cell_of_block (H2.out.1.below hB).b2 2).trans rfl
            have H3 : Hid (OJR w (w2.alloc (.cells #[.bool yl, .slice ab' yn cb', .slice a9 yk c9] 25)) D l (.slice ab m cb) (.slice (some ⟨g, o, none⟩) n ci) A (.slice av q cv) 31 ∧ (w2.alloc (.cells #[.bool yl, .slice ab' yn cb', .slice a9 yk c9] 25)).heap[w2.heap.size]? = some (.cells #[.bool yl, .slice ab' yn cb', .slice a9 yk c9] 25) ∧ ItV (w2.alloc (.cells #[.bool yl, .slice ab' yn cb', .slice a9 yk c9] 25)) (fun b => (D b ∨ w.heap.size + 3 ≤ b) ∧ b < (w2.alloc (.cells #[.bool yl, .slice ab' yn cb', .slice a9 yk c9] 25)).heap.size ∧ (Value.slice av q cv).ownBlock ≠ some b) (.slice ab' yn cb') (.slice a9 yk c9) y) := ⟨H2.out.1.below hB, heap_alloc_new _ _, H2.out.2.mono (fun b hb => hB.block b hb.2.1) (fun b hb => ⟨hb.1, Nat.lt_of_lt_of_le hb.2.1 hB.size, hb.2.2⟩)⟩
            obtain ⟨gz, hgz⟩ : ∃ gz, gz = w2.heap.size := ⟨_, rfl⟩
            rw [← hgz] at H3 ⊢
            clear hB hgz
            refine hK.out _ _ hS3 (fun hHeld => ?_)
            clear hK K
            try simp only [List.getElem_toArray, List.getElem_cons_succ, List.getElem_cons_zero, Act.put, List.setIfInBounds_toArray, List.set_cons_zero, List.set_cons_succ]
            generalize w2.alloc (.cells #[.bool yl, .slice ab' yn cb', .slice a9 yk c9] 25) = w3 at H3 hHeld e3 hS3 ⊢
            refine wpAnyH_ready (rs := [1]) (by kernel_rfl) (by simp) ?_
            refine AllReadyH.cons rfl (fun K hK => ?_) AllReadyH.nil
            go_simp
            refine hK.out _ _ hHeld (fun hHeld => ?_)
            clear hK K
            try simp only [List.getElem_toArray, List.getElem_cons_succ, List.getElem_cons_zero, Act.put, List.setIfInBounds_toArray, List.set_cons_zero, List.set_cons_succ]
            refine wpAnyH_ready (rs := [9]) (by kernel_rfl) (by simp) ?_
            refine AllReadyH.cons rfl (fun K hK => ?_) AllReadyH.nil
            refine step_append_itR (by rfl) _ _ (by rfl) (base := w.heap.size + 3) (v := .slice av q cv) (A := A) ⟨y, .slice ab' yn cb', .slice a9 yk c9⟩ ⟨_, _, _, rfl⟩ ⟨_, _, _, rfl⟩ (by rfl) H3.out.1.row gz (by rfl) (by rw [← HY.out.1]; exact H3.out.2.1) (by have := HQ.out; omega) (by have := H3.out.1.size; omega) ?_
            intro v' V2 ho hg ha
            obtain ⟨av', cv', rfl⟩ := row_form ho
            have hlv : ∀ b, (Value.slice av q cv).ownBlock = some b → w.heap.size + 3 ≤ b := fun b hb => (H3.out.1.row.lt b hb).1
            have hk : ∀ b, b < w3.heap.size → (b < w.heap.size + 3) → V2.heap[b]? = w3.heap[b]? := fun b h1 h2 => hg.block b h1 (fun e => by have := hlv b e.symm; omega)
            have hs3 := H3.out.1.size
            have hgl : g < w.heap.size := HR2.out
            have hS4 : (fun w' => w'.heap[w.heap.size]? = some (.cells #[.bool l, .slice ab m cb, .slice (some ⟨g, o, none⟩) n ci] 31) ∧ w'.cell? ⟨g, o + j * 3, none⟩ = some (.bool yl) ∧ w'.cell? ⟨g, o + j * 3 + 1, none⟩ = some (.slice ab' yn cb') ∧ w'.cell? ⟨g, o + j * 3 + 2, none⟩ = some (.slice ai' ym ci')) V2 := ⟨(hk _ (by omega) (by omega)).trans hHeld.1, (World.cell?_of_block (a := ⟨g, o + j * 3, none⟩) (hk g (by omega) (by omega))).trans hHeld.2.1, (World.cell?_of_block (a := ⟨g, o + j * 3 + 1, none⟩) (hk g (by omega) (by omega))).trans hHeld.2.2.1, (World.cell?_of_block (a := ⟨g, o + j * 3 + 2, none⟩) (hk g (by omega) (by omega))).trans hHeld.2.2.2⟩
            have hb2 : V2.heap[w.heap.size + 1 + 1]? = some (.cells #[.bool l, .slice ab m cb, .slice av q cv] 25) := (hk _ (by omega) (by omega)).trans H3.out.1.b2
            have x0 : V2.cell? ⟨w.heap.size + 1 + 1, 2, none⟩ = some (.slice av q cv) := (cell_of_block hb2 2).trans rfl
            have xz : V2.frozen? ⟨w.heap.size + 1 + 1, 2, none⟩ = false := unfrozen_of_block hb2 2
            obtain ⟨q', hq'⟩ : ∃ q', q' = A.length + 1 := ⟨_, rfl⟩
            have H4 : Hid (OJR w (V2.setCell ⟨w.heap.size + 1 + 1, 2, none⟩ (.slice av' q' cv')) D l (.slice ab m cb) (.slice (some ⟨g, o, none⟩) n ci) (A ++ [⟨y, .slice ab' yn cb', .slice a9 yk c9⟩]) (.slice av' q' cv') 31) := by rw [hq']; exact H3.out.1.step hg ho ha H3.out.2.2
            rw [← hq']
            clear ho hg ha hlv hk hb2 hq' hs3
            refine hK.out _ _ hS4 (fun hHeld => ?_)
            clear hK K
            try simp only [List.getElem_toArray, List.getElem_cons_succ, List.getElem_cons_zero, Act.put, List.setIfInBounds_toArray, List.set_cons_zero, List.set_cons_succ]
            refine wpAnyH_take (i := 10) (v := .pointer (some ⟨w.heap.size + 1 + 1, 2, none⟩)) rfl (by kernel_rfl) (by kernel_rfl) (by kernel_rfl) (fun _ _ _ h => h) (Or.inl ⟨by rfl, fun w9 hSw => ?_⟩) hHeld ?_
            · go_simp
            simp only [List.getElem_toArray, List.getElem_cons_succ, List.getElem_cons_zero, Act.put, List.setIfInBounds_toArray, List.set_cons_zero, List.set_cons_succ]
            refine wpAnyH_ready (rs := [11]) (by kernel_rfl) (by simp) ?_
            refine AllReadyH.cons rfl (fun K hK => ?_) AllReadyH.nil
            go_simp
            have hS5 : (fun w' => w'.heap[w.heap.size]? = some (.cells #[.bool l, .slice ab m cb, .slice (some ⟨g, o, none⟩) n ci] 31) ∧ w'.cell? ⟨g, o + j * 3, none⟩ = some (.bool yl) ∧ w'.cell? ⟨g, o + j * 3 + 1, none⟩ = some (.slice ab' yn cb') ∧ w'.cell? ⟨g, o + j * 3 + 2, none⟩ = some (.slice ai' ym ci')) (V2.setCell ⟨w.heap.size + 1 + 1, 2, none⟩ (.slice av' q' cv')) := ⟨(Below.heap_setCell _ _ _ _ (by show w.heap.size ≠ w.heap.size + 1 + 1; omega)).trans hHeld.1, (World.cell?_setCell_far _ _ _ _ (by show w.heap.size + 1 + 1 ≠ g; have := HR2.out; omega)).trans hHeld.2.1, (World.cell?_setCell_far _ _ _ _ (by show w.heap.size + 1 + 1 ≠ g; have := HR2.out; omega)).trans hHeld.2.2.1, (World.cell?_setCell_far _ _ _ _ (by show w.heap.size + 1 + 1 ≠ g; have := HR2.out; omega)).trans hHeld.2.2.2⟩
            refine hK.out _ _ hS5 (fun hHeld => ?_)
            clear hK K
            try simp only [List.getElem_toArray, List.getElem_cons_succ, List.getElem_cons_zero, Act.put, List.setIfInBounds_toArray, List.set_cons_zero, List.set_cons_succ]
            refine wpAnyH_done (by kernel_rfl) ?_ _
            simp only [noP]
            go_wp2
            go_roundw
            case rel => exact ⟨j + 1, A ++ [⟨y, .slice ab' yn cb', .slice a9 yk c9⟩], _, by omega, by go_num, H4.out, by rw [List.map_append, HA.out.1, take_snoc HR.out.1]; rfl⟩
            case measure => simp [intOf]; omega
      · have hAx : A.map IC.x = xs := by rw [hA, List.take_of_length_le (by have := HN.out.1; omega)]
        obtain ⟨q, hq⟩ : ∃ q, q = A.length := ⟨_, rfl⟩
        have hJ' : OJR w wr D l (.slice ab m cb) (.slice ai n ci) A (.slice av q cv) 31 := by rw [hq]; exact hJ
        have HF : Hid (A.map IC.x = xs ∧ OJR w wr D l (.slice ab m cb) (.slice ai n ci) A (.slice av q cv) 31 ∧ A.length * 56 ≤ 140737488355328) := ⟨hAx, hJ', by omega⟩
        have hki : ¬ (j : Int) < n := by omega
        have e1 : wr.cell? ⟨w.heap.size + 1 + 1, 0, none⟩ = some (.bool l) := (cell_of_block hJ'.b2 0).trans rfl
        have e2 : wr.cell? ⟨w.heap.size + 1 + 1, 1, none⟩ = some (.slice ab m cb) := (cell_of_block hJ'.b2 1).trans rfl
        have e3 : wr.cell? ⟨w.heap.size + 1 + 1, 2, none⟩ = some (.slice av q cv) := (cell_of_block hJ'.b2 2).trans rfl
        have a0 : wr.cell? ⟨w.heap.size + 1, 0, none⟩ = some (.bool false) := (cell_of_block hJ'.b1 0).trans rfl
        have a1 : wr.cell? ⟨w.heap.size + 1, 1, none⟩ = some (.slice none 0 0) := (cell_of_block hJ'.b1 1).trans rfl
        have a2 : wr.cell? ⟨w.heap.size + 1, 2, none⟩ = some (.slice none 0 0) := (cell_of_block hJ'.b1 2).trans rfl
        have az := fun k => unfrozen_of_block hJ'.b1 k
        clear hJ hJ' hA hAl hAx hq H0
        go_wp2
        have hl := load25 (set25 HF.out.2.1.b1 (x' := .bool l) (y' := .slice ab m cb) (z' := .slice av q cv))
        have hoth := fun k h => set31_other wr (w.heap.size + 1) k (.bool l) (.slice ab m cb) (.slice av q cv) h
        have hbw := set31_below HF.out.2.1.bl (by omega : w.heap.size ≤ w.heap.size + 1) (.bool l) (.slice ab m cb) (.slice av q cv)
        have hsz := set31_size wr (w.heap.size + 1) (.bool l) (.slice ab m cb) (.slice av q cv)
        generalize ((wr.setCell ⟨w.heap.size + 1, 0, none⟩ (.bool l)).setCell ⟨w.heap.size + 1, 1, none⟩ (.slice ab m cb)).setCell ⟨w.heap.size + 1, 2, none⟩ (.slice av q cv) = w4 at *
        refine ⟨rfl, .agg #[.bool l, .slice ab m cb, .slice av q cv], by simp [results, Try.results18, asAddr, hl], hbw, _, rfl, HI.out.b.mono (fun b hb => hbw.block b (HD.out b hb)) (fun b hb => ⟨Nat.lt_of_lt_of_le (HD.out b hb) hbw.size, Or.inl hb⟩), ?_⟩
        have hD3 : ∀ b, (D b ∨ w.heap.size + 3 ≤ b) → b ≠ w.heap.size + 1 := fun b hb => by rcases hb with h | h; (have := HD.out b h; omega); omega
        have hrow4 : w4.ownsRow (w.heap.size + 3) 25 3 (.slice av q cv) A.length (icL A) := ownsRow_heap HF.out.2.1.row (fun b hb => hoth b (by have := (HF.out.2.1.row.lt b hb).1; omega))
        have := row_itsR (D := fun b => b < w4.heap.size ∧ (D b ∨ w.heap.size ≤ b)) hrow4 (fun f hf => (HF.out.2.1.it f hf).mono (fun b hb => hoth b (hD3 b hb.1)) (fun b hb => ⟨by rw [hsz]; exact hb.2.1, by rcases hb.1 with h | h; (exact Or.inl h); (exact Or.inr (by omega))⟩)) (fun b hb => ⟨(hrow4.lt b hb).2, Or.inr (by have := (hrow4.lt b hb).1; omega)⟩) HF.out.2.2
        rw [HF.out.1] at this
        exact this
end Go.Proofs.Ytmnlcpfehbpogaa
