/- kv: Unbatch. -/
import Derived.Test.YtconkienlcegaaaGreatDoorM31
namespace Go.Proofs.YtconkienlcegaaaGreatDoor
open Go.RowKit Go.Maps Go.Joins Go.Shelf
set_option linter.unusedSimpArgs false
set_option linter.unusedVariables false
/-- Within the rounds of Unbatch. -/
structure UnJ (w W : World) (r : Loop) (v : Value) (A : List CI) : Prop where
  b0 : W.heap[w.heap.size]? = some (.cells #[.slice none 0 0] 43)
  b1 : W.heap[w.heap.size + 1]? = some (.cells #[.int .i64 0] 25)
  b2 : W.heap[w.heap.size + 2]? = some (.cells #[v] 43)
  b3 : W.heap[w.heap.size + 4]? = some (.deferred (some []))
  b4 : W.heap[w.heap.size + 5]? = some (.loop r)
  row : W.ownsRow (w.heap.size + 6) 90 3 v A.length (ciL A)
  it : ∀ f ∈ A, KBD W (fun x => w.heap.size + 6 ≤ x ∧ v.ownBlock ≠ some x) f.vk f.c.key ∧ KBD W (fun x => w.heap.size + 6 ≤ x ∧ v.ownBlock ≠ some x) f.vv f.c.val
  bl : Below w.heap.size w W
  sz : w.heap.size + 6 ≤ W.heap.size
theorem UnJ.below {w W W2 : World} {r : Loop} {v : Value} {A : List CI} (h : UnJ w W r v A) (hb : Below W.heap.size W W2) : UnJ w W2 r v A := by
  have hs := h.sz
  have hk : ∀ {D : Nat → Prop} {u : Value} {bs : List Int}, KBD W D u bs → KBD W2 D u bs := fun hk => ⟨hk.is.keep fun x hx => hb.block x (hk.is.lt x hx), hk.d, hk.len⟩
  exact ⟨(hb.block _ (by omega)).trans h.b0, (hb.block _ (by omega)).trans h.b1, (hb.block _ (by omega)).trans h.b2, (hb.block _ (by omega)).trans h.b3, (hb.block _ (by omega)).trans h.b4, ownsRow_heap h.row (fun b hb' => hb.block b (h.row.lt b hb').2), fun f hf => ⟨hk (h.it f hf).1, hk (h.it f hf).2⟩, h.bl.trans (hb.mono h.bl.size), Nat.le_trans hs hb.size⟩
theorem UnJ.put {w W : World} {r : Loop} {v : Value} {A : List CI} (h : UnJ w W r v A) (r2 : Loop) : UnJ w (W.putObj (w.heap.size + 5) (.loop r2)) r2 v A := by
  have hs := h.sz
  have ho : ∀ x, x ≠ w.heap.size + 5 → (W.putObj (w.heap.size + 5) (.loop r2)).heap[x]? = W.heap[x]? := fun x hx => World.putObj_heap_other hx
  refine ⟨(ho _ (by omega)).trans h.b0, (ho _ (by omega)).trans h.b1, (ho _ (by omega)).trans h.b2, (ho _ (by omega)).trans h.b3, World.putObj_heap_same (by omega), ownsRow_heap h.row (fun b hb => ho b (by have := (h.row.lt b hb).1; omega)), fun f hf => ⟨(h.it f hf).1.mono (fun x hx => ho x (by have := hx.1; omega)) (fun _ hx => hx), (h.it f hf).2.mono (fun x hx => ho x (by have := hx.1; omega)) (fun _ hx => hx)⟩, ?_, by simpa [World.putObj] using hs⟩
  exact ⟨h.bl.os, h.bl.tape, h.bl.output, by simpa [World.putObj] using h.bl.size, fun b hb => (ho b (by omega)).trans (h.bl.block b hb)⟩
/-- Within one round: the change stands in block P. -/
structure UnI (w W : World) (r : Loop) (v : Value) (A : List CI) (P : Nat) (vk vv : Value) (c : Ch) : Prop where
  j : UnJ w W r v A
  kk : BytesV W vk c.key
  vw : BytesV W vv c.val
  len : A.length * 56 + 56 ≤ 140737488355328
  pv : v.ownBlock ≠ some P
  pp : ∃ cs : Array Value, W.heap[P]? = some (.cells cs 90)
theorem UnI.below {w W W2 : World} {r : Loop} {v : Value} {A : List CI} {P : Nat} {vk vv : Value} {c : Ch} (h : UnI w W r v A P vk vv c) (hb : Below W.heap.size W W2) : UnI w W2 r v A P vk vv c := by
  obtain ⟨cs, hp⟩ := h.pp
  exact ⟨h.j.below hb, h.kk.keep fun x hx => hb.block x (h.kk.lt x hx), h.vw.keep fun x hx => hb.block x (h.vw.lt x hx), h.len, h.pv, cs, (hb.block _ (heap_lt hp)).trans hp⟩
theorem UnI.cloned {w W W2 : World} {r : Loop} {v : Value} {A : List CI} {P : Nat} {vk vv : Value} {c : Ch} (h : UnI w W r v A P vk vv c) {u : Value} {bs : List Int} (ho : W2.ownsRow W.heap.size 5 1 u bs.length (vB bs)) (hb : Below W.heap.size W W2) (hl : bs.length ≤ 140737488355328) : KBD W2 (fun x => w.heap.size + 6 ≤ x ∧ x < W2.heap.size ∧ v.ownBlock ≠ some x ∧ x ≠ P) u bs := by
  refine ⟨BytesV.of_own ho, fun x hx => ?_, hl⟩
  have h1 := ho.lt x (dBlock_own hx)
  have hs := h.j.sz
  obtain ⟨cs, hp⟩ := h.pp
  have hpl := heap_lt hp
  exact ⟨by omega, h1.2, fun e => by have := (h.j.row.lt x e).2; omega, by omega⟩
/-- Behind append. -/
structure UnA (w W : World) (r : Loop) (v v' : Value) (A : List CI) (f : CI) : Prop where
  b0 : W.heap[w.heap.size]? = some (.cells #[.slice none 0 0] 43)
  b1 : W.heap[w.heap.size + 1]? = some (.cells #[.int .i64 0] 25)
  b2 : W.heap[w.heap.size + 2]? = some (.cells #[v] 43)
  b3 : W.heap[w.heap.size + 4]? = some (.deferred (some []))
  b4 : W.heap[w.heap.size + 5]? = some (.loop r)
  row : W.ownsRow (w.heap.size + 6) 90 3 v' (A.length + 1) (ciL (A ++ [f]))
  it : ∀ g ∈ A ++ [f], KBD W (fun x => w.heap.size + 6 ≤ x ∧ v'.ownBlock ≠ some x) g.vk g.c.key ∧ KBD W (fun x => w.heap.size + 6 ≤ x ∧ v'.ownBlock ≠ some x) g.vv g.c.val
  bl : Below w.heap.size w W
  sz : w.heap.size + 6 ≤ W.heap.size
theorem UnA.of {w V V2 : World} {r : Loop} {v v' : Value} {A : List CI} {f : CI} (h : UnJ w V r v A) (hlen : A.length * 56 + 56 ≤ 140737488355328) (ho : V2.ownsRow (w.heap.size + 6) 90 3 v' (A.length + 1) (ciL (A ++ [f]))) (hg : V.grownBy V2 v.ownBlock) (ha : v'.ownBlock = v.ownBlock ∨ v'.ownBlock = some V.heap.size) {gz : Nat} (hk : KBD V (fun x => w.heap.size + 6 ≤ x ∧ v.ownBlock ≠ some x ∧ x ≠ gz) f.vk f.c.key) (hv : KBD V (fun x => w.heap.size + 6 ≤ x ∧ v.ownBlock ≠ some x ∧ x ≠ gz) f.vv f.c.val) : UnA w V2 r v v' A f := by
  have hs := h.sz
  have hn : ∀ x, x < w.heap.size + 6 → some x ≠ v.ownBlock := fun x hx e => by have := (h.row.lt x e.symm).1; omega
  have hc : ∀ {u : Value} {bs : List Int} {D : Nat → Prop}, KBD V D u bs → (∀ x, D x → w.heap.size + 6 ≤ x ∧ v.ownBlock ≠ some x) → KBD V2 (fun x => w.heap.size + 6 ≤ x ∧ v'.ownBlock ≠ some x) u bs := fun hk hd => ⟨hk.is.keep fun x hx => hg.block x (hk.is.lt x hx) (fun e => (hd x (hk.d x hx)).2 e.symm), fun x hx => ⟨(hd x (hk.d x hx)).1, fun e => by
    rcases ha with ha | ha
    · exact (hd x (hk.d x hx)).2 (ha.symm.trans e)
    · rw [ha] at e; injection e with e; have := hk.is.lt x hx; omega⟩, hk.len⟩
  refine ⟨(hg.block _ (by omega) (hn _ (by omega))).trans h.b0, (hg.block _ (by omega) (hn _ (by omega))).trans h.b1, (hg.block _ (by omega) (hn _ (by omega))).trans h.b2, (hg.block _ (by omega) (hn _ (by omega))).trans h.b3, (hg.block _ (by omega) (hn _ (by omega))).trans h.b4, ho, fun g hg' => ?_, h.bl.grown hg (by omega) (fun k hk => by have := (h.row.lt k hk).1; omega), Nat.le_trans hs hg.size⟩
  rcases List.mem_append.1 hg' with h9 | h9
  · exact ⟨hc (h.it g h9).1 (fun x hx => hx), hc (h.it g h9).2 (fun x hx => hx)⟩
  · obtain rfl := List.mem_singleton.1 h9
    exact ⟨hc hk (fun x hx => ⟨hx.1, hx.2.1⟩), hc hv (fun x hx => ⟨hx.1, hx.2.1⟩)⟩
theorem UnA.store {w W : World} {r : Loop} {v v' : Value} {A : List CI} {f : CI} (h : UnA w W r v v' A f) : UnJ w (W.setCell ⟨w.heap.size + 2, 0, none⟩ v') r v' (A ++ [f]) := by
  have hs := h.sz
  have ho : ∀ x, x ≠ w.heap.size + 2 → (W.setCell ⟨w.heap.size + 2, 0, none⟩ v').heap[x]? = W.heap[x]? := fun x hx => Below.heap_setCell _ _ _ _ hx
  refine ⟨(ho _ (by omega)).trans h.b0, (ho _ (by omega)).trans h.b1, heap_setCell_same _ _ 0 _ 43 v' h.b2, (ho _ (by omega)).trans h.b3, (ho _ (by omega)).trans h.b4, by rw [List.length_append]; exact ownsRow_heap h.row (fun b hb => ho b (by have := (h.row.lt b hb).1; omega)), fun g hg => ⟨(h.it g hg).1.mono (fun x hx => ho x (by have := hx.1; omega)) (fun _ hx => hx), (h.it g hg).2.mono (fun x hx => ho x (by have := hx.1; omega)) (fun _ hx => hx)⟩, h.bl.setCell (p := ⟨w.heap.size + 2, 0, none⟩) (by show w.heap.size ≤ w.heap.size + 2; omega) v', by simpa using hs⟩
/-- Behind ErrRot. -/
structure UnX (w W : World) (rc : Loop) : Prop where
  b0 : W.heap[w.heap.size]? = some (.cells #[.slice none 0 0] 43)
  b1 : W.heap[w.heap.size + 1]? = some (.cells #[.int .i64 34] 25)
  b3 : W.heap[w.heap.size + 4]? = some (.deferred (some []))
  b4 : W.heap[w.heap.size + 5]? = some (.loop { rc with state := .done, pending := some .ret })
  bl : Below w.heap.size w W
theorem lv43 {w : World} {b : Nat} {x : Value} (h : w.heap[b]? = some (.cells #[x] 43)) (hx : ∃ a l c, x = .slice a l c := by exact ⟨_, _, _, rfl⟩) : (loadVar 43 ⟨b, 0, none⟩).run Tryz.prog w = .ok x w := by
  obtain ⟨_, _, _, rfl⟩ := hx
  have hc : w.cell? ⟨b, 0, none⟩ = some _ := (cell_of_block h 0).trans rfl
  simp [go_sem, hc]
theorem UnX.ends {w W : World} {rc : Loop} (h : UnX w W rc) (re : Loop) : (W.putObj (w.heap.size + 5) (.loop re)).heap[w.heap.size + 4]? = some (.deferred (some [])) ∧ ((W.putObj (w.heap.size + 5) (.loop re)).putObj (w.heap.size + 4) (.deferred none)).heap[w.heap.size]? = some (.cells #[.slice none 0 0] 43) ∧ ((W.putObj (w.heap.size + 5) (.loop re)).putObj (w.heap.size + 4) (.deferred none)).heap[w.heap.size + 1]? = some (.cells #[.int .i64 34] 25) ∧ Below w.heap.size w ((W.putObj (w.heap.size + 5) (.loop re)).putObj (w.heap.size + 4) (.deferred none)) := by
  have o1 : ∀ b, b ≠ w.heap.size + 5 → (W.putObj (w.heap.size + 5) (.loop re)).heap[b]? = W.heap[b]? := fun b hb => World.putObj_heap_other hb
  have o2 : ∀ b, b ≠ w.heap.size + 4 → ((W.putObj (w.heap.size + 5) (.loop re)).putObj (w.heap.size + 4) (.deferred none)).heap[b]? = (W.putObj (w.heap.size + 5) (.loop re)).heap[b]? := fun b hb => World.putObj_heap_other hb
  refine ⟨(o1 _ (by omega)).trans h.b3, (o2 _ (by omega)).trans ((o1 _ (by omega)).trans h.b0), (o2 _ (by omega)).trans ((o1 _ (by omega)).trans h.b1), ?_⟩
  exact ⟨h.bl.os, h.bl.tape, h.bl.output, by simpa [World.putObj] using h.bl.size, fun b hb => (o2 b (by omega)).trans ((o1 b (by omega)).trans (h.bl.block b hb))⟩
theorem UnJ.rots {w V : World} {rb : Loop} {v : Value} {A : List CI} (h : UnJ w V rb v A) (r : Loop) : ((V.setCell ⟨w.heap.size, 0, none⟩ (.slice none 0 0)).setCell ⟨w.heap.size + 1, 0, none⟩ (.int .i64 34)).heap[w.heap.size + 5]? = some (.loop rb) ∧ UnX w (((V.setCell ⟨w.heap.size, 0, none⟩ (.slice none 0 0)).setCell ⟨w.heap.size + 1, 0, none⟩ (.int .i64 34)).putObj (w.heap.size + 5) (.loop { r with state := .done, pending := some .ret })) r := by
  have hs := h.sz
  have o2 : ∀ b, b ≠ w.heap.size + 1 → ((V.setCell ⟨w.heap.size, 0, none⟩ (.slice none 0 0)).setCell ⟨w.heap.size + 1, 0, none⟩ (.int .i64 34)).heap[b]? = (V.setCell ⟨w.heap.size, 0, none⟩ (.slice none 0 0)).heap[b]? := fun b hb => Below.heap_setCell _ _ _ _ hb
  have o3 : ∀ b, b ≠ w.heap.size → (V.setCell ⟨w.heap.size, 0, none⟩ (.slice none 0 0)).heap[b]? = V.heap[b]? := fun b hb => Below.heap_setCell _ _ _ _ hb
  have k0 : ((V.setCell ⟨w.heap.size, 0, none⟩ (.slice none 0 0)).setCell ⟨w.heap.size + 1, 0, none⟩ (.int .i64 34)).heap[w.heap.size]? = some (.cells #[.slice none 0 0] 43) := (o2 _ (by omega)).trans (heap_setCell_same _ _ 0 _ 43 (.slice none 0 0) h.b0)
  have k1 : ((V.setCell ⟨w.heap.size, 0, none⟩ (.slice none 0 0)).setCell ⟨w.heap.size + 1, 0, none⟩ (.int .i64 34)).heap[w.heap.size + 1]? = some (.cells #[.int .i64 34] 25) := heap_setCell_same _ _ 0 _ 25 (.int .i64 34) ((o3 _ (by omega)).trans h.b1)
  have k3 := (o2 (w.heap.size + 4) (by omega)).trans ((o3 _ (by omega)).trans h.b3)
  have k4 := (o2 (w.heap.size + 5) (by omega)).trans ((o3 _ (by omega)).trans h.b4)
  have hb := (h.bl.setCell (p := ⟨w.heap.size, 0, none⟩) (Nat.le_refl _) (.slice none 0 0)).setCell (p := ⟨w.heap.size + 1, 0, none⟩) (by show w.heap.size ≤ w.heap.size + 1; omega) (.int .i64 34)
  generalize (V.setCell ⟨w.heap.size, 0, none⟩ (.slice none 0 0)).setCell ⟨w.heap.size + 1, 0, none⟩ (.int .i64 34) = Z at *
  have o1 : ∀ b, b ≠ w.heap.size + 5 → (Z.putObj (w.heap.size + 5) (.loop { r with state := .done, pending := some .ret })).heap[b]? = Z.heap[b]? := fun b hb => World.putObj_heap_other hb
  exact ⟨k4, (o1 _ (by omega)).trans k0, (o1 _ (by omega)).trans k1, (o1 _ (by omega)).trans k3, World.putObj_heap_same (heap_lt k4), ⟨hb.os, hb.tape, hb.output, by simpa [World.putObj] using hb.size, fun b hb' => (o1 b (by omega)).trans (hb.block b hb')⟩⟩
/-- One encoding of one list. -/
def okM (l : List Ch) : Prop := okL l ∧ ∀ c ∈ l, KByt c.key ∧ KByt c.val
theorem encK_front : ∀ (l0 l : List Ch) (rest : List Int), okL l0 → okL l → encK l = encK l0 ++ rest → ∃ l1, l = l0 ++ l1 ∧ encK l1 = rest
  | [], l, rest, _, _, h => ⟨l, rfl, by simpa [encK] using h⟩
  | c :: l0, [], rest, _, _, h => by
    have := congrArg List.length h
    rw [encK_cons, List.length_append, List.length_append, encC_length] at this
    simp [encK] at this
    omega
  | c :: l0, d :: l, rest, h0, h1, h => by
    rw [encK_cons, encK_cons, List.append_assoc] at h
    have hc := h0 c (by simp)
    have hd := h1 d (by simp)
    have e1 := nxC_enc d hd.1 hd.2.1 hd.2.2 (encK l)
    rw [h, nxC_enc c hc.1 hc.2.1 hc.2.2] at e1
    injection e1 with e1
    injection e1 with e1 _
    subst e1
    have h2 := List.append_cancel_left h
    obtain ⟨l1, e2, e3⟩ := encK_front l0 l rest (fun x hx => h0 x (by simp [hx])) (fun x hx => h1 x (by simp [hx])) h2
    exact ⟨l1, by rw [e2]; rfl, e3⟩
/-- Behind the first changes come no others. -/
theorem encK_stop {l0 : List Ch} {bs : List Int} {k : Nat} (h0 : okL l0) (he : encK l0 = bs.take k) (hk : k < bs.length) (hn : nxC (bs.drop k) = none) : ∀ l, okL l → encK l ≠ bs := fun l hl e => by
  obtain ⟨l1, e1, e2⟩ := encK_front l0 l (bs.drop k) h0 hl (by rw [e, he, List.take_append_drop])
  cases l1 with
  | nil =>
    have h9 := congrArg List.length e2
    rw [List.length_drop] at h9
    have : (encK []).length = 0 := rfl
    omega
  | cons d r =>
    have hd := hl d (by rw [e1]; simp)
    rw [← e2, encK_cons, nxC_enc d hd.1 hd.2.1 hd.2.2] at hn
    cases hn
/-- What Unbatch tells. -/
def UbR (w w' : World) (bs : List Int) (e : Ending) : Prop :=
  (∃ l v, okM l ∧ encK l = bs ∧ e = .returned (.tuple #[v, .int .i64 0]) ∧ ChsV w' (fun x => w.heap.size ≤ x ∧ x < w'.heap.size) v l) ∨ ((∀ l, okL l → encK l ≠ bs) ∧ e = .returned (.tuple #[.slice none 0 0, .int .i64 34]))
attribute [local go_sem] Oper.semAt_some
set_option maxRecDepth 100000 in
set_option maxHeartbeats 16000000 in
/-- Unbatch -/
theorem unbatch_any {w : World} {ba : Option Addr} {cap : Nat} {bs : List Int} (hr : BytesV w (.slice ba bs.length cap) bs) (hkb : KByt bs) (hc : bs.length ≤ cap) (hm : cap ≤ 9223372036854775807) (hlen : bs.length ≤ 1099511627776) :
    Calls Tryz.prog 33 #[.slice ba bs.length cap] w fun e w' => Below w.heap.size w w' ∧ UbR w w' bs e := by
  have HH : Hid (BytesV w (.slice ba bs.length cap) bs ∧ KByt bs ∧ bs.length ≤ 1099511627776) := ⟨hr, hkb, hlen⟩
  obtain ⟨N, hN⟩ : ∃ N, N = bs.length := ⟨_, rfl⟩
  rw [← hN] at hc hlen ⊢
  have HN : Hid (N = bs.length) := hN
  clear hr hkb hN
  refine (callsIn_wide (n := 4)).1 ?_
  refine callsIn_of_wp_marks Tryz.func33 rfl trivial ?_ rfl
  simp only [Tryz.ntmps33, List.size_toArray, List.length_cons, List.length_nil, Nat.reduceAdd, Nat.reduceSub, Array.replicate_succ, Array.replicate_zero, List.push_toArray, List.append_toArray, List.nil_append, List.cons_append]
  refine wpIn_wide.2 ?_
  have T1 : Hid True := trivial
  go_wp2_with (first
    | (have _ := T1
       go_at_call 61
       clear T1
       refine Calls.mono (changes_any _ _ _) ?_
       rintro e w1 ⟨rfl, rfl⟩))
  refine (wpIn_wide (n := 4)).1 ?_
  refine range_leave (gf := 97) (lb := #[.pointer (some ⟨w.heap.size + 3, 0, none⟩)]) rfl (enters_of Tryz.func97 (by kernel_rfl) rfl) ?_
  intro r W1 hst hpe htm hpar has' hbod hW1
  have hW : W1 = [Obj.cells #[.slice none 0 0] 43, .cells #[.int .i64 0] 25, .cells #[.slice none 0 0] 43, .cells #[.slice ba N cap] 23, .deferred (some []), .loop r].foldl World.alloc w := by rw [hW1]; rfl
  have hsz : ((((w.alloc (.cells #[.slice none 0 0] 43)).alloc (.cells #[.int .i64 0] 25)).alloc (.cells #[.slice none 0 0] 43)).alloc (.cells #[.slice ba N cap] 23)).heap.size = w.heap.size + 4 := by simp
  rw [hsz]
  have hh := fun k ob hk => allocs_heap [Obj.cells #[.slice none 0 0] 43, .cells #[.int .i64 0] 25, .cells #[.slice none 0 0] 43, .cells #[.slice ba N cap] 23, .deferred (some []), .loop r] w k ob hk
  have hbl := allocs_below [Obj.cells #[.slice none 0 0] 43, .cells #[.int .i64 0] 25, .cells #[.slice none 0 0] 43, .cells #[.slice ba N cap] 23, .deferred (some []), .loop r] w
  have hsz4 := allocs_size [Obj.cells #[.slice none 0 0] 43, .cells #[.int .i64 0] 25, .cells #[.slice none 0 0] 43, .cells #[.slice ba N cap] 23, .deferred (some []), .loop r] w
  rw [← hW] at hh hbl hsz4
  have h0 : UnJ w W1 r (.slice none 0 0) [] := ⟨hh 0 _ rfl, hh 1 _ rfl, hh 2 _ rfl, hh 4 _ rfl, hh 5 _ rfl, World.ownsRow_nil _ _ _ _, fun f hf => (by cases hf), hbl, by rw [hsz4]; simp⟩
  have hXc : W1.cell? ⟨w.heap.size + 3, 0, none⟩ = some (.slice ba N cap) := (cell_of_block (hh 3 _ rfl) 0).trans rfl
  clear hW hW1 hh hbl hsz hsz4
  rw [HN.out] at hXc hc
  refine CallsIn.mono (changes1_in 2 (w.heap.size + 5) (w.heap.size + 3) ba cap bs W1 (fun k W => ∃ l0 v A, k = (encK l0).length ∧ UnJ w W r v A ∧ A.map CI.c = l0 ∧ okM l0 ∧ encK l0 = bs.take k) (fun W => UnX w W r ∧ ∀ l, okL l → encK l ≠ bs) hXc hc hm (by have := HH.out.2.2; omega) HH.out.2.1 ⟨[], _, [], rfl, h0, rfl, ⟨fun c hc => (by cases hc), fun c hc => (by cases hc)⟩, rfl⟩ (fun k W h => by obtain ⟨l0, v, A, _, hj, _⟩ := h; exact HH.out.1.keep fun x hx => hj.bl.block x (HH.out.1.lt x hx)) ?hY) ?hE
  case hY =>
    rintro k W W2 hk ⟨l0, v, A, hkl, hj, hA, hok, hen⟩ hb2
    have hj2 := hj.below hb2
    cases hnx : nxC (bs.drop k) with
    | none =>
      show YieldAt Fence.wide 2 Tryz.prog (w.heap.size + 5) #[.agg #[.slice none 0 0, .slice none 0 0, .bool false], .int .i64 34] W2 _
      refine YieldAt.mono (round_leave (R := fun _ => False) (J := fun q W' => q = .ret ∧ UnX w W' r ∧ ∀ l, okL l → encK l ≠ bs) hj2.b4 hst hpe (by rw [hpar]; rfl) ?_) ?_
      rotate_left
      · rintro e W' (⟨rfl, h⟩ | ⟨q, rfl, rfl, h⟩)
        · exact h.elim
        · exact ⟨⟨_, rfl⟩, h⟩
      intro rb hrb
      have HR : Hid (r.params = _ ∧ r.assign = _ ∧ r.body = _ ∧ r.tmps = _) := ⟨hpar, has', hbod, htm⟩
      rw [hpar, has', hbod, htm]
      clear hpar has' hbod htm hst hpe hrb h0 hXc
      simp only [List.zip_toArray, List.zip_cons_cons, List.zip_nil_right, List.foldl_toArray, List.foldl_cons, List.foldl_nil, List.setIfInBounds_toArray, List.set_cons_zero, List.set_cons_succ]
      have HS : Hid (∀ l, okL l → encK l ≠ bs) := encK_stop hok.1 hen hk hnx
      have hba : Below W2.heap.size W2 (W2.alloc (.cells #[.slice none 0 0, .slice none 0 0, .bool false] 90)) := by go_grown
      have hj3 := hj2.below hba
      have HJ3 : Hid (UnJ w (W2.alloc (.cells #[.slice none 0 0, .slice none 0 0, .bool false] 90)) r v A) := hj3
      have HX : Hid (UnJ w ((W2.alloc (.cells #[.slice none 0 0, .slice none 0 0, .bool false] 90)).putObj (w.heap.size + 5) (.loop rb)) rb v A) := hj3.put rb
      clear hj hj2 hj3 hb2 hba hnx hk hA hok hen hkl
      gi_wp2
      refine ⟨HJ3.out.b4, ?_⟩
      generalize (W2.alloc (.cells #[.slice none 0 0, .slice none 0 0, .bool false] 90)).putObj (w.heap.size + 5) (.loop rb) = V at HX ⊢
      have e0 : V.cell? ⟨w.heap.size, 0, none⟩ = some (.slice none 0 0) := (cell_of_block HX.out.b0 0).trans rfl
      have f0 : V.frozen? ⟨w.heap.size, 0, none⟩ = false := unfrozen_of_block HX.out.b0 0
      have e1 : V.cell? ⟨w.heap.size + 1, 0, none⟩ = some (.int .i64 0) := (cell_of_block HX.out.b1 0).trans rfl
      have f1 : V.frozen? ⟨w.heap.size + 1, 0, none⟩ = false := unfrozen_of_block HX.out.b1 0
      gi_wp2
      have h9 := (HX.out.rots r).2
      rw [HR.out.1, HR.out.2.1, HR.out.2.2.1, HR.out.2.2.2] at h9
      exact ⟨(HX.out.rots r).1, rfl, h9, HS.out⟩
    | some q =>
      obtain ⟨c, n⟩ := q
      have hno := nxC_ok (HH.out.2.1.drop k) hnx
      intro vk vv hvk hvv
      refine YieldAt.mono (round_with (R := fun W' => ∃ l1 v' A', k + n = (encK l1).length ∧ UnJ w W' r v' A' ∧ A'.map CI.c = l1 ∧ okM l1 ∧ encK l1 = bs.take (k + n)) hj2.b4 hst hpe (by rw [hpar]; rfl) ?_) (fun e W' h => Or.inl h)
      intro rb hrb
      rw [hpar, has', hbod, htm]
      clear hpar has' hbod htm hst hpe hrb h0 hXc
      simp only [List.zip_toArray, List.zip_cons_cons, List.zip_nil_right, List.foldl_toArray, List.foldl_cons, List.foldl_nil, List.setIfInBounds_toArray, List.set_cons_zero, List.set_cons_succ]
      have hvk2 : BytesV W2 vk c.key := hvk.keep fun x hx => hb2.block x (hvk.lt x hx)
      have hvv2 : BytesV W2 vv c.val := hvv.keep fun x hx => hb2.block x (hvv.lt x hx)
      obtain ⟨ak, ck, rfl⟩ := hvk2.form'
      obtain ⟨av, cv, rfl⟩ := hvv2.form'
      obtain ⟨ov, oc, rfl⟩ := row_form hj.row
      obtain ⟨nk, hnk⟩ : ∃ nk, nk = c.key.length := ⟨_, rfl⟩
      obtain ⟨nv, hnv⟩ : ∃ nv, nv = c.val.length := ⟨_, rfl⟩
      obtain ⟨cg, hcg⟩ : ∃ cg, cg = c.gone := ⟨_, rfl⟩
      obtain ⟨on, hon⟩ : ∃ on, on = A.length := ⟨_, rfl⟩
      rw [← hnk] at hvk2
      rw [← hnv] at hvv2
      rw [← hon] at hj2
      have hlK : c.key.length ≤ 64 := hno.2.2.2.1.2
      have hlV : c.val.length < 4294967295 := hno.2.2.2.2.2.2.2
      have hAl : A.length ≤ k := by
        have h8 : A.length = l0.length := by rw [← hA]; simp
        have h9 := encK_ge l0
        omega
      have hn1 : n ≤ bs.length - k := by have := hno.2.1; rw [List.length_drop] at this; exact this
      have hok1 : okM (l0 ++ [c]) := ⟨fun x hx => by
        rcases List.mem_append.1 hx with h | h
        · exact hok.1 x h
        · obtain rfl := List.mem_singleton.1 h
          exact ⟨hno.2.2.2.1, hno.2.2.2.2.2.2.2, hno.2.2.2.2.1⟩, fun x hx => by
        rcases List.mem_append.1 hx with h | h
        · exact hok.2 x h
        · obtain rfl := List.mem_singleton.1 h
          exact ⟨hno.2.2.2.2.2.1, hno.2.2.2.2.2.2.1⟩⟩
      have hen1 : encK (l0 ++ [c]) = bs.take (k + n) := by
        rw [encK_append, hen, show encK [c] = encC c from by simp [encK], ← hno.1, List.take_add]
      have hkn : k + n = (encK (l0 ++ [c])).length := by rw [hen1, List.length_take]; omega
      have HC : Hid (True ∧ A.map CI.c = l0 ∧ k + n = (encK (l0 ++ [c])).length ∧ okM (l0 ++ [c]) ∧ encK (l0 ++ [c]) = bs.take (k + n)) := ⟨trivial, hA, hkn, hok1, hen1⟩
      have HLn : Hid (c.key.length ≤ 140737488355328 ∧ c.val.length ≤ 140737488355328) := ⟨by omega, by omega⟩
      have hlen56 : A.length * 56 + 56 ≤ 140737488355328 := by have := HH.out.2.2; omega
      rw [← hnk, ← hnv, ← hcg]
      have HL : Hid (nk = c.key.length ∧ nv = c.val.length ∧ cg = c.gone) := ⟨hnk, hnv, hcg⟩
      have hba : Below W2.heap.size W2 (W2.alloc (.cells #[.slice ak nk ck, .slice av nv cv, .bool cg] 90)) := by go_grown
      have hj3 := hj2.below hba
      have HJ3 : Hid (UnJ w (W2.alloc (.cells #[.slice ak nk ck, .slice av nv cv, .bool cg] 90)) r (.slice ov on oc) A) := hj3
      have hs2 := hj2.sz
      have hput : ∀ x, x ≠ w.heap.size + 5 → ((W2.alloc (.cells #[.slice ak nk ck, .slice av nv cv, .bool cg] 90)).putObj (w.heap.size + 5) (.loop rb)).heap[x]? = (W2.alloc (.cells #[.slice ak nk ck, .slice av nv cv, .bool cg] 90)).heap[x]? := fun x hx => World.putObj_heap_other hx
      have hpb0 : ((W2.alloc (.cells #[.slice ak nk ck, .slice av nv cv, .bool cg] 90)).putObj (w.heap.size + 5) (.loop rb)).heap[W2.heap.size]? = some (.cells #[.slice ak nk ck, .slice av nv cv, .bool cg] 90) := (hput _ (by omega)).trans (heap_alloc_new _ _)
      have hbk : BytesV ((W2.alloc (.cells #[.slice ak nk ck, .slice av nv cv, .bool cg] 90)).putObj (w.heap.size + 5) (.loop rb)) (.slice ak nk ck) c.key := hvk2.keep fun x hx => (hput x (fun e => bytes_loop hvk2 hx r (by rw [e]; exact hj2.b4))).trans (hba.block x (hvk2.lt x hx))
      have hbv : BytesV ((W2.alloc (.cells #[.slice ak nk ck, .slice av nv cv, .bool cg] 90)).putObj (w.heap.size + 5) (.loop rb)) (.slice av nv cv) c.val := hvv2.keep fun x hx => (hput x (fun e => bytes_loop hvv2 hx r (by rw [e]; exact hj2.b4))).trans (hba.block x (hvv2.lt x hx))
      have hpv : (Value.slice ov on oc).ownBlock ≠ some W2.heap.size := fun e => by have := (hj2.row.lt _ e).2; omega
      have HX : Hid (UnI w ((W2.alloc (.cells #[.slice ak nk ck, .slice av nv cv, .bool cg] 90)).putObj (w.heap.size + 5) (.loop rb)) rb (.slice ov on oc) A W2.heap.size (.slice ak nk ck) (.slice av nv cv) c) := ⟨hj3.put rb, hbk, hbv, hlen56, hpv, _, hpb0⟩
      have HPB : Hid (((W2.alloc (.cells #[.slice ak nk ck, .slice av nv cv, .bool cg] 90)).putObj (w.heap.size + 5) (.loop rb)).heap[W2.heap.size]? = some (.cells #[.slice ak nk ck, .slice av nv cv, .bool cg] 90) ∧ w.heap.size + 6 ≤ W2.heap.size) := ⟨hpb0, hs2⟩
      clear hj hj2 hj3 hvk hvv hvk2 hvv2 hb2 hba hnx hk hA hok hen hkl hno hlK hlV hAl hn1 hok1 hen1 hkn hlen56 hnk hnv hcg hon hs2 hput hpb0 hbk hbv hpv
      gi_wp2
      refine ⟨HJ3.out.b4, ?_⟩
      generalize (W2.alloc (.cells #[.slice ak nk ck, .slice av nv cv, .bool cg] 90)).putObj (w.heap.size + 5) (.loop rb) = V at HX HPB ⊢
      generalize W2.heap.size = P at HX HPB ⊢
      have HX2 : Hid (UnI w V rb (.slice ov on oc) A P (.slice ak nk ck) (.slice av nv cv) c) := HX.out
      have hpb := HPB.out.1
      have HPL : Hid (w.heap.size + 6 ≤ P) := HPB.out.2
      clear HX HPB HJ3
      gi_wp2
      have hS0 : (fun w' => w'.heap[P]? = some (.cells #[.slice ak nk ck, .slice av nv cv, .bool cg] 90)) V.drew := hpb
      have HU0 : Hid (UnI w V.drew rb (.slice ov on oc) A P (.slice ak nk ck) (.slice av nv cv) c) := HX2.out.below ⟨rfl, rfl, rfl, Nat.le_refl _, fun _ _ => rfl⟩
      refine region_round (S := fun w' => w'.heap[P]? = some (.cells #[.slice ak nk ck, .slice av nv cv, .bool cg] 90)) (by kernel_rfl) (noDefer_spec (by kernel_rfl)) (fun ⟨_, _, h⟩ => h) hS0 (fun hHeld => ?_)
      clear HX2
      have HU := HU0
      clear HU0
      generalize V.drew = V0 at HU hHeld ⊢
      refine wpAnyH_take (i := 1) (v := .pointer (some ⟨P, 0, none⟩)) rfl (by kernel_rfl) (by kernel_rfl) (by kernel_rfl) (fun _ _ _ h => h) (Or.inl ⟨by rfl, fun w9 hSw => ?_⟩) hHeld ?_
      · go_simp
      simp only [List.getElem_toArray, List.getElem_cons_succ, List.getElem_cons_zero, Act.put, List.setIfInBounds_toArray, List.set_cons_zero, List.set_cons_succ]
      refine wpAnyH_take (i := 2) (v := .slice ak nk ck) rfl (by kernel_rfl) (by kernel_rfl) (by kernel_rfl) (fun _ _ _ h => h) (Or.inl ⟨by rfl, fun w9 hSw => ?_⟩) hHeld ?_
      · have y2 : w9.cell? ⟨P, 0, none⟩ = some (.slice ak nk ck) := (cell_of_block hSw 0).trans rfl
        have y3 : w9.cell? ⟨P, 1, none⟩ = some (.slice av nv cv) := (cell_of_block hSw 1).trans rfl
        have y4 : w9.cell? ⟨P, 2, none⟩ = some (.bool cg) := (cell_of_block hSw 2).trans rfl
        go_simp
      simp only [List.getElem_toArray, List.getElem_cons_succ, List.getElem_cons_zero, Act.put, List.setIfInBounds_toArray, List.set_cons_zero, List.set_cons_succ]
      refine wpAnyH_take (i := 4) (v := .pointer (some ⟨P, 1, none⟩)) rfl (by kernel_rfl) (by kernel_rfl) (by kernel_rfl) (fun _ _ _ h => h) (Or.inl ⟨by rfl, fun w9 hSw => ?_⟩) hHeld ?_
      · go_simp
      simp only [List.getElem_toArray, List.getElem_cons_succ, List.getElem_cons_zero, Act.put, List.setIfInBounds_toArray, List.set_cons_zero, List.set_cons_succ]
      refine wpAnyH_take (i := 5) (v := .slice av nv cv) rfl (by kernel_rfl) (by kernel_rfl) (by kernel_rfl) (fun _ _ _ h => h) (Or.inl ⟨by rfl, fun w9 hSw => ?_⟩) hHeld ?_
      · have y2 : w9.cell? ⟨P, 0, none⟩ = some (.slice ak nk ck) := (cell_of_block hSw 0).trans rfl
        have y3 : w9.cell? ⟨P, 1, none⟩ = some (.slice av nv cv) := (cell_of_block hSw 1).trans rfl
        have y4 : w9.cell? ⟨P, 2, none⟩ = some (.bool cg) := (cell_of_block hSw 2).trans rfl
        go_simp
      simp only [List.getElem_toArray, List.getElem_cons_succ, List.getElem_cons_zero, Act.put, List.setIfInBounds_toArray, List.set_cons_zero, List.set_cons_succ]
      refine wpAnyH_take (i := 7) (v := .pointer (some ⟨P, 2, none⟩)) rfl (by kernel_rfl) (by kernel_rfl) (by kernel_rfl) (fun _ _ _ h => h) (Or.inl ⟨by rfl, fun w9 hSw => ?_⟩) hHeld ?_
      · go_simp
      simp only [List.getElem_toArray, List.getElem_cons_succ, List.getElem_cons_zero, Act.put, List.setIfInBounds_toArray, List.set_cons_zero, List.set_cons_succ]
      refine wpAnyH_take (i := 8) (v := .bool cg) rfl (by kernel_rfl) (by kernel_rfl) (by kernel_rfl) (fun _ _ _ h => h) (Or.inl ⟨by rfl, fun w9 hSw => ?_⟩) hHeld ?_
      · have y2 : w9.cell? ⟨P, 0, none⟩ = some (.slice ak nk ck) := (cell_of_block hSw 0).trans rfl
        have y3 : w9.cell? ⟨P, 1, none⟩ = some (.slice av nv cv) := (cell_of_block hSw 1).trans rfl
        have y4 : w9.cell? ⟨P, 2, none⟩ = some (.bool cg) := (cell_of_block hSw 2).trans rfl
        go_simp
      simp only [List.getElem_toArray, List.getElem_cons_succ, List.getElem_cons_zero, Act.put, List.setIfInBounds_toArray, List.set_cons_zero, List.set_cons_succ]
      refine wpAnyH_ready (rs := [0, 3]) (by kernel_rfl) (by simp) ?_
      refine AllReadyH.cons rfl (fun K hK => ?_) (AllReadyH.cons rfl (fun K hK => ?_) AllReadyH.nil)
      · have z9 : V0.cell? ⟨w.heap.size + 2, 0, none⟩ = some (.slice ov on oc) := (cell_of_block HU.out.j.b2 0).trans rfl
        go_simp
        refine hK.out _ _ hHeld (fun hHeld => ?_)
        clear hK K z9
        try simp only [List.getElem_toArray, List.getElem_cons_succ, List.getElem_cons_zero, Act.put, List.setIfInBounds_toArray, List.set_cons_zero, List.set_cons_succ]
        refine wpAnyH_ready (rs := [3]) (by kernel_rfl) (by simp) ?_
        refine AllReadyH.cons rfl (fun K hK => ?_) AllReadyH.nil
        go_simp
        refine Calls.mono (bclone_any (.slice ak nk ck) c.key HU.out.kk HLn.out.1) ?_
        rintro e V2 ⟨xk, rfl, ho, hb⟩
        obtain ⟨ak2, ck2, rfl⟩ := row_form ho
        have HU2 : Hid (UnI w V2 rb (.slice ov on oc) A P (.slice ak nk ck) (.slice av nv cv) c) := HU.out.below hb
        have HRk : Hid (KBD V2 (fun x => w.heap.size + 6 ≤ x ∧ x < V2.heap.size ∧ (Value.slice ov on oc).ownBlock ≠ some x ∧ x ≠ P) (.slice ak2 c.key.length ck2) c.key) := HU.out.cloned ho hb HLn.out.1
        go_wp2_with fail
        have hH2 : (fun w' => w'.heap[P]? = some (.cells #[.slice ak nk ck, .slice av nv cv, .bool cg] 90)) V2 := (hb.block _ (heap_lt hHeld)).trans hHeld
        refine hK.out _ _ hH2 (fun hHeld => ?_)
        clear hK K hb ho hH2 HU
        have HU := HU2
        clear HU2
        try simp only [List.getElem_toArray, List.getElem_cons_succ, List.getElem_cons_zero, Act.put, List.setIfInBounds_toArray, List.set_cons_zero, List.set_cons_succ]
        refine wpAnyH_ready (rs := [6]) (by kernel_rfl) (by simp) ?_
        refine AllReadyH.cons rfl (fun K hK => ?_) AllReadyH.nil
        go_simp
        refine Calls.mono (bclone_any (.slice av nv cv) c.val HU.out.vw HLn.out.2) ?_
        rintro e V3 ⟨xv, rfl, ho, hb⟩
        obtain ⟨av2, cv2, rfl⟩ := row_form ho
        have HU2 : Hid (UnI w V3 rb (.slice ov on oc) A P (.slice ak nk ck) (.slice av nv cv) c) := HU.out.below hb
        have HRv : Hid (KBD V3 (fun x => w.heap.size + 6 ≤ x ∧ x < V3.heap.size ∧ (Value.slice ov on oc).ownBlock ≠ some x ∧ x ≠ P) (.slice av2 c.val.length cv2) c.val) := HU.out.cloned ho hb HLn.out.2
        have HRk2 : Hid (KBD V3 (fun x => w.heap.size + 6 ≤ x ∧ x < V3.heap.size ∧ (Value.slice ov on oc).ownBlock ≠ some x ∧ x ≠ P) (.slice ak2 c.key.length ck2) c.key) := HRk.out.mono (fun x hx => hb.block x hx.2.1) (fun x hx => ⟨hx.1, Nat.lt_of_lt_of_le hx.2.1 hb.size, hx.2.2⟩)
        go_wp2_with fail
        have hH2 : (fun w' => w'.heap[P]? = some (.cells #[.slice ak nk ck, .slice av nv cv, .bool cg] 90)) V3 := (hb.block _ (heap_lt hHeld)).trans hHeld
        refine hK.out _ _ hH2 (fun hHeld => ?_)
        clear hK K hb ho hH2 HU HRk
        have HU := HU2
        clear HU2
        have HRk := HRk2
        clear HRk2
        try simp only [List.getElem_toArray, List.getElem_cons_succ, List.getElem_cons_zero, Act.put, List.setIfInBounds_toArray, List.set_cons_zero, List.set_cons_succ]
        refine wpAnyH_take (i := 9) (v := .agg #[.slice ak2 c.key.length ck2, .slice av2 c.val.length cv2, .bool cg]) rfl (by kernel_rfl) (by kernel_rfl) (by kernel_rfl) (fun _ _ _ h => h) (Or.inl ⟨by rfl, fun w9 hSw => ?_⟩) hHeld ?_
        · go_simp
        simp only [List.getElem_toArray, List.getElem_cons_succ, List.getElem_cons_zero, Act.put, List.setIfInBounds_toArray, List.set_cons_zero, List.set_cons_succ]
        refine wpAnyH_ready (rs := [10]) (by kernel_rfl) (by simp) ?_
        refine AllReadyH.cons rfl (fun K hK => ?_) AllReadyH.nil
        go_simp
        have hb : Below V3.heap.size V3 (V3.alloc (.cells #[.slice ak2 c.key.length ck2, .slice av2 c.val.length cv2, .bool cg] 90)) := by go_grown
        have HU2 : Hid (UnI w (V3.alloc (.cells #[.slice ak2 c.key.length ck2, .slice av2 c.val.length cv2, .bool cg] 90)) rb (.slice ov on oc) A P (.slice ak nk ck) (.slice av nv cv) c) := HU.out.below hb
        have HR2 : Hid (KBD (V3.alloc (.cells #[.slice ak2 c.key.length ck2, .slice av2 c.val.length cv2, .bool cg] 90)) (fun x => w.heap.size + 6 ≤ x ∧ (Value.slice ov on oc).ownBlock ≠ some x ∧ x ≠ V3.heap.size) (.slice ak2 c.key.length ck2) c.key ∧ KBD (V3.alloc (.cells #[.slice ak2 c.key.length ck2, .slice av2 c.val.length cv2, .bool cg] 90)) (fun x => w.heap.size + 6 ≤ x ∧ (Value.slice ov on oc).ownBlock ≠ some x ∧ x ≠ V3.heap.size) (.slice av2 c.val.length cv2) c.val ∧ (V3.alloc (.cells #[.slice ak2 c.key.length ck2, .slice av2 c.val.length cv2, .bool cg] 90)).heap[V3.heap.size]? = some (.cells #[.slice ak2 c.key.length ck2, .slice av2 c.val.length cv2, .bool cg] 90) ∧ w.heap.size + 6 ≤ V3.heap.size ∧ (Value.slice ov on oc).ownBlock ≠ some V3.heap.size) := ⟨HRk.out.mono (fun x hx => hb.block x hx.2.1) (fun x hx => ⟨hx.1, hx.2.2.1, by omega⟩), HRv.out.mono (fun x hx => hb.block x hx.2.1) (fun x hx => ⟨hx.1, hx.2.2.1, by omega⟩), heap_alloc_new _ _, HU.out.j.sz, fun e => by have := (HU.out.j.row.lt _ e).2; omega⟩
        have hH2 : (fun w' => w'.heap[P]? = some (.cells #[.slice ak nk ck, .slice av nv cv, .bool cg] 90)) (V3.alloc (.cells #[.slice ak2 c.key.length ck2, .slice av2 c.val.length cv2, .bool cg] 90)) := (hb.block _ (heap_lt hHeld)).trans hHeld
        obtain ⟨gz, hgz⟩ : ∃ gz, gz = V3.heap.size := ⟨_, rfl⟩
        rw [← hgz] at HR2 ⊢
        refine hK.out _ _ hH2 (fun hHeld => ?_)
        clear hK K hb hH2 HU hgz HRk HRv
        have HU := HU2
        have HRR := HR2
        clear HU2 HR2
        try simp only [List.getElem_toArray, List.getElem_cons_succ, List.getElem_cons_zero, Act.put, List.setIfInBounds_toArray, List.set_cons_zero, List.set_cons_succ]
        generalize V3.alloc (.cells #[.slice ak2 c.key.length ck2, .slice av2 c.val.length cv2, .bool cg] 90) = V4 at HU HRR hHeld ⊢
        refine wpAnyH_ready (rs := [11]) (by kernel_rfl) (by simp) ?_
        refine AllReadyH.cons rfl (fun K hK => ?_) AllReadyH.nil
        refine step_append_ch (by rfl) _ _ (by rfl) (base := w.heap.size + 6) (v := .slice ov on oc) (A := A) ⟨c, .slice ak2 c.key.length ck2, .slice av2 c.val.length cv2⟩ ⟨_, _, _, rfl⟩ ⟨_, _, _, rfl⟩ (by rfl) HU.out.j.row gz (by rfl) (by rw [← HL.out.2.2]; exact HRR.out.2.2.1) (by have := HU.out.len; omega) HU.out.j.sz ?_
        intro v' V5 ho hg ha
        obtain ⟨ov2, oc2, rfl⟩ := row_form ho
        have HA2 : Hid (UnA w V5 rb (.slice ov on oc) (.slice ov2 (A.length + 1) oc2) A ⟨c, .slice ak2 c.key.length ck2, .slice av2 c.val.length cv2⟩) := UnA.of HU.out.j HU.out.len ho hg ha HRR.out.1 HRR.out.2.1
        have hH2 : (fun w' => w'.heap[P]? = some (.cells #[.slice ak nk ck, .slice av nv cv, .bool cg] 90)) V5 := (hg.block P (heap_lt hHeld) (fun e => HU.out.pv e.symm)).trans hHeld
        obtain ⟨q5, hq5⟩ : ∃ q5, q5 = A.length + 1 := ⟨_, rfl⟩
        rw [← hq5] at HA2 ⊢
        refine hK.out _ _ hH2 (fun hHeld => ?_)
        clear hK K hH2 ho hg ha hq5
        try simp only [List.getElem_toArray, List.getElem_cons_succ, List.getElem_cons_zero, Act.put, List.setIfInBounds_toArray, List.set_cons_zero, List.set_cons_succ]
        refine wpAnyH_ready (rs := [12]) (by kernel_rfl) (by simp) ?_
        refine AllReadyH.cons rfl (fun K hK => ?_) AllReadyH.nil
        have z9 : V5.cell? ⟨w.heap.size + 2, 0, none⟩ = some (.slice ov on oc) := (cell_of_block HA2.out.b2 0).trans rfl
        have z8 : V5.frozen? ⟨w.heap.size + 2, 0, none⟩ = false := unfrozen_of_block HA2.out.b2 0
        go_simp
        have HE : Hid (UnJ w (V5.setCell ⟨w.heap.size + 2, 0, none⟩ (.slice ov2 q5 oc2)) rb (.slice ov2 q5 oc2) (A ++ [⟨c, .slice ak2 c.key.length ck2, .slice av2 c.val.length cv2⟩])) := HA2.out.store
        have hH2 : (fun w' => w'.heap[P]? = some (.cells #[.slice ak nk ck, .slice av nv cv, .bool cg] 90)) (V5.setCell ⟨w.heap.size + 2, 0, none⟩ (.slice ov2 q5 oc2)) := (Below.heap_setCell _ _ _ _ (show P ≠ w.heap.size + 2 by have := HPL.out; omega)).trans hHeld
        refine hK.out _ _ hH2 (fun hHeld => ?_)
        clear hK K hH2 z9 z8
        try simp only [List.getElem_toArray, List.getElem_cons_succ, List.getElem_cons_zero, Act.put, List.setIfInBounds_toArray, List.set_cons_zero, List.set_cons_succ]
        refine wpAnyH_done (by kernel_rfl) ?_ _
        clear hHeld
        gi_wp2
        exact ⟨HE.out.b4, _, _, _, HC.out.2.2.1, HE.out.put r, by rw [List.map_append, HC.out.2.1]; rfl, HC.out.2.2.2.1, HC.out.2.2.2.2⟩
      · go_simp
        refine Calls.mono (bclone_any (.slice ak nk ck) c.key HU.out.kk HLn.out.1) ?_
        rintro e V7 ⟨xk, rfl, ho, hb⟩
        obtain ⟨ak2, ck2, rfl⟩ := row_form ho
        have HU2 : Hid (UnI w V7 rb (.slice ov on oc) A P (.slice ak nk ck) (.slice av nv cv) c) := HU.out.below hb
        have HRk : Hid (KBD V7 (fun x => w.heap.size + 6 ≤ x ∧ x < V7.heap.size ∧ (Value.slice ov on oc).ownBlock ≠ some x ∧ x ≠ P) (.slice ak2 c.key.length ck2) c.key) := HU.out.cloned ho hb HLn.out.1
        go_wp2_with fail
        have hH2 : (fun w' => w'.heap[P]? = some (.cells #[.slice ak nk ck, .slice av nv cv, .bool cg] 90)) V7 := (hb.block _ (heap_lt hHeld)).trans hHeld
        refine hK.out _ _ hH2 (fun hHeld => ?_)
        clear hK K hb ho hH2 HU
        have HU := HU2
        clear HU2
        try simp only [List.getElem_toArray, List.getElem_cons_succ, List.getElem_cons_zero, Act.put, List.setIfInBounds_toArray, List.set_cons_zero, List.set_cons_succ]
        refine wpAnyH_ready (rs := [0, 6]) (by kernel_rfl) (by simp) ?_
        refine AllReadyH.cons rfl (fun K hK => ?_) (AllReadyH.cons rfl (fun K hK => ?_) AllReadyH.nil)
        · have z9 : V7.cell? ⟨w.heap.size + 2, 0, none⟩ = some (.slice ov on oc) := (cell_of_block HU.out.j.b2 0).trans rfl
          go_simp
          refine hK.out _ _ hHeld (fun hHeld => ?_)
          clear hK K z9
          try simp only [List.getElem_toArray, List.getElem_cons_succ, List.getElem_cons_zero, Act.put, List.setIfInBounds_toArray, List.set_cons_zero, List.set_cons_succ]
          refine wpAnyH_ready (rs := [6]) (by kernel_rfl) (by simp) ?_
          refine AllReadyH.cons rfl (fun K hK => ?_) AllReadyH.nil
          go_simp
          refine Calls.mono (bclone_any (.slice av nv cv) c.val HU.out.vw HLn.out.2) ?_
          rintro e V9 ⟨xv, rfl, ho, hb⟩
          obtain ⟨av2, cv2, rfl⟩ := row_form ho
          have HU2 : Hid (UnI w V9 rb (.slice ov on oc) A P (.slice ak nk ck) (.slice av nv cv) c) := HU.out.below hb
          have HRv : Hid (KBD V9 (fun x => w.heap.size + 6 ≤ x ∧ x < V9.heap.size ∧ (Value.slice ov on oc).ownBlock ≠ some x ∧ x ≠ P) (.slice av2 c.val.length cv2) c.val) := HU.out.cloned ho hb HLn.out.2
          have HRk2 : Hid (KBD V9 (fun x => w.heap.size + 6 ≤ x ∧ x < V9.heap.size ∧ (Value.slice ov on oc).ownBlock ≠ some x ∧ x ≠ P) (.slice ak2 c.key.length ck2) c.key) := HRk.out.mono (fun x hx => hb.block x hx.2.1) (fun x hx => ⟨hx.1, Nat.lt_of_lt_of_le hx.2.1 hb.size, hx.2.2⟩)
          go_wp2_with fail
          have hH2 : (fun w' => w'.heap[P]? = some (.cells #[.slice ak nk ck, .slice av nv cv, .bool cg] 90)) V9 := (hb.block _ (heap_lt hHeld)).trans hHeld
          refine hK.out _ _ hH2 (fun hHeld => ?_)
          clear hK K hb ho hH2 HU HRk
          have HU := HU2
          clear HU2
          have HRk := HRk2
          clear HRk2
          try simp only [List.getElem_toArray, List.getElem_cons_succ, List.getElem_cons_zero, Act.put, List.setIfInBounds_toArray, List.set_cons_zero, List.set_cons_succ]
          refine wpAnyH_take (i := 9) (v := .agg #[.slice ak2 c.key.length ck2, .slice av2 c.val.length cv2, .bool cg]) rfl (by kernel_rfl) (by kernel_rfl) (by kernel_rfl) (fun _ _ _ h => h) (Or.inl ⟨by rfl, fun w9 hSw => ?_⟩) hHeld ?_
          · go_simp
          simp only [List.getElem_toArray, List.getElem_cons_succ, List.getElem_cons_zero, Act.put, List.setIfInBounds_toArray, List.set_cons_zero, List.set_cons_succ]
          refine wpAnyH_ready (rs := [10]) (by kernel_rfl) (by simp) ?_
          refine AllReadyH.cons rfl (fun K hK => ?_) AllReadyH.nil
          go_simp
          have hb : Below V9.heap.size V9 (V9.alloc (.cells #[.slice ak2 c.key.length ck2, .slice av2 c.val.length cv2, .bool cg] 90)) := by go_grown
          have HU2 : Hid (UnI w (V9.alloc (.cells #[.slice ak2 c.key.length ck2, .slice av2 c.val.length cv2, .bool cg] 90)) rb (.slice ov on oc) A P (.slice ak nk ck) (.slice av nv cv) c) := HU.out.below hb
          have HR2 : Hid (KBD (V9.alloc (.cells #[.slice ak2 c.key.length ck2, .slice av2 c.val.length cv2, .bool cg] 90)) (fun x => w.heap.size + 6 ≤ x ∧ (Value.slice ov on oc).ownBlock ≠ some x ∧ x ≠ V9.heap.size) (.slice ak2 c.key.length ck2) c.key ∧ KBD (V9.alloc (.cells #[.slice ak2 c.key.length ck2, .slice av2 c.val.length cv2, .bool cg] 90)) (fun x => w.heap.size + 6 ≤ x ∧ (Value.slice ov on oc).ownBlock ≠ some x ∧ x ≠ V9.heap.size) (.slice av2 c.val.length cv2) c.val ∧ (V9.alloc (.cells #[.slice ak2 c.key.length ck2, .slice av2 c.val.length cv2, .bool cg] 90)).heap[V9.heap.size]? = some (.cells #[.slice ak2 c.key.length ck2, .slice av2 c.val.length cv2, .bool cg] 90) ∧ w.heap.size + 6 ≤ V9.heap.size ∧ (Value.slice ov on oc).ownBlock ≠ some V9.heap.size) := ⟨HRk.out.mono (fun x hx => hb.block x hx.2.1) (fun x hx => ⟨hx.1, hx.2.2.1, by omega⟩), HRv.out.mono (fun x hx => hb.block x hx.2.1) (fun x hx => ⟨hx.1, hx.2.2.1, by omega⟩), heap_alloc_new _ _, HU.out.j.sz, fun e => by have := (HU.out.j.row.lt _ e).2; omega⟩
          have hH2 : (fun w' => w'.heap[P]? = some (.cells #[.slice ak nk ck, .slice av nv cv, .bool cg] 90)) (V9.alloc (.cells #[.slice ak2 c.key.length ck2, .slice av2 c.val.length cv2, .bool cg] 90)) := (hb.block _ (heap_lt hHeld)).trans hHeld
          obtain ⟨gz, hgz⟩ : ∃ gz, gz = V9.heap.size := ⟨_, rfl⟩
          rw [← hgz] at HR2 ⊢
          refine hK.out _ _ hH2 (fun hHeld => ?_)
          clear hK K hb hH2 HU hgz HRk HRv
          have HU := HU2
          have HRR := HR2
          clear HU2 HR2
          try simp only [List.getElem_toArray, List.getElem_cons_succ, List.getElem_cons_zero, Act.put, List.setIfInBounds_toArray, List.set_cons_zero, List.set_cons_succ]
          generalize V9.alloc (.cells #[.slice ak2 c.key.length ck2, .slice av2 c.val.length cv2, .bool cg] 90) = V10 at HU HRR hHeld ⊢
          refine wpAnyH_ready (rs := [11]) (by kernel_rfl) (by simp) ?_
          refine AllReadyH.cons rfl (fun K hK => ?_) AllReadyH.nil
          refine step_append_ch (by rfl) _ _ (by rfl) (base := w.heap.size + 6) (v := .slice ov on oc) (A := A) ⟨c, .slice ak2 c.key.length ck2, .slice av2 c.val.length cv2⟩ ⟨_, _, _, rfl⟩ ⟨_, _, _, rfl⟩ (by rfl) HU.out.j.row gz (by rfl) (by rw [← HL.out.2.2]; exact HRR.out.2.2.1) (by have := HU.out.len; omega) HU.out.j.sz ?_
          intro v' V11 ho hg ha
          obtain ⟨ov2, oc2, rfl⟩ := row_form ho
          have HA2 : Hid (UnA w V11 rb (.slice ov on oc) (.slice ov2 (A.length + 1) oc2) A ⟨c, .slice ak2 c.key.length ck2, .slice av2 c.val.length cv2⟩) := UnA.of HU.out.j HU.out.len ho hg ha HRR.out.1 HRR.out.2.1
          have hH2 : (fun w' => w'.heap[P]? = some (.cells #[.slice ak nk ck, .slice av nv cv, .bool cg] 90)) V11 := (hg.block P (heap_lt hHeld) (fun e => HU.out.pv e.symm)).trans hHeld
          obtain ⟨q5, hq5⟩ : ∃ q5, q5 = A.length + 1 := ⟨_, rfl⟩
          rw [← hq5] at HA2 ⊢
          refine hK.out _ _ hH2 (fun hHeld => ?_)
          clear hK K hH2 ho hg ha hq5
          try simp only [List.getElem_toArray, List.getElem_cons_succ, List.getElem_cons_zero, Act.put, List.setIfInBounds_toArray, List.set_cons_zero, List.set_cons_succ]
          refine wpAnyH_ready (rs := [12]) (by kernel_rfl) (by simp) ?_
          refine AllReadyH.cons rfl (fun K hK => ?_) AllReadyH.nil
          have z9 : V11.cell? ⟨w.heap.size + 2, 0, none⟩ = some (.slice ov on oc) := (cell_of_block HA2.out.b2 0).trans rfl
          have z8 : V11.frozen? ⟨w.heap.size + 2, 0, none⟩ = false := unfrozen_of_block HA2.out.b2 0
          go_simp
          have HE : Hid (UnJ w (V11.setCell ⟨w.heap.size + 2, 0, none⟩ (.slice ov2 q5 oc2)) rb (.slice ov2 q5 oc2) (A ++ [⟨c, .slice ak2 c.key.length ck2, .slice av2 c.val.length cv2⟩])) := HA2.out.store
          have hH2 : (fun w' => w'.heap[P]? = some (.cells #[.slice ak nk ck, .slice av nv cv, .bool cg] 90)) (V11.setCell ⟨w.heap.size + 2, 0, none⟩ (.slice ov2 q5 oc2)) := (Below.heap_setCell _ _ _ _ (show P ≠ w.heap.size + 2 by have := HPL.out; omega)).trans hHeld
          refine hK.out _ _ hH2 (fun hHeld => ?_)
          clear hK K hH2 z9 z8
          try simp only [List.getElem_toArray, List.getElem_cons_succ, List.getElem_cons_zero, Act.put, List.setIfInBounds_toArray, List.set_cons_zero, List.set_cons_succ]
          refine wpAnyH_done (by kernel_rfl) ?_ _
          clear hHeld
          gi_wp2
          exact ⟨HE.out.b4, _, _, _, HC.out.2.2.1, HE.out.put r, by rw [List.map_append, HC.out.2.1]; rfl, HC.out.2.2.2.1, HC.out.2.2.2.2⟩
        · go_simp
          refine Calls.mono (bclone_any (.slice av nv cv) c.val HU.out.vw HLn.out.2) ?_
          rintro e V13 ⟨xv, rfl, ho, hb⟩
          obtain ⟨av2, cv2, rfl⟩ := row_form ho
          have HU2 : Hid (UnI w V13 rb (.slice ov on oc) A P (.slice ak nk ck) (.slice av nv cv) c) := HU.out.below hb
          have HRv : Hid (KBD V13 (fun x => w.heap.size + 6 ≤ x ∧ x < V13.heap.size ∧ (Value.slice ov on oc).ownBlock ≠ some x ∧ x ≠ P) (.slice av2 c.val.length cv2) c.val) := HU.out.cloned ho hb HLn.out.2
          have HRk2 : Hid (KBD V13 (fun x => w.heap.size + 6 ≤ x ∧ x < V13.heap.size ∧ (Value.slice ov on oc).ownBlock ≠ some x ∧ x ≠ P) (.slice ak2 c.key.length ck2) c.key) := HRk.out.mono (fun x hx => hb.block x hx.2.1) (fun x hx => ⟨hx.1, Nat.lt_of_lt_of_le hx.2.1 hb.size, hx.2.2⟩)
          go_wp2_with fail
          have hH2 : (fun w' => w'.heap[P]? = some (.cells #[.slice ak nk ck, .slice av nv cv, .bool cg] 90)) V13 := (hb.block _ (heap_lt hHeld)).trans hHeld
          refine hK.out _ _ hH2 (fun hHeld => ?_)
          clear hK K hb ho hH2 HU HRk
          have HU := HU2
          clear HU2
          have HRk := HRk2
          clear HRk2
          try simp only [List.getElem_toArray, List.getElem_cons_succ, List.getElem_cons_zero, Act.put, List.setIfInBounds_toArray, List.set_cons_zero, List.set_cons_succ]
          refine wpAnyH_take (i := 9) (v := .agg #[.slice ak2 c.key.length ck2, .slice av2 c.val.length cv2, .bool cg]) rfl (by kernel_rfl) (by kernel_rfl) (by kernel_rfl) (fun _ _ _ h => h) (Or.inl ⟨by rfl, fun w9 hSw => ?_⟩) hHeld ?_
          · go_simp
          simp only [List.getElem_toArray, List.getElem_cons_succ, List.getElem_cons_zero, Act.put, List.setIfInBounds_toArray, List.set_cons_zero, List.set_cons_succ]
          refine wpAnyH_ready (rs := [0, 10]) (by kernel_rfl) (by simp) ?_
          refine AllReadyH.cons rfl (fun K hK => ?_) (AllReadyH.cons rfl (fun K hK => ?_) AllReadyH.nil)
          · have z9 : V13.cell? ⟨w.heap.size + 2, 0, none⟩ = some (.slice ov on oc) := (cell_of_block HU.out.j.b2 0).trans rfl
            go_simp
            refine hK.out _ _ hHeld (fun hHeld => ?_)
            clear hK K z9
            try simp only [List.getElem_toArray, List.getElem_cons_succ, List.getElem_cons_zero, Act.put, List.setIfInBounds_toArray, List.set_cons_zero, List.set_cons_succ]
            refine wpAnyH_ready (rs := [10]) (by kernel_rfl) (by simp) ?_
            refine AllReadyH.cons rfl (fun K hK => ?_) AllReadyH.nil
            go_simp
            have hb : Below V13.heap.size V13 (V13.alloc (.cells #[.slice ak2 c.key.length ck2, .slice av2 c.val.length cv2, .bool cg] 90)) := by go_grown
            have HU2 : Hid (UnI w (V13.alloc (.cells #[.slice ak2 c.key.length ck2, .slice av2 c.val.length cv2, .bool cg] 90)) rb (.slice ov on oc) A P (.slice ak nk ck) (.slice av nv cv) c) := HU.out.below hb
            have HR2 : Hid (KBD (V13.alloc (.cells #[.slice ak2 c.key.length ck2, .slice av2 c.val.length cv2, .bool cg] 90)) (fun x => w.heap.size + 6 ≤ x ∧ (Value.slice ov on oc).ownBlock ≠ some x ∧ x ≠ V13.heap.size) (.slice ak2 c.key.length ck2) c.key ∧ KBD (V13.alloc (.cells #[.slice ak2 c.key.length ck2, .slice av2 c.val.length cv2, .bool cg] 90)) (fun x => w.heap.size + 6 ≤ x ∧ (Value.slice ov on oc).ownBlock ≠ some x ∧ x ≠ V13.heap.size) (.slice av2 c.val.length cv2) c.val ∧ (V13.alloc (.cells #[.slice ak2 c.key.length ck2, .slice av2 c.val.length cv2, .bool cg] 90)).heap[V13.heap.size]? = some (.cells #[.slice ak2 c.key.length ck2, .slice av2 c.val.length cv2, .bool cg] 90) ∧ w.heap.size + 6 ≤ V13.heap.size ∧ (Value.slice ov on oc).ownBlock ≠ some V13.heap.size) := ⟨HRk.out.mono (fun x hx => hb.block x hx.2.1) (fun x hx => ⟨hx.1, hx.2.2.1, by omega⟩), HRv.out.mono (fun x hx => hb.block x hx.2.1) (fun x hx => ⟨hx.1, hx.2.2.1, by omega⟩), heap_alloc_new _ _, HU.out.j.sz, fun e => by have := (HU.out.j.row.lt _ e).2; omega⟩
            have hH2 : (fun w' => w'.heap[P]? = some (.cells #[.slice ak nk ck, .slice av nv cv, .bool cg] 90)) (V13.alloc (.cells #[.slice ak2 c.key.length ck2, .slice av2 c.val.length cv2, .bool cg] 90)) := (hb.block _ (heap_lt hHeld)).trans hHeld
            obtain ⟨gz, hgz⟩ : ∃ gz, gz = V13.heap.size := ⟨_, rfl⟩
            rw [← hgz] at HR2 ⊢
            refine hK.out _ _ hH2 (fun hHeld => ?_)
            clear hK K hb hH2 HU hgz HRk HRv
            have HU := HU2
            have HRR := HR2
            clear HU2 HR2
            try simp only [List.getElem_toArray, List.getElem_cons_succ, List.getElem_cons_zero, Act.put, List.setIfInBounds_toArray, List.set_cons_zero, List.set_cons_succ]
            generalize V13.alloc (.cells #[.slice ak2 c.key.length ck2, .slice av2 c.val.length cv2, .bool cg] 90) = V15 at HU HRR hHeld ⊢
            refine wpAnyH_ready (rs := [11]) (by kernel_rfl) (by simp) ?_
            refine AllReadyH.cons rfl (fun K hK => ?_) AllReadyH.nil
            refine step_append_ch (by rfl) _ _ (by rfl) (base := w.heap.size + 6) (v := .slice ov on oc) (A := A) ⟨c, .slice ak2 c.key.length ck2, .slice av2 c.val.length cv2⟩ ⟨_, _, _, rfl⟩ ⟨_, _, _, rfl⟩ (by rfl) HU.out.j.row gz (by rfl) (by rw [← HL.out.2.2]; exact HRR.out.2.2.1) (by have := HU.out.len; omega) HU.out.j.sz ?_
            intro v' V16 ho hg ha
            obtain ⟨ov2, oc2, rfl⟩ := row_form ho
            have HA2 : Hid (UnA w V16 rb (.slice ov on oc) (.slice ov2 (A.length + 1) oc2) A ⟨c, .slice ak2 c.key.length ck2, .slice av2 c.val.length cv2⟩) := UnA.of HU.out.j HU.out.len ho hg ha HRR.out.1 HRR.out.2.1
            have hH2 : (fun w' => w'.heap[P]? = some (.cells #[.slice ak nk ck, .slice av nv cv, .bool cg] 90)) V16 := (hg.block P (heap_lt hHeld) (fun e => HU.out.pv e.symm)).trans hHeld
            obtain ⟨q5, hq5⟩ : ∃ q5, q5 = A.length + 1 := ⟨_, rfl⟩
            rw [← hq5] at HA2 ⊢
            refine hK.out _ _ hH2 (fun hHeld => ?_)
            clear hK K hH2 ho hg ha hq5
            try simp only [List.getElem_toArray, List.getElem_cons_succ, List.getElem_cons_zero, Act.put, List.setIfInBounds_toArray, List.set_cons_zero, List.set_cons_succ]
            refine wpAnyH_ready (rs := [12]) (by kernel_rfl) (by simp) ?_
            refine AllReadyH.cons rfl (fun K hK => ?_) AllReadyH.nil
            have z9 : V16.cell? ⟨w.heap.size + 2, 0, none⟩ = some (.slice ov on oc) := (cell_of_block HA2.out.b2 0).trans rfl
            have z8 : V16.frozen? ⟨w.heap.size + 2, 0, none⟩ = false := unfrozen_of_block HA2.out.b2 0
            go_simp
            have HE : Hid (UnJ w (V16.setCell ⟨w.heap.size + 2, 0, none⟩ (.slice ov2 q5 oc2)) rb (.slice ov2 q5 oc2) (A ++ [⟨c, .slice ak2 c.key.length ck2, .slice av2 c.val.length cv2⟩])) := HA2.out.store
            have hH2 : (fun w' => w'.heap[P]? = some (.cells #[.slice ak nk ck, .slice av nv cv, .bool cg] 90)) (V16.setCell ⟨w.heap.size + 2, 0, none⟩ (.slice ov2 q5 oc2)) := (Below.heap_setCell _ _ _ _ (show P ≠ w.heap.size + 2 by have := HPL.out; omega)).trans hHeld
            refine hK.out _ _ hH2 (fun hHeld => ?_)
            clear hK K hH2 z9 z8
            try simp only [List.getElem_toArray, List.getElem_cons_succ, List.getElem_cons_zero, Act.put, List.setIfInBounds_toArray, List.set_cons_zero, List.set_cons_succ]
            refine wpAnyH_done (by kernel_rfl) ?_ _
            clear hHeld
            gi_wp2
            exact ⟨HE.out.b4, _, _, _, HC.out.2.2.1, HE.out.put r, by rw [List.map_append, HC.out.2.1]; rfl, HC.out.2.2.2.1, HC.out.2.2.2.2⟩
          · go_simp
            have hb : Below V13.heap.size V13 (V13.alloc (.cells #[.slice ak2 c.key.length ck2, .slice av2 c.val.length cv2, .bool cg] 90)) := by go_grown
            have HU2 : Hid (UnI w (V13.alloc (.cells #[.slice ak2 c.key.length ck2, .slice av2 c.val.length cv2, .bool cg] 90)) rb (.slice ov on oc) A P (.slice ak nk ck) (.slice av nv cv) c) := HU.out.below hb
            have HR2 : Hid (KBD (V13.alloc (.cells #[.slice ak2 c.key.length ck2, .slice av2 c.val.length cv2, .bool cg] 90)) (fun x => w.heap.size + 6 ≤ x ∧ (Value.slice ov on oc).ownBlock ≠ some x ∧ x ≠ V13.heap.size) (.slice ak2 c.key.length ck2) c.key ∧ KBD (V13.alloc (.cells #[.slice ak2 c.key.length ck2, .slice av2 c.val.length cv2, .bool cg] 90)) (fun x => w.heap.size + 6 ≤ x ∧ (Value.slice ov on oc).ownBlock ≠ some x ∧ x ≠ V13.heap.size) (.slice av2 c.val.length cv2) c.val ∧ (V13.alloc (.cells #[.slice ak2 c.key.length ck2, .slice av2 c.val.length cv2, .bool cg] 90)).heap[V13.heap.size]? = some (.cells #[.slice ak2 c.key.length ck2, .slice av2 c.val.length cv2, .bool cg] 90) ∧ w.heap.size + 6 ≤ V13.heap.size ∧ (Value.slice ov on oc).ownBlock ≠ some V13.heap.size) := ⟨HRk.out.mono (fun x hx => hb.block x hx.2.1) (fun x hx => ⟨hx.1, hx.2.2.1, by omega⟩), HRv.out.mono (fun x hx => hb.block x hx.2.1) (fun x hx => ⟨hx.1, hx.2.2.1, by omega⟩), heap_alloc_new _ _, HU.out.j.sz, fun e => by have := (HU.out.j.row.lt _ e).2; omega⟩
            have hH2 : (fun w' => w'.heap[P]? = some (.cells #[.slice ak nk ck, .slice av nv cv, .bool cg] 90)) (V13.alloc (.cells #[.slice ak2 c.key.length ck2, .slice av2 c.val.length cv2, .bool cg] 90)) := (hb.block _ (heap_lt hHeld)).trans hHeld
            obtain ⟨gz, hgz⟩ : ∃ gz, gz = V13.heap.size := ⟨_, rfl⟩
            rw [← hgz] at HR2 ⊢
            refine hK.out _ _ hH2 (fun hHeld => ?_)
            clear hK K hb hH2 HU hgz HRk HRv
            have HU := HU2
            have HRR := HR2
            clear HU2 HR2
            try simp only [List.getElem_toArray, List.getElem_cons_succ, List.getElem_cons_zero, Act.put, List.setIfInBounds_toArray, List.set_cons_zero, List.set_cons_succ]
            generalize V13.alloc (.cells #[.slice ak2 c.key.length ck2, .slice av2 c.val.length cv2, .bool cg] 90) = V18 at HU HRR hHeld ⊢
            refine wpAnyH_ready (rs := [0]) (by kernel_rfl) (by simp) ?_
            refine AllReadyH.cons rfl (fun K hK => ?_) AllReadyH.nil
            have z9 : V18.cell? ⟨w.heap.size + 2, 0, none⟩ = some (.slice ov on oc) := (cell_of_block HU.out.j.b2 0).trans rfl
            go_simp
            refine hK.out _ _ hHeld (fun hHeld => ?_)
            clear hK K z9
            try simp only [List.getElem_toArray, List.getElem_cons_succ, List.getElem_cons_zero, Act.put, List.setIfInBounds_toArray, List.set_cons_zero, List.set_cons_succ]
            refine wpAnyH_ready (rs := [11]) (by kernel_rfl) (by simp) ?_
            refine AllReadyH.cons rfl (fun K hK => ?_) AllReadyH.nil
            refine step_append_ch (by rfl) _ _ (by rfl) (base := w.heap.size + 6) (v := .slice ov on oc) (A := A) ⟨c, .slice ak2 c.key.length ck2, .slice av2 c.val.length cv2⟩ ⟨_, _, _, rfl⟩ ⟨_, _, _, rfl⟩ (by rfl) HU.out.j.row gz (by rfl) (by rw [← HL.out.2.2]; exact HRR.out.2.2.1) (by have := HU.out.len; omega) HU.out.j.sz ?_
            intro v' V20 ho hg ha
            obtain ⟨ov2, oc2, rfl⟩ := row_form ho
            have HA2 : Hid (UnA w V20 rb (.slice ov on oc) (.slice ov2 (A.length + 1) oc2) A ⟨c, .slice ak2 c.key.length ck2, .slice av2 c.val.length cv2⟩) := UnA.of HU.out.j HU.out.len ho hg ha HRR.out.1 HRR.out.2.1
            have hH2 : (fun w' => w'.heap[P]? = some (.cells #[.slice ak nk ck, .slice av nv cv, .bool cg] 90)) V20 := (hg.block P (heap_lt hHeld) (fun e => HU.out.pv e.symm)).trans hHeld
            obtain ⟨q5, hq5⟩ : ∃ q5, q5 = A.length + 1 := ⟨_, rfl⟩
            rw [← hq5] at HA2 ⊢
            refine hK.out _ _ hH2 (fun hHeld => ?_)
            clear hK K hH2 ho hg ha hq5
            try simp only [List.getElem_toArray, List.getElem_cons_succ, List.getElem_cons_zero, Act.put, List.setIfInBounds_toArray, List.set_cons_zero, List.set_cons_succ]
            refine wpAnyH_ready (rs := [12]) (by kernel_rfl) (by simp) ?_
            refine AllReadyH.cons rfl (fun K hK => ?_) AllReadyH.nil
            have z9 : V20.cell? ⟨w.heap.size + 2, 0, none⟩ = some (.slice ov on oc) := (cell_of_block HA2.out.b2 0).trans rfl
            have z8 : V20.frozen? ⟨w.heap.size + 2, 0, none⟩ = false := unfrozen_of_block HA2.out.b2 0
            go_simp
            have HE : Hid (UnJ w (V20.setCell ⟨w.heap.size + 2, 0, none⟩ (.slice ov2 q5 oc2)) rb (.slice ov2 q5 oc2) (A ++ [⟨c, .slice ak2 c.key.length ck2, .slice av2 c.val.length cv2⟩])) := HA2.out.store
            have hH2 : (fun w' => w'.heap[P]? = some (.cells #[.slice ak nk ck, .slice av nv cv, .bool cg] 90)) (V20.setCell ⟨w.heap.size + 2, 0, none⟩ (.slice ov2 q5 oc2)) := (Below.heap_setCell _ _ _ _ (show P ≠ w.heap.size + 2 by have := HPL.out; omega)).trans hHeld
            refine hK.out _ _ hH2 (fun hHeld => ?_)
            clear hK K hH2 z9 z8
            try simp only [List.getElem_toArray, List.getElem_cons_succ, List.getElem_cons_zero, Act.put, List.setIfInBounds_toArray, List.set_cons_zero, List.set_cons_succ]
            refine wpAnyH_done (by kernel_rfl) ?_ _
            clear hHeld
            gi_wp2
            exact ⟨HE.out.b4, _, _, _, HC.out.2.2.1, HE.out.put r, by rw [List.map_append, HC.out.2.1]; rfl, HC.out.2.2.2.1, HC.out.2.2.2.2⟩
  case hE =>
    rintro e W' ⟨hv, hq⟩
    refine ⟨hv, ?_⟩
    clear hst hpe htm hpar has' hbod h0 hXc hv
    rcases hq with ⟨l0, v, A, hkl, hj, hA, hok, hen⟩ | ⟨hx, hno⟩
    · refine Or.inl ⟨hj.b4, ?_⟩
      obtain ⟨re, hre⟩ : ∃ re : Loop, { r with state := .exhausted } = re := ⟨_, rfl⟩
      rw [hre]
      obtain ⟨va, vc, hv⟩ := row_form hj.row
      subst hv
      have J1 : Hid (UnJ w (W'.putObj (w.heap.size + 5) (.loop re)) re (.slice va A.length vc) A) := hj.put re
      have HO : Hid (A.map CI.c = l0 ∧ okM l0 ∧ encK l0 = bs) := ⟨hA, hok, by rw [hen, List.take_length]⟩
      show Exit.inBlock _ _ _ _ (W'.putObj (w.heap.size + 5) (.loop re))
      generalize W'.putObj (w.heap.size + 5) (.loop re) = V at J1 ⊢
      clear hj hre hA hok hen hkl
      obtain ⟨q, hq⟩ : ∃ q, q = A.length := ⟨_, rfl⟩
      rw [← hq] at J1
      have HQ : Hid (q = A.length) := hq
      clear hq
      have e0 : V.cell? ⟨w.heap.size, 0, none⟩ = some (.slice none 0 0) := (cell_of_block J1.out.b0 0).trans rfl
      have f0 : V.frozen? ⟨w.heap.size, 0, none⟩ = false := unfrozen_of_block J1.out.b0 0
      have e1 : V.cell? ⟨w.heap.size + 1, 0, none⟩ = some (.int .i64 0) := (cell_of_block J1.out.b1 0).trans rfl
      have f1 : V.frozen? ⟨w.heap.size + 1, 0, none⟩ = false := unfrozen_of_block J1.out.b1 0
      have e2 : V.cell? ⟨w.heap.size + 1 + 1, 0, none⟩ = some (.slice va q vc) := (cell_of_block J1.out.b2 0).trans rfl
      go_wp2
      have hs := J1.out.sz
      have o1 : ∀ b, b ≠ w.heap.size + 4 → (((V.setCell ⟨w.heap.size, 0, none⟩ (.slice va q vc)).setCell ⟨w.heap.size + 1, 0, none⟩ (.int .i64 0)).putObj (w.heap.size + 4) (.deferred none)).heap[b]? = ((V.setCell ⟨w.heap.size, 0, none⟩ (.slice va q vc)).setCell ⟨w.heap.size + 1, 0, none⟩ (.int .i64 0)).heap[b]? := fun b hb => World.putObj_heap_other hb
      have o2 : ∀ b, b ≠ w.heap.size + 1 → ((V.setCell ⟨w.heap.size, 0, none⟩ (.slice va q vc)).setCell ⟨w.heap.size + 1, 0, none⟩ (.int .i64 0)).heap[b]? = (V.setCell ⟨w.heap.size, 0, none⟩ (.slice va q vc)).heap[b]? := fun b hb => Below.heap_setCell _ _ _ _ hb
      have o3 : ∀ b, b ≠ w.heap.size → (V.setCell ⟨w.heap.size, 0, none⟩ (.slice va q vc)).heap[b]? = V.heap[b]? := fun b hb => Below.heap_setCell _ _ _ _ hb
      have k0 := (o1 w.heap.size (by omega)).trans ((o2 _ (by omega)).trans (heap_setCell_same _ _ 0 _ 43 (.slice va q vc) J1.out.b0))
      have k1 := (o1 (w.heap.size + 1) (by omega)).trans (heap_setCell_same _ _ 0 _ 25 (.int .i64 0) ((o3 _ (by omega)).trans J1.out.b1))
      have kb : ∀ b, w.heap.size + 6 ≤ b → (((V.setCell ⟨w.heap.size, 0, none⟩ (.slice va q vc)).setCell ⟨w.heap.size + 1, 0, none⟩ (.int .i64 0)).putObj (w.heap.size + 4) (.deferred none)).heap[b]? = V.heap[b]? := fun b hb => (o1 b (by omega)).trans ((o2 b (by omega)).trans (o3 b (by omega)))
      have hb := (J1.out.bl.setCell (p := ⟨w.heap.size, 0, none⟩) (Nat.le_refl _) (.slice va q vc)).setCell (p := ⟨w.heap.size + 1, 0, none⟩) (by show w.heap.size ≤ w.heap.size + 1; omega) (.int .i64 0)
      have hss : (((V.setCell ⟨w.heap.size, 0, none⟩ (.slice va q vc)).setCell ⟨w.heap.size + 1, 0, none⟩ (.int .i64 0)).putObj (w.heap.size + 4) (.deferred none)).heap.size = V.heap.size := by simp [World.putObj]
      refine ⟨by simp, .inl ⟨_, _, rfl, run_takeDeferred (w := (V.setCell ⟨w.heap.size, 0, none⟩ (.slice va q vc)).setCell ⟨w.heap.size + 1, 0, none⟩ (.int .i64 0)) ((o2 _ (by omega)).trans ((o3 _ (by omega)).trans J1.out.b3)), ?_⟩⟩
      refine ⟨.tuple #[.slice va q vc, .int .i64 0], by simp [results, Tryz.results33, asAddr, lv43 k0, lv25 k1], ⟨hb.os, hb.tape, hb.output, by simpa [World.putObj] using hb.size, fun b hb' => (o1 b (by omega)).trans (hb.block b hb')⟩, Or.inl ⟨l0, _, HO.out.2.1, HO.out.2.2, rfl, ?_⟩⟩
      rw [← HO.out.1]
      have hrow := J1.out.row
      have hup : ∀ {u : Value} {xs : List Int}, KBD V (fun x => w.heap.size + 6 ≤ x ∧ (Value.slice va q vc).ownBlock ≠ some x) u xs → KBD (((V.setCell ⟨w.heap.size, 0, none⟩ (.slice va q vc)).setCell ⟨w.heap.size + 1, 0, none⟩ (.int .i64 0)).putObj (w.heap.size + 4) (.deferred none)) (fun x => w.heap.size ≤ x ∧ x < (((V.setCell ⟨w.heap.size, 0, none⟩ (.slice va q vc)).setCell ⟨w.heap.size + 1, 0, none⟩ (.int .i64 0)).putObj (w.heap.size + 4) (.deferred none)).heap.size) u xs := fun hk => ⟨hk.is.keep fun x hx => kb x (hk.d x hx).1, fun x hx => ⟨by have := (hk.d x hx).1; omega, by rw [hss]; exact hk.is.lt x hx⟩, hk.len⟩
      have hqq := HQ.out
      subst hqq
      refine row_chs (base := w.heap.size + 6) (ownsRow_heap hrow (fun b hb => kb b (hrow.lt b hb).1)) (fun f hf => ⟨hup (J1.out.it f hf).1, hup (J1.out.it f hf).2⟩) (fun b hb => ⟨by have := (hrow.lt b hb).1; omega, by rw [hss]; exact (hrow.lt b hb).2⟩) ?_
      have h8 : A.length = l0.length := by rw [← HO.out.1]; simp
      have h9 := encK_ge l0
      have h7 := congrArg List.length HO.out.2.2
      have h6 := HH.out.2.2
      omega
    · refine Or.inr ⟨.ret, hx.b4, ?_⟩
      obtain ⟨re, hre⟩ : ∃ re : Loop, { r with state := .exhausted, pending := some .ret } = re := ⟨_, rfl⟩
      rw [hre]
      have hX1 := hx.ends re
      have HB : Hid (∀ l, okL l → encK l ≠ bs) := hno
      generalize W'.putObj (w.heap.size + 5) (.loop re) = V at hX1 ⊢
      have X1 : Hid _ := hX1
      clear hx hre hno hX1
      refine wpIn_wide.2 ?_
      go_wp2
      refine ⟨by simp, .inl ⟨_, _, rfl, run_takeDeferred X1.out.1, ?_⟩⟩
      exact ⟨.tuple #[.slice none 0 0, .int .i64 34], by simp [results, Tryz.results33, asAddr, lv43 X1.out.2.1, lv25 X1.out.2.2.1], X1.out.2.2.2, Or.inr ⟨HB.out, rfl⟩⟩
end Go.Proofs.YtconkienlcegaaaGreatDoor
