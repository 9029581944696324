/- kv: write. -/
import Derived.Test.YtconkienlcegaaaGreatDoorGKG
import Derived.Test.YtconkienlcegaaaGreatDoorWN4
namespace Go.Proofs.YtconkienlcegaaaGreatDoor
open Go.RowKit Go.Maps Go.Joins Go.Shelf
set_option linter.unusedSimpArgs false
set_option linter.unusedVariables false
theorem allocs_old : ∀ (objs : List Obj) (w : World) (i : Nat), i < w.heap.size → (objs.foldl World.alloc w).heap[i]? = w.heap[i]?
 | [], w, i, h => rfl
 | A :: r, w, i, h => (allocs_old r (w.alloc A) i (by simp; omega)).trans (heap_alloc_old w A i h)
theorem allocs_heap : ∀ (objs : List Obj) (w : World) (k : Nat) (o : Obj), objs[k]? = some o → (objs.foldl World.alloc w).heap[w.heap.size + k]? = some o
 | [], w, k, o, h => by simp at h
 | A :: r, w, 0, o, h => by
   simp at h; subst h; exact (allocs_old r (w.alloc A) w.heap.size (by simp)).trans (heap_alloc_new w A)
 | A :: r, w, k + 1, o, h => by
   have := allocs_heap r (w.alloc A) k o (by simpa using h); have e : (w.alloc A).heap.size + k = w.heap.size + (k + 1) := by simp; omega
   rw [e] at this; exact this
theorem allocs_size : ∀ (objs : List Obj) (w : World), (objs.foldl World.alloc w).heap.size = w.heap.size + objs.length
 | [], w => rfl
 | A :: r, w => by show (r.foldl World.alloc (w.alloc A)).heap.size = _; rw [allocs_size r]; simp; omega
theorem allocs_below : ∀ (objs : List Obj) (w : World), Below w.heap.size w (objs.foldl World.alloc w)
 | [], w => Below.refl _ _
 | A :: r, w => ((Below.refl _ w).alloc (Nat.le_refl _) A).trans ((allocs_below r (w.alloc A)).mono (by simp))
theorem own_base {w : World} {base b2 size n : Nat} {e : TypeId} {v : Value} {xs : List Value} (h : w.ownsRow base e size v n xs) (hb : b2 ≤ base) : w.ownsRow b2 e size v n xs := by
 refine ⟨h.1, ?_⟩; rcases h.2 with h0 | ⟨g, cap, cur, e, hb', r⟩
 · exact Or.inl h0
 · exact Or.inr ⟨g, cap, cur, e, by omega, r⟩
/-- Within one round of write. -/
structure WrI (w V : World) (rb : Loop) (v : Value) (out : List Int) (P : Nat) (vk vv : Value) (c : Ch) : Prop where
 j : WrJ w V rb v out
 pb : V.heap[P]? = some (.cells #[vk, vv, .bool c.gone] 90)
 pl : w.heap.size + 5 ≤ P
 pv : v.ownBlock ≠ some P
 k : KBD V (fun b => b < w.heap.size) vk c.key
 x : KBD V (fun b => b < w.heap.size) vv c.val
theorem WrI.alloc {w V : World} {rb : Loop} {v : Value} {out : List Int} {P : Nat} {vk vv : Value} {c : Ch} (h : WrI w V rb v out P vk vv c) (o : Obj) : WrI w (V.alloc o) rb v out P vk vv c := by
 have hb : Below V.heap.size V (V.alloc o) := by go_grown
 have hs := h.j.bl.size; exact ⟨h.j.below hb, (hb.block _ (heap_lt h.pb)).trans h.pb, h.pl, h.pv, h.k.mono (fun b hb' => hb.block b (by omega)) (fun _ h => h), h.x.mono (fun b hb' => hb.block b (by omega)) (fun _ h => h)⟩
theorem WrI.step {w V V2 : World} {rb : Loop} {v v' : Value} {out out' : List Int} {P : Nat} {vk vv : Value} {c : Ch} (h : WrI w V rb v out P vk vv c) (hrow : V2.ownsRow (w.heap.size + 5) 5 1 v' out'.length (vB out')) (hg : V.grownBy V2 v.ownBlock) (ha : v'.ownBlock = v.ownBlock ∨ v'.ownBlock = some V.heap.size) : WrI w (V2.setCell ⟨w.heap.size + 2, 0, none⟩ v') rb v' out' P vk vv c := by
 have hs := h.j.size; have hp := heap_lt h.pb; have hpl := h.pl; have k4 : ∀ b, b ≠ w.heap.size + 2 → (V2.setCell ⟨w.heap.size + 2, 0, none⟩ v').heap[b]? = V2.heap[b]? := fun b hb => Below.heap_setCell _ _ _ _ hb
 have hlow : ∀ b, b < w.heap.size → (V2.setCell ⟨w.heap.size + 2, 0, none⟩ v').heap[b]? = V.heap[b]? := fun b hb => (k4 b (by omega)).trans (hg.block b (by omega) (fun e => by have := (h.j.row.lt b e.symm).1; omega))
 refine ⟨h.j.step hg hrow, (k4 _ (by omega)).trans ((hg.block _ hp (fun e => h.pv e.symm)).trans h.pb), hpl, fun e => ?_, h.k.mono hlow (fun _ h => h), h.x.mono hlow (fun _ h => h)⟩; rcases ha with ha | ha
 · exact h.pv (ha.symm.trans e)
 · rw [ha] at e; injection e with e; omega
theorem lv23 {w : World} {b : Nat} {x : Value} (h : w.heap[b]? = some (.cells #[x] 23)) (hx : ∃ a l c, x = .slice a l c := by exact ⟨_, _, _, rfl⟩) : (loadVar 23 ⟨b, 0, none⟩).run Tryz.prog w = .ok x w := by
 obtain ⟨_, _, _, rfl⟩ := hx; have hc : w.cell? ⟨b, 0, none⟩ = some _ := (cell_of_block h 0).trans rfl; simp [go_sem, hc]
theorem lv25 {w : World} {b : Nat} {x : Int} (h : w.heap[b]? = some (.cells #[.int .i64 x] 25)) : (loadVar 25 ⟨b, 0, none⟩).run Tryz.prog w = .ok (.int .i64 x) w := by
 have hc : w.cell? ⟨b, 0, none⟩ = some _ := (cell_of_block h 0).trans rfl; simp [go_sem, hc]
theorem WrJ.keep3 {w V : World} {re : Loop} {v : Value} {out : List Int} (h : WrJ w V re v out) (x y : Value) : ((V.setCell ⟨w.heap.size, 0, none⟩ x).setCell ⟨w.heap.size + 1, 0, none⟩ y).heap[w.heap.size + 3]? = some (.deferred (some [])) :=
 (Below.heap_setCell _ _ _ _ (by show w.heap.size + 3 ≠ w.heap.size + 1; omega)).trans ((Below.heap_setCell _ _ _ _ (by show w.heap.size + 3 ≠ w.heap.size; omega)).trans h.b3)
theorem wr_end {w V : World} {re : Loop} {v : Value} {out : List Int} (h : WrJ w V re v out) (x y : Value) :
 (((V.setCell ⟨w.heap.size, 0, none⟩ x).setCell ⟨w.heap.size + 1, 0, none⟩ y).putObj (w.heap.size + 3) (.deferred none)).heap[w.heap.size]? = some (.cells #[x] 23) ∧
 (((V.setCell ⟨w.heap.size, 0, none⟩ x).setCell ⟨w.heap.size + 1, 0, none⟩ y).putObj (w.heap.size + 3) (.deferred none)).heap[w.heap.size + 1]? = some (.cells #[y] 25) ∧
 Below w.heap.size w (((V.setCell ⟨w.heap.size, 0, none⟩ x).setCell ⟨w.heap.size + 1, 0, none⟩ y).putObj (w.heap.size + 3) (.deferred none)) ∧
 ∀ b, w.heap.size + 5 ≤ b → (((V.setCell ⟨w.heap.size, 0, none⟩ x).setCell ⟨w.heap.size + 1, 0, none⟩ y).putObj (w.heap.size + 3) (.deferred none)).heap[b]? = V.heap[b]? := by
 have hs := h.size; have o1 : ∀ b, b ≠ w.heap.size + 3 → (((V.setCell ⟨w.heap.size, 0, none⟩ x).setCell ⟨w.heap.size + 1, 0, none⟩ y).putObj (w.heap.size + 3) (.deferred none)).heap[b]? = ((V.setCell ⟨w.heap.size, 0, none⟩ x).setCell ⟨w.heap.size + 1, 0, none⟩ y).heap[b]? := fun b hb => World.putObj_heap_other hb
 have o2 : ∀ b, b ≠ w.heap.size + 1 → ((V.setCell ⟨w.heap.size, 0, none⟩ x).setCell ⟨w.heap.size + 1, 0, none⟩ y).heap[b]? = (V.setCell ⟨w.heap.size, 0, none⟩ x).heap[b]? := fun b hb => Below.heap_setCell _ _ _ _ hb
 have o3 : ∀ b, b ≠ w.heap.size → (V.setCell ⟨w.heap.size, 0, none⟩ x).heap[b]? = V.heap[b]? := fun b hb => Below.heap_setCell _ _ _ _ hb
 refine ⟨(o1 _ (by omega)).trans ((o2 _ (by omega)).trans (heap_setCell_same _ _ 0 _ 23 x h.b0)), (o1 _ (by omega)).trans (heap_setCell_same _ _ 0 _ 25 y ((o3 _ (by omega)).trans h.b1)), ?_, fun b hb => (o1 b (by omega)).trans ((o2 b (by omega)).trans (o3 b (by omega)))⟩; have hb := (h.bl.setCell (p := ⟨w.heap.size, 0, none⟩) (Nat.le_refl _) x).setCell (p := ⟨w.heap.size + 1, 0, none⟩) (by show w.heap.size ≤ w.heap.size + 1; omega) y; exact ⟨hb.os, hb.tape, hb.output, by simpa [World.putObj] using hb.size, fun b hb' => (o1 b (by omega)).trans (hb.block b hb')⟩
theorem encK_big {cs : List Ch} {k : Nat} {c : Ch} (h : cs[k]? = some c) : (encK (cs.take k)).length + (encC c).length ≤ (encK cs).length := by
 have e : cs = cs.take k ++ (c :: cs.drop (k + 1)) := by
  have hk := (List.getElem?_eq_some_iff.1 h).1; have hc : cs[k] = c := (List.getElem?_eq_some_iff.1 h).2; rw [← hc, List.getElem_cons_drop, List.take_append_drop]
 have e2 : encK cs = encK (cs.take k) ++ (encC c ++ encK (cs.drop (k + 1))) := by
  conv => lhs; rw [e]
  simp [encK]
 rw [e2, List.length_append, List.length_append]; omega
theorem new2 (V : World) (x y : Int) : BytesV (V.alloc (.cells #[.int .u8 x, .int .u8 y] 5)) (.slice (some ⟨V.heap.size, 0, none⟩) 2 2) [x, y] :=
 Or.inr ⟨⟨V.heap.size, 0, none⟩, 2, rfl, fun j u hu => by
  rw [Addr.add_lit]; refine (cell_of_block (heap_alloc_new V _) (0 + j)).trans ?_
  simpa [vB] using hu⟩
theorem new4 (V : World) (x y z t : Int) : BytesV (V.alloc (.cells #[.int .u8 x, .int .u8 y, .int .u8 z, .int .u8 t] 5)) (.slice (some ⟨V.heap.size, 0, none⟩) 4 4) [x, y, z, t] :=
 Or.inr ⟨⟨V.heap.size, 0, none⟩, 4, rfl, fun j u hu => by
  rw [Addr.add_lit]; refine (cell_of_block (heap_alloc_new V _) (0 + j)).trans ?_
  simpa [vB] using hu⟩
theorem WrI.low {w V V2 : World} {rb : Loop} {v : Value} {out : List Int} {P : Nat} {vk vv : Value} {c : Ch} (h : WrI w V rb v out P vk vv c) (hg : V.grownBy V2 v.ownBlock) : V2.heap[w.heap.size + 2]? = some (.cells #[v] 23) ∧ V2.heap[P]? = some (.cells #[vk, vv, .bool c.gone] 90) := by
 have hs := h.j.size; exact ⟨(hg.block _ (by omega) (fun e => by have := (h.j.row.lt _ e.symm).1; omega)).trans h.j.b2, (hg.block _ (heap_lt h.pb) (fun e => h.pv e.symm)).trans h.pb⟩
theorem encK_snoc {cs : List Ch} {k : Nat} {c : Ch} (h : cs[k]? = some c) : encK (cs.take (k + 1)) = encK (cs.take k) ++ encC c := by
 rw [List.take_add_one, h]; simp [encK]
theorem k2_small {n : Nat} (h : n ≤ 64) : k2 n = [(n : Int) / 256, (n : Int)] := by
 unfold k2; rw [show ((n / 256 % 256 : Nat) : Int) = (n : Int) / 256 from by omega, show ((n % 256 : Nat) : Int) = (n : Int) from by omega]
theorem k4_small {n : Nat} (h : n ≤ 65535) : k4 n = [(n : Int) / 16777216, (n : Int) / 65536, (n : Int) / 256, (n : Int) % 256] := by
 unfold k4; rw [show ((n / 16777216 % 256 : Nat) : Int) = (n : Int) / 16777216 from by omega, show ((n / 65536 % 256 : Nat) : Int) = (n : Int) / 65536 from by omega, show ((n / 256 % 256 : Nat) : Int) = (n : Int) / 256 from by omega, show ((n % 256 : Nat) : Int) = (n : Int) % 256 from by omega]
theorem wr_eqT {out : List Int} {c : Ch} {nk nv : Nat} (h1 : nk = c.key.length) (h2 : nv = c.val.length) (h3 : true = c.gone) (hk : nk ≤ 64) : (((out ++ [(nk : Int) / 256, (nk : Int)]) ++ c.key) ++ ([255, 255, 255, 255] : List Int)) ++ ([] : List Int) = out ++ encC c := by
 unfold encC; rw [← h3, ← h1, k2_small hk]; simp [k4]
theorem wr_eqF {out : List Int} {c : Ch} {nk nv : Nat} (h1 : nk = c.key.length) (h2 : nv = c.val.length) (h3 : false = c.gone) (hv : nv ≤ 65535) (hk : nk ≤ 64) : (((out ++ [(nk : Int) / 256, (nk : Int)]) ++ c.key) ++ ([(nv : Int) / 16777216, (nv : Int) / 65536, (nv : Int) / 256, (nv : Int) % 256] : List Int)) ++ c.val = out ++ encC c := by
 unfold encC; rw [← h3, ← h1, ← h2, k2_small hk, k4_small hv]; simp
/-- What write tells. -/
def WrR (w w' : World) (cs : List Ch) (e : Ending) : Prop :=
 ((encK cs).length ≤ 65535 ∧ ∃ v, e = .returned (.tuple #[v, .int .i64 0]) ∧ w'.ownsRow w.heap.size 5 1 v (encK cs).length (vB (encK cs))) ∨ (65535 < (encK cs).length ∧ e = .returned (.tuple #[.slice none 0 0, .int .i64 3]))
/-- Behind ErrBig. -/
structure WrX (w W : World) (rc : Loop) : Prop where
 b0 : W.heap[w.heap.size]? = some (.cells #[.slice none 0 0] 23)
 b1 : W.heap[w.heap.size + 1]? = some (.cells #[.int .i64 3] 25)
 b3 : W.heap[w.heap.size + 3]? = some (.deferred (some []))
 b4 : W.heap[w.heap.size + 4]? = some (.loop { rc with state := .done, pending := some .ret })
 bl : Below w.heap.size w W
theorem WrX.ends {w W : World} {rc : Loop} (h : WrX w W rc) (re : Loop) : (W.putObj (w.heap.size + 4) (.loop re)).heap[w.heap.size + 3]? = some (.deferred (some [])) ∧ ((W.putObj (w.heap.size + 4) (.loop re)).putObj (w.heap.size + 3) (.deferred none)).heap[w.heap.size]? = some (.cells #[.slice none 0 0] 23) ∧ ((W.putObj (w.heap.size + 4) (.loop re)).putObj (w.heap.size + 3) (.deferred none)).heap[w.heap.size + 1]? = some (.cells #[.int .i64 3] 25) ∧ Below w.heap.size w ((W.putObj (w.heap.size + 4) (.loop re)).putObj (w.heap.size + 3) (.deferred none)) := by
 have o1 : ∀ b, b ≠ w.heap.size + 4 → (W.putObj (w.heap.size + 4) (.loop re)).heap[b]? = W.heap[b]? := fun b hb => World.putObj_heap_other hb
 have o2 : ∀ b, b ≠ w.heap.size + 3 → ((W.putObj (w.heap.size + 4) (.loop re)).putObj (w.heap.size + 3) (.deferred none)).heap[b]? = (W.putObj (w.heap.size + 4) (.loop re)).heap[b]? := fun b hb => World.putObj_heap_other hb
 refine ⟨(o1 _ (by omega)).trans h.b3, (o2 _ (by omega)).trans ((o1 _ (by omega)).trans h.b0), (o2 _ (by omega)).trans ((o1 _ (by omega)).trans h.b1), ?_⟩; exact ⟨h.bl.os, h.bl.tape, h.bl.output, by simpa [World.putObj] using h.bl.size, fun b hb => (o2 b (by omega)).trans ((o1 b (by omega)).trans (h.bl.block b hb))⟩
theorem WrJ.bigs {w V : World} {rb : Loop} {v : Value} {out : List Int} (h : WrJ w V rb v out) (r : Loop) : ((V.setCell ⟨w.heap.size, 0, none⟩ (.slice none 0 0)).setCell ⟨w.heap.size + 1, 0, none⟩ (.int .i64 3)).heap[w.heap.size + 4]? = some (.loop rb) ∧ WrX w (((V.setCell ⟨w.heap.size, 0, none⟩ (.slice none 0 0)).setCell ⟨w.heap.size + 1, 0, none⟩ (.int .i64 3)).putObj (w.heap.size + 4) (.loop { r with state := .done, pending := some .ret })) r := by
 have hs := h.size; have o2 : ∀ b, b ≠ w.heap.size + 1 → ((V.setCell ⟨w.heap.size, 0, none⟩ (.slice none 0 0)).setCell ⟨w.heap.size + 1, 0, none⟩ (.int .i64 3)).heap[b]? = (V.setCell ⟨w.heap.size, 0, none⟩ (.slice none 0 0)).heap[b]? := fun b hb => Below.heap_setCell _ _ _ _ hb
 have o3 : ∀ b, b ≠ w.heap.size → (V.setCell ⟨w.heap.size, 0, none⟩ (.slice none 0 0)).heap[b]? = V.heap[b]? := fun b hb => Below.heap_setCell _ _ _ _ hb
 have k0 : ((V.setCell ⟨w.heap.size, 0, none⟩ (.slice none 0 0)).setCell ⟨w.heap.size + 1, 0, none⟩ (.int .i64 3)).heap[w.heap.size]? = some (.cells #[.slice none 0 0] 23) := (o2 _ (by omega)).trans (heap_setCell_same _ _ 0 _ 23 (.slice none 0 0) h.b0); have k1 : ((V.setCell ⟨w.heap.size, 0, none⟩ (.slice none 0 0)).setCell ⟨w.heap.size + 1, 0, none⟩ (.int .i64 3)).heap[w.heap.size + 1]? = some (.cells #[.int .i64 3] 25) := heap_setCell_same _ _ 0 _ 25 (.int .i64 3) ((o3 _ (by omega)).trans h.b1); have k3 := (o2 (w.heap.size + 3) (by omega)).trans ((o3 _ (by omega)).trans h.b3); have k4 := (o2 (w.heap.size + 4) (by omega)).trans ((o3 _ (by omega)).trans h.b4); have hb := (h.bl.setCell (p := ⟨w.heap.size, 0, none⟩) (Nat.le_refl _) (.slice none 0 0)).setCell (p := ⟨w.heap.size + 1, 0, none⟩) (by show w.heap.size ≤ w.heap.size + 1; omega) (.int .i64 3); generalize (V.setCell ⟨w.heap.size, 0, none⟩ (.slice none 0 0)).setCell ⟨w.heap.size + 1, 0, none⟩ (.int .i64 3) = Z at *; have o1 : ∀ b, b ≠ w.heap.size + 4 → (Z.putObj (w.heap.size + 4) (.loop { r with state := .done, pending := some .ret })).heap[b]? = Z.heap[b]? := fun b hb => World.putObj_heap_other hb
 exact ⟨k4, (o1 _ (by omega)).trans k0, (o1 _ (by omega)).trans k1, (o1 _ (by omega)).trans k3, World.putObj_heap_same (heap_lt k4), ⟨hb.os, hb.tape, hb.output, by simpa [World.putObj] using hb.size, fun b hb' => (o1 b (by omega)).trans (hb.block b hb')⟩⟩
attribute [local go_sem] Oper.semAt_some
set_option maxRecDepth 100000 in
set_option maxHeartbeats 8000000 in
theorem write_any {w : World} {X : Nat} {a : Option Addr} {cap : Nat} {cs : List Ch} (hX : w.heap[X]? = some (.cells #[.slice a cs.length cap] 43)) (hc : ChsV w (fun b => b < w.heap.size) (.slice a cs.length cap) cs) (hk : ∀ c ∈ cs, c.key.length ≤ 64) :
 Calls Tryz.prog 51 #[.func (.func 96) #[] #[.pointer (some ⟨X, 0, none⟩)]] w fun e w' => Below w.heap.size w w' ∧ WrR w w' cs e := by
 have HX : Hid (w.heap[X]? = some (.cells #[.slice a cs.length cap] 43) ∧ ChsV w (fun b => b < w.heap.size) (.slice a cs.length cap) cs ∧ ∀ c ∈ cs, c.key.length ≤ 64) := ⟨hX, hc, hk⟩
 clear hX hc hk; refine (callsIn_wide (n := 4)).1 ?_; refine callsIn_of_wp_marks Tryz.func51 rfl trivial ?_ rfl; simp only [Tryz.ntmps51, List.size_toArray, List.length_cons, List.length_nil, Nat.reduceAdd, Nat.reduceSub, Array.replicate_succ, Array.replicate_zero, List.push_toArray, List.append_toArray, List.nil_append, List.cons_append]; refine wpIn_wide.2 ?_; go_wp2_with fail; refine (wpIn_wide (n := 4)).1 ?_; refine range_leave (gf := 96) (lb := #[.pointer (some ⟨X, 0, none⟩)]) rfl (enters_of Tryz.func96 (by kernel_rfl) rfl) ?_; intro r W1 hst hpe htm hpar has' hbod hW1; have hW : W1 = [Obj.cells #[.slice none 0 0] 23, .cells #[.int .i64 0] 25, .cells #[.slice none 0 0] 23, .deferred (some []), .loop r].foldl World.alloc w := by rw [hW1]; rfl
 have hsz : (((w.alloc (.cells #[.slice none 0 0] 23)).alloc (.cells #[.int .i64 0] 25)).alloc (.cells #[.slice none 0 0] 23)).heap.size = w.heap.size + 3 := by simp
 rw [hsz]; have hh := fun k o hk => allocs_heap [Obj.cells #[.slice none 0 0] 23, .cells #[.int .i64 0] 25, .cells #[.slice none 0 0] 23, .deferred (some []), .loop r] w k o hk
 have hbl := allocs_below [Obj.cells #[.slice none 0 0] 23, .cells #[.int .i64 0] 25, .cells #[.slice none 0 0] 23, .deferred (some []), .loop r] w; rw [← hW] at hh hbl; have h0 : WrJ w W1 r (.slice none 0 0) [] := ⟨hh 0 _ rfl, hh 1 _ rfl, hh 2 _ rfl, hh 3 _ rfl, hh 4 _ rfl, World.ownsRow_nil _ _ _ _, hbl⟩
 have hXc : W1.cell? ⟨X, 0, none⟩ = some (.slice a cs.length cap) := (hbl.cell (p := ⟨X, 0, none⟩) (heap_lt HX.out.1)).trans ((cell_of_block HX.out.1 0).trans rfl); clear hW hW1 hh hbl hsz; refine CallsIn.mono (values1_in 2 (w.heap.size + 4) X a cap cs W1 (fun k W => ∃ v out, WrJ w W r v out ∧ out = encK (cs.take k) ∧ out.length ≤ 65535) (fun W => WrX w W r ∧ 65535 < (encK cs).length) (fun b => b < w.heap.size) hXc ⟨_, _, h0, rfl, by decide⟩ (fun k W h => HX.out.2.1.mono (fun b hb => h.choose_spec.choose_spec.1.bl.block b hb) (fun _ h => h)) ?hY) ?hE
 case hY =>
  rintro k W W2 c vk vv hck ⟨v, out, hj, hout, hlen⟩ hb2 hvk hvv; have hb3 : Below W.heap.size W (W2.alloc (.cells #[vk, vv, .bool c.gone] 90)) := hb2.alloc hb2.size _; have hj3 := hj.below hb3; refine YieldAt.mono (round_leave (R := fun W' => ∃ v out, WrJ w W' r v out ∧ out = encK (cs.take (k + 1)) ∧ out.length ≤ 65535) (J := fun q W' => q = .ret ∧ WrX w W' r ∧ 65535 < (encK cs).length) (hj.below hb2).b4 hst hpe (by rw [hpar]; rfl) ?_) ?_; rotate_left
  · rintro e W' (⟨rfl, h⟩ | ⟨q, rfl, rfl, h⟩)
    · exact Or.inl ⟨rfl, h⟩
    · exact Or.inr ⟨rfl, h⟩
  intro rb hrb; have HR : Hid (r.params = _ ∧ r.assign = _ ∧ r.body = _ ∧ r.tmps = _) := ⟨hpar, has', hbod, htm⟩
  rw [hpar, has', hbod, htm]; clear hpar has' hbod htm hst hpe hrb h0 hXc; simp only [List.zip_toArray, List.zip_cons_cons, List.zip_nil_right, List.foldl_toArray, List.foldl_cons, List.foldl_nil, List.setIfInBounds_toArray, List.set_cons_zero, List.set_cons_succ]; obtain ⟨ak, ck, rfl⟩ := hvk.is.form'; obtain ⟨av, cv, rfl⟩ := hvv.is.form'; obtain ⟨va, vc, hv⟩ := row_form hj.row; subst hv; have hs5 := hj.size; have hwl := hj.bl.size; have hI0 : WrI w ((W2.alloc (.cells #[.slice ak c.key.length ck, .slice av c.val.length cv, .bool c.gone] 90)).putObj (w.heap.size + 4) (.loop rb)) rb (.slice va out.length vc) out W2.heap.size (.slice ak c.key.length ck) (.slice av c.val.length cv) c := by
   have ho : ∀ b, b ≠ w.heap.size + 4 → ((W2.alloc (.cells #[.slice ak c.key.length ck, .slice av c.val.length cv, .bool c.gone] 90)).putObj (w.heap.size + 4) (.loop rb)).heap[b]? = (W2.alloc (.cells #[.slice ak c.key.length ck, .slice av c.val.length cv, .bool c.gone] 90)).heap[b]? := fun b hb => World.putObj_heap_other hb
   have h2s := hb2.size; refine ⟨hj3.put rb, (ho _ (by omega)).trans (heap_alloc_new _ _), by omega, fun e => by have := (hj.row.lt _ e).2; omega, hvk.mono (fun b hb => (ho b (by omega)).trans (hb3.block b (by omega))) (fun _ h => h), hvv.mono (fun b hb => (ho b (by omega)).trans (hb3.block b (by omega))) (fun _ h => h)⟩
  have HI0 : Hid _ := hI0; have hl5 := hj3.b4; have HC : Hid (cs[k]? = some c ∧ out = encK (cs.take k) ∧ out.length ≤ 65535 ∧ (W2.alloc (.cells #[.slice ak c.key.length ck, .slice av c.val.length cv, .bool c.gone] 90)).heap[w.heap.size + 4]? = some (.loop r) ∧ c.key.length ≤ 64) := ⟨hck, hout, hlen, hl5, HX.out.2.2 c (List.mem_of_getElem? hck)⟩
  clear hI0 hj hj3 hb2 hb3 hvk hvv hck hout hlen hl5 hs5 hwl; obtain ⟨nk, hnk⟩ : ∃ nk, nk = c.key.length := ⟨_, rfl⟩
  obtain ⟨nv, hnv⟩ : ∃ nv, nv = c.val.length := ⟨_, rfl⟩
  obtain ⟨cg, hcg⟩ : ∃ cg, cg = c.gone := ⟨_, rfl⟩
  obtain ⟨no, hno⟩ : ∃ no, no = out.length := ⟨_, rfl⟩
  rw [← hnk, ← hnv, ← hcg] at HC HI0 ⊢; rw [← hno] at HI0; have HL : Hid (nk = c.key.length ∧ nv = c.val.length ∧ cg = c.gone ∧ no = out.length) := ⟨hnk, hnv, hcg, hno⟩
  clear hnk hnv hcg hno; gi_wp2; refine ⟨HC.out.2.2.2.1, ?_⟩; generalize (W2.alloc (.cells #[.slice ak nk ck, .slice av nv cv, .bool cg] 90)).putObj (w.heap.size + 4) (.loop rb) = V at HI0 ⊢; generalize W2.heap.size = P at HI0 ⊢; have hpb : V.heap[P]? = some (.cells #[.slice ak nk ck, .slice av nv cv, .bool cg] 90) := by rw [HL.out.2.2.1]; exact HI0.out.pb
  have c0 : V.cell? ⟨P, 0, none⟩ = some (.slice ak nk ck) := (cell_of_block hpb 0).trans rfl; have c1 : V.cell? ⟨P, 1, none⟩ = some (.slice av nv cv) := (cell_of_block hpb 1).trans rfl; have c2 : V.cell? ⟨P, 2, none⟩ = some (.bool cg) := (cell_of_block hpb 2).trans rfl; have e0 : V.cell? ⟨w.heap.size, 0, none⟩ = some (.slice none 0 0) := (cell_of_block HI0.out.j.b0 0).trans rfl; have f0 : V.frozen? ⟨w.heap.size, 0, none⟩ = false := unfrozen_of_block HI0.out.j.b0 0; have e1 : V.cell? ⟨w.heap.size + 1, 0, none⟩ = some (.int .i64 0) := (cell_of_block HI0.out.j.b1 0).trans rfl; have f1 : V.frozen? ⟨w.heap.size + 1, 0, none⟩ = false := unfrozen_of_block HI0.out.j.b1 0; have e2 : V.cell? ⟨w.heap.size + 1 + 1, 0, none⟩ = some (.slice va no vc) := (cell_of_block HI0.out.j.b2 0).trans rfl; have hnk : nk ≤ 64 := HC.out.2.2.2.2; have hno : no ≤ 65535 := by rw [HL.out.2.2.2]; exact HC.out.2.2.1
  have hnv : nv ≤ 140737488355328 := by rw [HL.out.2.1]; exact HI0.out.x.len
  have hbl := encK_big HC.out.1; have hcl := encC_length c; rw [← HC.out.2.1, hcl, ← HL.out.1, ← HL.out.2.1, ← HL.out.2.2.1, ← HL.out.2.2.2] at hbl; have HBL : Hid (no + (6 + nk + if cg = true then 0 else nv) ≤ (encK cs).length) := hbl; clear hbl hcl hpb; cases cg with
  | true =>
    by_cases hbig : 65535 < no + 6 + nk
    · have hbi : (65535 : Int) - no - 2 - nk - 4 < 0 := by omega
      have HBB : Hid (65535 < (encK cs).length) := by show _ < _; have := HBL.out; simp at this; omega
      gi_wp2; have h9 := (HI0.out.j.bigs r).2
      rw [HR.out.1, HR.out.2.1, HR.out.2.2.1, HR.out.2.2.2] at h9; exact ⟨(HI0.out.j.bigs r).1, rfl, h9, HBB.out⟩
    · have hbi : ¬ (65535 : Int) - no - 2 - nk - 4 < 0 := by omega
      have T1 : Hid True := trivial; have hPB : P ≠ w.heap.size + 1 + 1 := by have := HI0.out.pl; omega
      have hkl : c.key.length ≤ 64 := by rw [← HL.out.1]; exact hnk
      have hvl : c.val.length ≤ 140737488355328 := HI0.out.x.len; have hol : out.length ≤ 65535 := HC.out.2.2.1; have HKL : Hid (c.key.length ≤ 64 ∧ out.length ≤ 65535) := ⟨hkl, hol⟩
      clear hkl hvl hol; gi_wp2_with (first
       | (have _ := T1
          refine wpListIn_append_b rfl _ _ rfl (w.heap.size + 5) (.slice va no vc) (.slice (some ⟨V.heap.size, 0, none⟩) 2 2) out [(nk : Int) / 256, (nk : Int)] rfl (HI0.out.alloc _).j.row rfl (new2 V _ _) (by have := HKL.out.2; simp; omega) (by have := (HI0.out.alloc (.cells #[.int .u8 ((nk : Int) / 256), .int .u8 (nk : Int)] 5)).j.size; omega) ?_; clear T1; intro v1 V1 ho hg ha; obtain ⟨va1, vc1, rfl⟩ := row_form ho; obtain ⟨n1, hn1⟩ : ∃ n1, n1 = (out ++ [(nk : Int) / 256, (nk : Int)]).length := ⟨_, rfl⟩
          rw [← hn1] at ha; have hI1 := (HI0.out.alloc (.cells #[.int .u8 ((nk : Int) / 256), .int .u8 (nk : Int)] 5)).step (v' := .slice va1 n1 vc1) (by rw [hn1]; exact ho) hg ha; have HI1 : Hid _ := hI1; have q2 := ((HI0.out.alloc (.cells #[.int .u8 ((nk : Int) / 256), .int .u8 (nk : Int)] 5)).low hg).1; have q5 := ((HI0.out.alloc (.cells #[.int .u8 ((nk : Int) / 256), .int .u8 (nk : Int)] 5)).low hg).2; have x1 : V1.cell? ⟨w.heap.size + 1 + 1, 0, none⟩ = some (.slice va no vc) := (cell_of_block q2 0).trans rfl; have xz1 : V1.frozen? ⟨w.heap.size + 1 + 1, 0, none⟩ = false := unfrozen_of_block q2 0; have p1 : V1.cell? ⟨P, 0, none⟩ = some (.slice ak nk ck) := (cell_of_block q5 0).trans rfl; rw [← hn1]; clear ho hg ha hI1 q2 q5; have HN1 : Hid (n1 = (out ++ [(nk : Int) / 256, (nk : Int)]).length) := hn1; clear hn1; have T2 : Hid True := trivial)
       | (have _ := T2
          refine wpListIn_append_b rfl _ _ rfl (w.heap.size + 5) (.slice va1 n1 vc1) (.slice ak nk ck) (out ++ [(nk : Int) / 256, (nk : Int)]) c.key rfl HI1.out.j.row rfl HI1.out.k.is (by have := HKL.out; simp; omega) (by have := HI1.out.j.size; omega) ?_; clear T2; intro v2 V2 ho hg ha; obtain ⟨va2, vc2, rfl⟩ := row_form ho; obtain ⟨n2, hn2⟩ : ∃ n2, n2 = ((out ++ [(nk : Int) / 256, (nk : Int)]) ++ c.key).length := ⟨_, rfl⟩
          rw [← hn2] at ha; have hI2 := HI1.out.step (v' := .slice va2 n2 vc2) (by rw [hn2]; exact ho) hg ha; have HI2 : Hid _ := hI2; have q2 := (HI1.out.low hg).1; have q5 := (HI1.out.low hg).2; have x2 : V2.cell? ⟨w.heap.size + 1 + 1, 0, none⟩ = some (.slice va1 n1 vc1) := (cell_of_block q2 0).trans rfl; have xz2 : V2.frozen? ⟨w.heap.size + 1 + 1, 0, none⟩ = false := unfrozen_of_block q2 0; have p2 : V2.cell? ⟨P, 0, none⟩ = some (.slice ak nk ck) := (cell_of_block q5 0).trans rfl; have hn4 := new4 (V2.setCell ⟨w.heap.size + 1 + 1, 0, none⟩ (.slice va2 n2 vc2)) (255) (255) (255) (255); rw [show (V2.setCell ⟨w.heap.size + 1 + 1, 0, none⟩ (.slice va2 n2 vc2)).heap.size = V2.heap.size from by simp] at hn4; have HN4b : Hid _ := hn4; clear hn4; rw [← hn2]; clear ho hg ha hI2 q2 q5; have HN2 : Hid (n2 = ((out ++ [(nk : Int) / 256, (nk : Int)]) ++ c.key).length) := hn2; clear hn2; have T3 : Hid True := trivial)
       | (have _ := T3
          refine wpListIn_append_b rfl _ _ rfl (w.heap.size + 5) (.slice va2 n2 vc2) (.slice (some ⟨V2.heap.size, 0, none⟩) 4 4) ((out ++ [(nk : Int) / 256, (nk : Int)]) ++ c.key) [255, 255, 255, 255] rfl (HI2.out.alloc _).j.row rfl HN4b.out (by have := HKL.out; simp; omega) (by have := (HI2.out.alloc (.cells #[.int .u8 255, .int .u8 255, .int .u8 255, .int .u8 255] 5)).j.size; omega) ?_; clear T3 HN4b; intro v3 V3 ho hg ha; obtain ⟨va3, vc3, rfl⟩ := row_form ho; obtain ⟨n3, hn3⟩ : ∃ n3, n3 = (((out ++ [(nk : Int) / 256, (nk : Int)]) ++ c.key) ++ ([255, 255, 255, 255] : List Int)).length := ⟨_, rfl⟩
          rw [← hn3] at ha; have hI3 := (HI2.out.alloc (.cells #[.int .u8 255, .int .u8 255, .int .u8 255, .int .u8 255] 5)).step (v' := .slice va3 n3 vc3) (by rw [hn3]; exact ho) hg ha; have HI3 : Hid _ := hI3; have q2 := ((HI2.out.alloc (.cells #[.int .u8 255, .int .u8 255, .int .u8 255, .int .u8 255] 5)).low hg).1; have q5 := ((HI2.out.alloc (.cells #[.int .u8 255, .int .u8 255, .int .u8 255, .int .u8 255] 5)).low hg).2; have x3 : V3.cell? ⟨w.heap.size + 1 + 1, 0, none⟩ = some (.slice va2 n2 vc2) := (cell_of_block q2 0).trans rfl; have xz3 : V3.frozen? ⟨w.heap.size + 1 + 1, 0, none⟩ = false := unfrozen_of_block q2 0; have p3 : V3.cell? ⟨P, 0, none⟩ = some (.slice ak nk ck) := (cell_of_block q5 0).trans rfl; rw [← hn3]; clear ho hg ha hI3 q2 q5; have HN3 : Hid (n3 = (((out ++ [(nk : Int) / 256, (nk : Int)]) ++ c.key) ++ ([255, 255, 255, 255] : List Int)).length) := hn3; clear hn3; have T4 : Hid True := trivial)
       | (have _ := T4
          refine wpListIn_append_b rfl _ _ rfl (w.heap.size + 5) (.slice va3 n3 vc3) (.slice none 0 0) (((out ++ [(nk : Int) / 256, (nk : Int)]) ++ c.key) ++ ([255, 255, 255, 255] : List Int)) ([] : List Int) rfl HI3.out.j.row rfl (Or.inl ⟨rfl, rfl⟩) (by have := HKL.out; simp; omega) (by have := HI3.out.j.size; omega) ?_; clear T4; intro v4 V4 ho hg ha; obtain ⟨va4, vc4, rfl⟩ := row_form ho; obtain ⟨n4, hn4⟩ : ∃ n4, n4 = ((((out ++ [(nk : Int) / 256, (nk : Int)]) ++ c.key) ++ ([255, 255, 255, 255] : List Int)) ++ ([] : List Int)).length := ⟨_, rfl⟩
          rw [← hn4] at ha; have hI4 := HI3.out.step (v' := .slice va4 n4 vc4) (by rw [hn4]; exact ho) hg ha; have HI4 : Hid _ := hI4; have q2 := (HI3.out.low hg).1; have q5 := (HI3.out.low hg).2; have x4 : V4.cell? ⟨w.heap.size + 1 + 1, 0, none⟩ = some (.slice va3 n3 vc3) := (cell_of_block q2 0).trans rfl; have xz4 : V4.frozen? ⟨w.heap.size + 1 + 1, 0, none⟩ = false := unfrozen_of_block q2 0; have p4 : V4.cell? ⟨P, 0, none⟩ = some (.slice ak nk ck) := (cell_of_block q5 0).trans rfl; rw [← hn4]; clear ho hg ha hI4 q2 q5; have HN4 : Hid (n4 = ((((out ++ [(nk : Int) / 256, (nk : Int)]) ++ c.key) ++ ([255, 255, 255, 255] : List Int)) ++ ([] : List Int)).length) := hn4; clear hn4; have T5 : Hid True := trivial))
      have hend : (((out ++ [(nk : Int) / 256, (nk : Int)]) ++ c.key) ++ ([255, 255, 255, 255] : List Int)) ++ ([] : List Int) = out ++ encC c := wr_eqT HL.out.1 HL.out.2.1 HL.out.2.2.1 hnk; refine ⟨HI4.out.j.b4, _, _, HI4.out.j.put r, ?_, ?_⟩
      · rw [encK_snoc HC.out.1, ← HC.out.2.1]
        exact hend
      · show List.length _ ≤ _
        rw [hend, List.length_append, encC_length c, ← HL.out.1, ← HL.out.2.1, ← HL.out.2.2.1, ← HL.out.2.2.2]; simp; omega
  | false =>
    by_cases hbig : 65535 < no + 6 + nk + nv
    · have hbi : (65535 : Int) - no - 2 - nk - 4 < nv := by omega
      have HBB : Hid (65535 < (encK cs).length) := by show _ < _; have := HBL.out; simp at this; omega
      gi_wp2; have h9 := (HI0.out.j.bigs r).2
      rw [HR.out.1, HR.out.2.1, HR.out.2.2.1, HR.out.2.2.2] at h9; exact ⟨(HI0.out.j.bigs r).1, rfl, h9, HBB.out⟩
    · have hbi : ¬ (65535 : Int) - no - 2 - nk - 4 < nv := by omega
      have T1 : Hid True := trivial; have hPB : P ≠ w.heap.size + 1 + 1 := by have := HI0.out.pl; omega
      have hkl : c.key.length ≤ 64 := by rw [← HL.out.1]; exact hnk
      have hvl : c.val.length ≤ 140737488355328 := HI0.out.x.len; have hol : out.length ≤ 65535 := HC.out.2.2.1; have hvl2 : c.val.length ≤ 65535 := by rw [← HL.out.2.1]; omega
      have HKL : Hid (c.key.length ≤ 64 ∧ out.length ≤ 65535 ∧ c.val.length ≤ 65535) := ⟨hkl, hol, hvl2⟩
      clear hkl hvl hol hvl2; gi_wp2_with (first
       | (have _ := T1
          refine wpListIn_append_b rfl _ _ rfl (w.heap.size + 5) (.slice va no vc) (.slice (some ⟨V.heap.size, 0, none⟩) 2 2) out [(nk : Int) / 256, (nk : Int)] rfl (HI0.out.alloc _).j.row rfl (new2 V _ _) (by have := HKL.out.2; simp; omega) (by have := (HI0.out.alloc (.cells #[.int .u8 ((nk : Int) / 256), .int .u8 (nk : Int)] 5)).j.size; omega) ?_; clear T1; intro v1 V1 ho hg ha; obtain ⟨va1, vc1, rfl⟩ := row_form ho; obtain ⟨n1, hn1⟩ : ∃ n1, n1 = (out ++ [(nk : Int) / 256, (nk : Int)]).length := ⟨_, rfl⟩
          rw [← hn1] at ha; have hI1 := (HI0.out.alloc (.cells #[.int .u8 ((nk : Int) / 256), .int .u8 (nk : Int)] 5)).step (v' := .slice va1 n1 vc1) (by rw [hn1]; exact ho) hg ha; have HI1 : Hid _ := hI1; have q2 := ((HI0.out.alloc (.cells #[.int .u8 ((nk : Int) / 256), .int .u8 (nk : Int)] 5)).low hg).1; have q5 := ((HI0.out.alloc (.cells #[.int .u8 ((nk : Int) / 256), .int .u8 (nk : Int)] 5)).low hg).2; have x1 : V1.cell? ⟨w.heap.size + 1 + 1, 0, none⟩ = some (.slice va no vc) := (cell_of_block q2 0).trans rfl; have xz1 : V1.frozen? ⟨w.heap.size + 1 + 1, 0, none⟩ = false := unfrozen_of_block q2 0; have p1 : V1.cell? ⟨P, 0, none⟩ = some (.slice ak nk ck) := (cell_of_block q5 0).trans rfl; rw [← hn1]; clear ho hg ha hI1 q2 q5; have HN1 : Hid (n1 = (out ++ [(nk : Int) / 256, (nk : Int)]).length) := hn1; clear hn1; have T2 : Hid True := trivial)
       | (have _ := T2
          refine wpListIn_append_b rfl _ _ rfl (w.heap.size + 5) (.slice va1 n1 vc1) (.slice ak nk ck) (out ++ [(nk : Int) / 256, (nk : Int)]) c.key rfl HI1.out.j.row rfl HI1.out.k.is (by have := HKL.out; simp; omega) (by have := HI1.out.j.size; omega) ?_; clear T2; intro v2 V2 ho hg ha; obtain ⟨va2, vc2, rfl⟩ := row_form ho; obtain ⟨n2, hn2⟩ : ∃ n2, n2 = ((out ++ [(nk : Int) / 256, (nk : Int)]) ++ c.key).length := ⟨_, rfl⟩
          rw [← hn2] at ha; have hI2 := HI1.out.step (v' := .slice va2 n2 vc2) (by rw [hn2]; exact ho) hg ha; have HI2 : Hid _ := hI2; have q2 := (HI1.out.low hg).1; have q5 := (HI1.out.low hg).2; have x2 : V2.cell? ⟨w.heap.size + 1 + 1, 0, none⟩ = some (.slice va1 n1 vc1) := (cell_of_block q2 0).trans rfl; have xz2 : V2.frozen? ⟨w.heap.size + 1 + 1, 0, none⟩ = false := unfrozen_of_block q2 0; have p2 : V2.cell? ⟨P, 0, none⟩ = some (.slice ak nk ck) := (cell_of_block q5 0).trans rfl; have hn4 := new4 (V2.setCell ⟨w.heap.size + 1 + 1, 0, none⟩ (.slice va2 n2 vc2)) ((nv : Int) / 16777216) ((nv : Int) / 65536) ((nv : Int) / 256) ((nv : Int) % 256); rw [show (V2.setCell ⟨w.heap.size + 1 + 1, 0, none⟩ (.slice va2 n2 vc2)).heap.size = V2.heap.size from by simp] at hn4; have HN4b : Hid _ := hn4; clear hn4; rw [← hn2]; clear ho hg ha hI2 q2 q5; have HN2 : Hid (n2 = ((out ++ [(nk : Int) / 256, (nk : Int)]) ++ c.key).length) := hn2; clear hn2; have T3 : Hid True := trivial)
       | (have _ := T3
          refine wpListIn_append_b rfl _ _ rfl (w.heap.size + 5) (.slice va2 n2 vc2) (.slice (some ⟨V2.heap.size, 0, none⟩) 4 4) ((out ++ [(nk : Int) / 256, (nk : Int)]) ++ c.key) [(nv : Int) / 16777216, (nv : Int) / 65536, (nv : Int) / 256, (nv : Int) % 256] rfl (HI2.out.alloc _).j.row rfl HN4b.out (by have := HKL.out; simp; omega) (by have := (HI2.out.alloc (.cells #[.int .u8 ((nv : Int) / 16777216), .int .u8 ((nv : Int) / 65536), .int .u8 ((nv : Int) / 256), .int .u8 ((nv : Int) % 256)] 5)).j.size; omega) ?_; clear T3 HN4b; intro v3 V3 ho hg ha; obtain ⟨va3, vc3, rfl⟩ := row_form ho; obtain ⟨n3, hn3⟩ : ∃ n3, n3 = (((out ++ [(nk : Int) / 256, (nk : Int)]) ++ c.key) ++ ([(nv : Int) / 16777216, (nv : Int) / 65536, (nv : Int) / 256, (nv : Int) % 256] : List Int)).length := ⟨_, rfl⟩
          rw [← hn3] at ha; have hI3 := (HI2.out.alloc (.cells #[.int .u8 ((nv : Int) / 16777216), .int .u8 ((nv : Int) / 65536), .int .u8 ((nv : Int) / 256), .int .u8 ((nv : Int) % 256)] 5)).step (v' := .slice va3 n3 vc3) (by rw [hn3]; exact ho) hg ha; have HI3 : Hid _ := hI3; have q2 := ((HI2.out.alloc (.cells #[.int .u8 ((nv : Int) / 16777216), .int .u8 ((nv : Int) / 65536), .int .u8 ((nv : Int) / 256), .int .u8 ((nv : Int) % 256)] 5)).low hg).1; have q5 := ((HI2.out.alloc (.cells #[.int .u8 ((nv : Int) / 16777216), .int .u8 ((nv : Int) / 65536), .int .u8 ((nv : Int) / 256), .int .u8 ((nv : Int) % 256)] 5)).low hg).2; have x3 : V3.cell? ⟨w.heap.size + 1 + 1, 0, none⟩ = some (.slice va2 n2 vc2) := (cell_of_block q2 0).trans rfl; have xz3 : V3.frozen? ⟨w.heap.size + 1 + 1, 0, none⟩ = false := unfrozen_of_block q2 0; have p3 : V3.cell? ⟨P, 0, none⟩ = some (.slice ak nk ck) := (cell_of_block q5 0).trans rfl; rw [← hn3]; clear ho hg ha hI3 q2 q5; have HN3 : Hid (n3 = (((out ++ [(nk : Int) / 256, (nk : Int)]) ++ c.key) ++ ([(nv : Int) / 16777216, (nv : Int) / 65536, (nv : Int) / 256, (nv : Int) % 256] : List Int)).length) := hn3; clear hn3; have T4 : Hid True := trivial)
       | (have _ := T4
          refine wpListIn_append_b rfl _ _ rfl (w.heap.size + 5) (.slice va3 n3 vc3) (.slice av nv cv) (((out ++ [(nk : Int) / 256, (nk : Int)]) ++ c.key) ++ ([(nv : Int) / 16777216, (nv : Int) / 65536, (nv : Int) / 256, (nv : Int) % 256] : List Int)) c.val rfl HI3.out.j.row rfl HI3.out.x.is (by have := HKL.out; simp; omega) (by have := HI3.out.j.size; omega) ?_; clear T4; intro v4 V4 ho hg ha; obtain ⟨va4, vc4, rfl⟩ := row_form ho; obtain ⟨n4, hn4⟩ : ∃ n4, n4 = ((((out ++ [(nk : Int) / 256, (nk : Int)]) ++ c.key) ++ ([(nv : Int) / 16777216, (nv : Int) / 65536, (nv : Int) / 256, (nv : Int) % 256] : List Int)) ++ c.val).length := ⟨_, rfl⟩
          rw [← hn4] at ha; have hI4 := HI3.out.step (v' := .slice va4 n4 vc4) (by rw [hn4]; exact ho) hg ha; have HI4 : Hid _ := hI4; have q2 := (HI3.out.low hg).1; have q5 := (HI3.out.low hg).2; have x4 : V4.cell? ⟨w.heap.size + 1 + 1, 0, none⟩ = some (.slice va3 n3 vc3) := (cell_of_block q2 0).trans rfl; have xz4 : V4.frozen? ⟨w.heap.size + 1 + 1, 0, none⟩ = false := unfrozen_of_block q2 0; have p4 : V4.cell? ⟨P, 0, none⟩ = some (.slice ak nk ck) := (cell_of_block q5 0).trans rfl; rw [← hn4]; clear ho hg ha hI4 q2 q5; have HN4 : Hid (n4 = ((((out ++ [(nk : Int) / 256, (nk : Int)]) ++ c.key) ++ ([(nv : Int) / 16777216, (nv : Int) / 65536, (nv : Int) / 256, (nv : Int) % 256] : List Int)) ++ c.val).length) := hn4; clear hn4; have T5 : Hid True := trivial))
      have hend : (((out ++ [(nk : Int) / 256, (nk : Int)]) ++ c.key) ++ ([(nv : Int) / 16777216, (nv : Int) / 65536, (nv : Int) / 256, (nv : Int) % 256] : List Int)) ++ c.val = out ++ encC c := wr_eqF HL.out.1 HL.out.2.1 HL.out.2.2.1 (by omega) hnk; refine ⟨HI4.out.j.b4, _, _, HI4.out.j.put r, ?_, ?_⟩
      · rw [encK_snoc HC.out.1, ← HC.out.2.1]
        exact hend
      · show List.length _ ≤ _
        rw [hend, List.length_append, encC_length c, ← HL.out.1, ← HL.out.2.1, ← HL.out.2.2.1, ← HL.out.2.2.2]; simp; omega
 case hE =>
  rintro e W' ⟨hv, hq⟩; refine ⟨hv, ?_⟩; clear hst hpe htm hpar has' hbod h0 hXc hv; rcases hq with ⟨v, out, hj, hout, hlen⟩ | ⟨hx, hbig⟩
  · refine Or.inl ⟨hj.b4, ?_⟩
    obtain ⟨re, hre⟩ : ∃ re : Loop, { r with state := .exhausted } = re := ⟨_, rfl⟩
    rw [hre]; have J1 : Hid (WrJ w (W'.putObj (w.heap.size + 4) (.loop re)) re v out) := hj.put re; have HO : Hid (out = encK cs ∧ out.length ≤ 65535) := ⟨by rw [hout, List.take_length], hlen⟩
    show Exit.inBlock _ _ _ _ (W'.putObj (w.heap.size + 4) (.loop re)); generalize W'.putObj (w.heap.size + 4) (.loop re) = V at J1 ⊢; clear hj hre hout hlen; obtain ⟨va, vc, hv⟩ := row_form J1.out.row; subst hv; obtain ⟨q, hq⟩ : ∃ q, q = out.length := ⟨_, rfl⟩
    rw [← hq] at J1; clear hq; have e0 : V.cell? ⟨w.heap.size, 0, none⟩ = some (.slice none 0 0) := (cell_of_block J1.out.b0 0).trans rfl; have f0 : V.frozen? ⟨w.heap.size, 0, none⟩ = false := unfrozen_of_block J1.out.b0 0; have e1 : V.cell? ⟨w.heap.size + 1, 0, none⟩ = some (.int .i64 0) := (cell_of_block J1.out.b1 0).trans rfl; have f1 : V.frozen? ⟨w.heap.size + 1, 0, none⟩ = false := unfrozen_of_block J1.out.b1 0; have e2 : V.cell? ⟨w.heap.size + 1 + 1, 0, none⟩ = some (.slice va q vc) := (cell_of_block J1.out.b2 0).trans rfl; go_wp2; refine ⟨by simp, .inl ⟨_, _, rfl, run_takeDeferred (w := (V.setCell ⟨w.heap.size, 0, none⟩ (.slice va q vc)).setCell ⟨w.heap.size + 1, 0, none⟩ (.int .i64 0)) (WrJ.keep3 J1.out _ _), ?_⟩⟩; have k0 := wr_end J1.out (.slice va q vc) (.int .i64 0); refine ⟨.tuple #[.slice va q vc, .int .i64 0], by simp [results, Tryz.results51, asAddr, lv23 k0.1, lv25 k0.2.1], k0.2.2.1, Or.inl ⟨by rw [← HO.out.1]; exact HO.out.2, _, rfl, ?_⟩⟩; rw [← HO.out.1]; have h9 := ownsRow_heap J1.out.row (w' := ((V.setCell ⟨w.heap.size, 0, none⟩ (.slice va q vc)).setCell ⟨w.heap.size + 1, 0, none⟩ (.int .i64 0)).putObj (w.heap.size + 3) (.deferred none)) (fun b hb => k0.2.2.2 b (by have := (J1.out.row.lt b hb).1; omega)); exact own_base h9 (by omega)
  · refine Or.inr ⟨.ret, hx.b4, ?_⟩
    obtain ⟨re, hre⟩ : ∃ re : Loop, { r with state := .exhausted, pending := some .ret } = re := ⟨_, rfl⟩
    rw [hre]; have hX1 := hx.ends re; have HB : Hid (65535 < (encK cs).length) := hbig; generalize W'.putObj (w.heap.size + 4) (.loop re) = V at hX1 ⊢; have X1 : Hid _ := hX1; clear hx hre hbig hX1; refine wpIn_wide.2 ?_; go_wp2; refine ⟨by simp, .inl ⟨_, _, rfl, run_takeDeferred X1.out.1, ?_⟩⟩; exact ⟨.tuple #[.slice none 0 0, .int .i64 3], by simp [results, Tryz.results51, asAddr, lv23 X1.out.2.1, lv25 X1.out.2.2.1], X1.out.2.2.2, Or.inr ⟨HB.out, rfl⟩⟩
end Go.Proofs.YtconkienlcegaaaGreatDoor
