/- rlp: read of a list. -/
import Derived.Test.YtmnlcpfehbpogaaM13
namespace Go.Proofs.Ytmnlcpfehbpogaa
open Go.RowKit Go.Maps Go.Joins Go.Shelf
set_option linter.unusedSimpArgs false
set_option linter.unusedVariables false
theorem itF_step {f : List Int → Except Int (Tr × Nat)} {k left n : Nat} {s : List Int} {x : Tr} (hl : left ≠ 0) (hf : f s = .ok (x, n)) (hn : ¬ left < n) (hk : left ≤ k) :
    itF f k left s = (itF f (k - 1) (left - n) (s.drop n)).map (x :: ·) := by
  cases k with
  | zero => omega
  | succ k =>
    simp only [itF]
    rw [if_neg hl, hf]
    simp only
    rw [if_neg hn]
    show _ = (itF f k (left - n) (s.drop n)).map _
    cases itF f k (left - n) (s.drop n) <;> rfl
theorem itF_err {f : List Int → Except Int (Tr × Nat)} {k left : Nat} {s : List Int} {c : Int} (hl : left ≠ 0) (hf : f s = .error c) (hk : left ≤ k) : itF f k left s = .error c := by
  cases k with
  | zero => omega
  | succ k => simp only [itF]; rw [if_neg hl, hf]
theorem itF_over {f : List Int → Except Int (Tr × Nat)} {k left n : Nat} {s : List Int} {x : Tr} (hl : left ≠ 0) (hf : f s = .ok (x, n)) (hn : left < n) (hk : left ≤ k) : itF f k left s = .error 11 := by
  cases k with
  | zero => omega
  | succ k => simp only [itF]; rw [if_neg hl, hf]; simp only; rw [if_pos hn]
theorem itF_none {f : List Int → Except Int (Tr × Nat)} {k : Nat} {s : List Int} : itF f k 0 s = .ok [] := by cases k <;> simp [itF]
theorem map_map_ex {α : Type} (r : Except Int (List α)) (p q : List α) : (r.map (q ++ ·)).map (p ++ ·) = r.map ((p ++ q) ++ ·) := by
  cases r with
  | error e => rfl
  | ok v => simp [Except.map]
/-- Within the rounds of read: memory and what was read. -/
structure RJ (w W : World) (a : Option Addr) (cap : Nat) (bs : List Int) (d from_ to_ n0 : Nat) (rc : Loop) (p : Nat) (A : List IC) (v : Value) : Prop where
  b0 : W.heap[w.heap.size]? = some (.cells #[.bool false, .slice none 0 0, .slice none 0 0] 31)
  b1 : W.heap[w.heap.size + 1]? = some (.cells #[.bool true, .slice none 0 0, v] 31)
  b2 : W.heap[w.heap.size + 2]? = some (.cells #[.slice a bs.length cap] 22)
  b3 : W.heap[w.heap.size + 3]? = some (.cells #[.int .i64 from_] 3)
  b4 : W.heap[w.heap.size + 4]? = some (.cells #[.int .i64 to_] 3)
  b5 : W.heap[w.heap.size + 5]? = some (.cells #[.int .i64 ((16 - d : Nat) : Int)] 3)
  b6 : W.heap[w.heap.size + 6]? = some (.deferred (some []))
  b7 : W.heap[w.heap.size + 7]? = some (.loop rc)
  row : W.ownsRow (w.heap.size + 8) 31 3 v A.length (icL A)
  it : ∀ f ∈ A, ItV W (fun b => w.heap.size + 8 ≤ b ∧ b < W.heap.size ∧ v.ownBlock ≠ some b) f.sb f.si f.x
  bl : Below w.heap.size w W
  got : ∃ k, to_ - p ≤ k ∧ itF (fs d) n0 n0 (bs.drop from_) = (itF (fs d) k (to_ - p) (bs.drop p)).map (A.map IC.x ++ ·)
  pl : p ≤ to_
  len : A.length ≤ p
theorem RJ.size {w W : World} {a : Option Addr} {cap : Nat} {bs : List Int} {d from_ to_ n0 : Nat} {rc : Loop} {p : Nat} {A : List IC} {v : Value} (h : RJ w W a cap bs d from_ to_ n0 rc p A v) : w.heap.size + 8 ≤ W.heap.size := by
  have := heap_lt h.b7
  omega
theorem RJ.below {w W W2 : World} {a : Option Addr} {cap : Nat} {bs : List Int} {d from_ to_ n0 : Nat} {rc : Loop} {p : Nat} {A : List IC} {v : Value} (h : RJ w W a cap bs d from_ to_ n0 rc p A v) (hb : Below W.heap.size W W2) : RJ w W2 a cap bs d from_ to_ n0 rc p A v := by
  have hs := h.size
  exact ⟨(hb.block _ (by omega)).trans h.b0, (hb.block _ (by omega)).trans h.b1, (hb.block _ (by omega)).trans h.b2, (hb.block _ (by omega)).trans h.b3, (hb.block _ (by omega)).trans h.b4, (hb.block _ (by omega)).trans h.b5, (hb.block _ (by omega)).trans h.b6, (hb.block _ (by omega)).trans h.b7,
    ownsRow_heap h.row (fun b hb' => hb.block b (h.row.lt b hb').2), fun f hf => (h.it f hf).mono (fun b hb' => hb.block b hb'.2.1) (fun b hb' => ⟨hb'.1, Nat.lt_of_lt_of_le hb'.2.1 hb.size, hb'.2.2⟩), h.bl.trans (hb.mono h.bl.size), h.got, h.pl, h.len⟩
theorem RJ.put {w W : World} {a : Option Addr} {cap : Nat} {bs : List Int} {d from_ to_ n0 : Nat} {rc : Loop} {p : Nat} {A : List IC} {v : Value} (h : RJ w W a cap bs d from_ to_ n0 rc p A v) (r2 : Loop) : RJ w (W.putObj (w.heap.size + 7) (.loop r2)) a cap bs d from_ to_ n0 r2 p A v := by
  have hs := h.size
  have ho : ∀ b, b ≠ w.heap.size + 7 → (W.putObj (w.heap.size + 7) (.loop r2)).heap[b]? = W.heap[b]? := fun b hb => World.putObj_heap_other hb
  have hsz : (W.putObj (w.heap.size + 7) (.loop r2)).heap.size = W.heap.size := by simp [World.putObj]
  refine ⟨(ho _ (by omega)).trans h.b0, (ho _ (by omega)).trans h.b1, (ho _ (by omega)).trans h.b2, (ho _ (by omega)).trans h.b3, (ho _ (by omega)).trans h.b4, (ho _ (by omega)).trans h.b5, (ho _ (by omega)).trans h.b6, World.putObj_heap_same (by omega),
    ownsRow_heap h.row (fun b hb' => ho b (by have := (h.row.lt b hb').1; omega)), fun f hf => (h.it f hf).mono (fun b hb' => ho b (by have := hb'.1; omega)) (fun b hb' => ⟨hb'.1, by rw [hsz]; exact hb'.2.1, hb'.2.2⟩), ?_, h.got, h.pl, h.len⟩
  exact ⟨h.bl.os, h.bl.tape, h.bl.output, by rw [hsz]; exact h.bl.size, fun b hb => (ho b (by omega)).trans (h.bl.block b hb)⟩
theorem cell_off (w : World) (g i j : Nat) (v : Value) (h : i ≠ j) : (w.setCell ⟨g, i, none⟩ v).cell? ⟨g, j, none⟩ = w.cell? ⟨g, j, none⟩ := by
  apply World.cell?_setCell_other
  intro e
  injection e with _ e _
  exact h e
theorem setCell_b1 {w : World} {b : Nat} {x y z z' : Value} (h : w.heap[b]? = some (.cells #[x, y, z] 31)) : (w.setCell ⟨b, 2, none⟩ z').heap[b]? = some (.cells #[x, y, z'] 31) := heap_setCell_same _ b 2 _ 31 z' h
/-- One item more. -/
theorem RJ.step {w V V1 V2 V4 : World} {a : Option Addr} {cap : Nat} {bs : List Int} {d from_ to_ n0 : Nat} {rc : Loop} {p : Nat} {A : List IC} {v : Value} (h : RJ w V a cap bs d from_ to_ n0 rc p A v) (hb : Below V.heap.size V V1) (hg : V1.grownBy V2 v.ownBlock) {g c n : Nat} {f : IC}
    (hv : v.ownBlock = some g ∨ g = V1.heap.size) (hgb : w.heap.size + 8 ≤ g) (hf : ItV V (fun b => w.heap.size + 8 ≤ b ∧ b < V.heap.size ∧ v.ownBlock ≠ some b) f.sb f.si f.x)
    (hx : fs d (bs.drop p) = .ok (f.x, n)) (h1 : 1 ≤ n) (hn : p + n ≤ to_)
    (hk4 : ∀ b, b ≠ g → b ≠ w.heap.size + 1 → V4.heap[b]? = V2.heap[b]?) (hb4 : Below w.heap.size V2 V4) (hx4 : V4.heap[w.heap.size + 1]? = some (.cells #[.bool true, .slice none 0 0, .slice (some ⟨g, 0, none⟩) (A.length + 1) c] 31))
    (hrow4 : V4.ownsRow (w.heap.size + 8) 31 3 (.slice (some ⟨g, 0, none⟩) (A.length + 1) c) (A.length + 1) (icL (A ++ [f]))) :
    RJ w V4 a cap bs d from_ to_ n0 rc (p + n) (A ++ [f]) (.slice (some ⟨g, 0, none⟩) (A.length + 1) c) := by
  have hs := h.size
  have h' := h.below hb
  have hs1 := h'.size
  have hvl : ∀ b, v.ownBlock = some b → w.heap.size + 8 ≤ b := fun b hb' => (h.row.lt b hb').1
  have k2 : ∀ b, b < V1.heap.size → v.ownBlock ≠ some b → V2.heap[b]? = V1.heap[b]? := fun b h1 h2 => hg.block b h1 (fun e => h2 e.symm)
  have hlow : ∀ b, b < w.heap.size + 8 → b ≠ w.heap.size + 1 → V4.heap[b]? = V1.heap[b]? := fun b hb' hb2 => (hk4 b (by omega) hb2).trans (k2 b (by omega) (fun e => by have := hvl b e; omega))
  have hbl : Below w.heap.size w V4 := (h'.bl.grown hg (by omega) (fun b hb' => by have := hvl b hb'; omega)).trans hb4
  have hsv : V1.heap.size ≤ V4.heap.size := Nat.le_trans hg.size hb4.size
  have hitold : ∀ f' : IC, ItV V1 (fun b => w.heap.size + 8 ≤ b ∧ b < V1.heap.size ∧ v.ownBlock ≠ some b) f'.sb f'.si f'.x → ItV V4 (fun b => w.heap.size + 8 ≤ b ∧ b < V4.heap.size ∧ (Value.slice (some ⟨g, 0, none⟩) (A.length + 1) c).ownBlock ≠ some b) f'.sb f'.si f'.x := fun f' hf' => by
    have hbg : ∀ b, (w.heap.size + 8 ≤ b ∧ b < V1.heap.size ∧ v.ownBlock ≠ some b) → b ≠ g := fun b hb' e => by
      subst e
      rcases hv with hv | hv
      · exact hb'.2.2 hv
      · omega
    refine hf'.mono (fun b hb' => ?_) (fun b hb' => ⟨hb'.1, by omega, fun e => hbg b hb' (by simpa [Value.ownBlock] using e.symm)⟩)
    rw [hk4 b (hbg b hb') (by omega), k2 b hb'.2.1 hb'.2.2]
  refine ⟨(hlow _ (by omega) (by omega)).trans h'.b0, hx4, (hlow _ (by omega) (by omega)).trans h'.b2, (hlow _ (by omega) (by omega)).trans h'.b3, (hlow _ (by omega) (by omega)).trans h'.b4, (hlow _ (by omega) (by omega)).trans h'.b5, (hlow _ (by omega) (by omega)).trans h'.b6, (hlow _ (by omega) (by omega)).trans h'.b7, ?_, ?_, hbl, ?_, hn, ?_⟩
  · rw [List.length_append]
    exact hrow4
  · intro f' hf'
    rcases List.mem_append.1 hf' with h9 | h9
    · exact hitold f' (h'.it f' h9)
    · obtain rfl := List.mem_singleton.1 h9
      exact hitold f' (hf.mono (fun b hb' => hb.block b hb'.2.1) (fun b hb' => ⟨hb'.1, Nat.lt_of_lt_of_le hb'.2.1 hb.size, hb'.2.2⟩))
  · obtain ⟨k, hk, hgot⟩ := h.got
    refine ⟨k - 1, by omega, ?_⟩
    rw [hgot, itF_step (by omega) hx (by omega) hk, List.drop_drop, show to_ - p - n = to_ - (p + n) from by omega]
    have := map_map_ex (itF (fs d) (k - 1) (to_ - (p + n)) (bs.drop (p + n))) (A.map IC.x) [f.x]
    rw [List.map_append]
    exact this
  · rw [List.length_append]
    have := h.len
    simp
    omega
/-- Three cells of a row, then the variable. -/
theorem st_a {B b1 : Nat} {V2 : World} {g c k : Nat} {A : List IC} {z f : IC} {v0 : Value} (hgb : b1 < g) (hB : B ≤ b1) (hrow : V2.ownsRow k 31 3 (.slice (some ⟨g, 0, none⟩) (A.length + 1) c) (A.length + 1) (icL (A ++ [z]))) (hx : V2.heap[b1]? = some (.cells #[.bool true, .slice none 0 0, v0] 31)) :
    (∀ b, b ≠ g → b ≠ b1 → ((((V2.setCell ⟨g, A.length * 3, none⟩ (.bool f.x.l)).setCell ⟨g, A.length * 3 + 1, none⟩ f.sb).setCell ⟨g, A.length * 3 + 2, none⟩ f.si).setCell ⟨b1, 2, none⟩ (.slice (some ⟨g, 0, none⟩) (A.length + 1) c)).heap[b]? = V2.heap[b]?) ∧ Below B V2 ((((V2.setCell ⟨g, A.length * 3, none⟩ (.bool f.x.l)).setCell ⟨g, A.length * 3 + 1, none⟩ f.sb).setCell ⟨g, A.length * 3 + 2, none⟩ f.si).setCell ⟨b1, 2, none⟩ (.slice (some ⟨g, 0, none⟩) (A.length + 1) c)) ∧
    ((((V2.setCell ⟨g, A.length * 3, none⟩ (.bool f.x.l)).setCell ⟨g, A.length * 3 + 1, none⟩ f.sb).setCell ⟨g, A.length * 3 + 2, none⟩ f.si).setCell ⟨b1, 2, none⟩ (.slice (some ⟨g, 0, none⟩) (A.length + 1) c)).heap[b1]? = some (.cells #[.bool true, .slice none 0 0, .slice (some ⟨g, 0, none⟩) (A.length + 1) c] 31) ∧
    ((((V2.setCell ⟨g, A.length * 3, none⟩ (.bool f.x.l)).setCell ⟨g, A.length * 3 + 1, none⟩ f.sb).setCell ⟨g, A.length * 3 + 2, none⟩ f.si).setCell ⟨b1, 2, none⟩ (.slice (some ⟨g, 0, none⟩) (A.length + 1) c)).ownsRow k 31 3 (.slice (some ⟨g, 0, none⟩) (A.length + 1) c) (A.length + 1) (icL (A ++ [f])) := by
  refine ⟨fun b h1 h2 => ?_, ?_, ?_, ?_⟩
  · rw [Below.heap_setCell _ _ _ _ h2, Below.heap_setCell _ _ _ _ h1, Below.heap_setCell _ _ _ _ h1, Below.heap_setCell _ _ _ _ h1]
  · exact ((((Below.refl B V2).setCell (p := ⟨g, _, none⟩) (by show B ≤ g; omega) _).setCell (p := ⟨g, _, none⟩) (by show B ≤ g; omega) _).setCell (p := ⟨g, _, none⟩) (by show B ≤ g; omega) _).setCell (p := ⟨b1, _, none⟩) hB _
  · refine setCell_b1 (z := v0) ?_
    have e : b1 ≠ g := by omega
    rw [Below.heap_setCell _ _ _ _ e, Below.heap_setCell _ _ _ _ e, Below.heap_setCell _ _ _ _ e]
    exact hx
  · refine ownsRow_heap (row_last (f := f) hrow) (fun b hb => Below.heap_setCell _ _ _ _ ?_)
    have e : b = g := by simpa [Value.ownBlock] using hb.symm
    show b ≠ b1
    omega
/-- The variable, then three cells of a row. -/
theorem st_b {B b1 : Nat} {V2 : World} {g c k : Nat} {A : List IC} {z f : IC} {v0 : Value} (hgb : b1 < g) (hB : B ≤ b1) (hrow : V2.ownsRow k 31 3 (.slice (some ⟨g, 0, none⟩) (A.length + 1) c) (A.length + 1) (icL (A ++ [z]))) (hx : V2.heap[b1]? = some (.cells #[.bool true, .slice none 0 0, v0] 31)) :
    (∀ b, b ≠ g → b ≠ b1 → ((((V2.setCell ⟨b1, 2, none⟩ (.slice (some ⟨g, 0, none⟩) (A.length + 1) c)).setCell ⟨g, A.length * 3, none⟩ (.bool f.x.l)).setCell ⟨g, A.length * 3 + 1, none⟩ f.sb).setCell ⟨g, A.length * 3 + 2, none⟩ f.si).heap[b]? = V2.heap[b]?) ∧ Below B V2 ((((V2.setCell ⟨b1, 2, none⟩ (.slice (some ⟨g, 0, none⟩) (A.length + 1) c)).setCell ⟨g, A.length * 3, none⟩ (.bool f.x.l)).setCell ⟨g, A.length * 3 + 1, none⟩ f.sb).setCell ⟨g, A.length * 3 + 2, none⟩ f.si) ∧
    ((((V2.setCell ⟨b1, 2, none⟩ (.slice (some ⟨g, 0, none⟩) (A.length + 1) c)).setCell ⟨g, A.length * 3, none⟩ (.bool f.x.l)).setCell ⟨g, A.length * 3 + 1, none⟩ f.sb).setCell ⟨g, A.length * 3 + 2, none⟩ f.si).heap[b1]? = some (.cells #[.bool true, .slice none 0 0, .slice (some ⟨g, 0, none⟩) (A.length + 1) c] 31) ∧
    ((((V2.setCell ⟨b1, 2, none⟩ (.slice (some ⟨g, 0, none⟩) (A.length + 1) c)).setCell ⟨g, A.length * 3, none⟩ (.bool f.x.l)).setCell ⟨g, A.length * 3 + 1, none⟩ f.sb).setCell ⟨g, A.length * 3 + 2, none⟩ f.si).ownsRow k 31 3 (.slice (some ⟨g, 0, none⟩) (A.length + 1) c) (A.length + 1) (icL (A ++ [f])) := by
  refine ⟨fun b h1 h2 => ?_, ?_, ?_, ?_⟩
  · rw [Below.heap_setCell _ _ _ _ h1, Below.heap_setCell _ _ _ _ h1, Below.heap_setCell _ _ _ _ h1, Below.heap_setCell _ _ _ _ h2]
  · exact ((((Below.refl B V2).setCell (p := ⟨b1, _, none⟩) hB _).setCell (p := ⟨g, _, none⟩) (by show B ≤ g; omega) _).setCell (p := ⟨g, _, none⟩) (by show B ≤ g; omega) _).setCell (p := ⟨g, _, none⟩) (by show B ≤ g; omega) _
  · have e : b1 ≠ g := by omega
    rw [Below.heap_setCell _ _ _ _ e, Below.heap_setCell _ _ _ _ e, Below.heap_setCell _ _ _ _ e]
    exact setCell_b1 hx
  · refine row_last (f := f) (z := z) (ownsRow_heap hrow (fun b hb => Below.heap_setCell _ _ _ _ ?_))
    have e : b = g := by simpa [Value.ownBlock] using hb.symm
    show b ≠ b1
    omega
end Go.Proofs.Ytmnlcpfehbpogaa
