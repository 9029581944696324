/- RY, RZ, SA, laid into one text. -/
import Derived.Test.YtboeokmaepchgaaGreatDoorM21
import Derived.Lib.SlBytesConst
/- rlp: copies, List. -/
namespace Go.Proofs.YtboeokmaepchgaaGreatDoor
open Go.RowKit Go.Maps Go.Joins
set_option linter.unusedSimpArgs false
set_option linter.unusedVariables false
theorem row_its {w : World} {base : Nat} {v : Value} {A : List IC} {D : Nat → Prop} (hrow : w.ownsRow base 154 3 v A.length (icL A)) (hit : ∀ f ∈ A, ItV w D f.sb f.si f.x) (hD : ∀ b, v.ownBlock = some b → D b) (hl : A.length * 56 ≤ 140737488355328) : ItsV w D v (A.map IC.x) := by
  have hmap : ∀ i x, (A.map IC.x)[i]? = some x → ∃ f : IC, A[i]? = some f ∧ f.x = x := fun i x hx => by
    rw [List.getElem?_map] at hx
    cases hf : A[i]? with
    | none => rw [hf] at hx; cases hx
    | some f => rw [hf] at hx; injection hx with hx; exact ⟨f, hf, hx⟩
  have hitv : ∀ i x, (A.map IC.x)[i]? = some x → ∃ f : IC, A[i]? = some f ∧ f.x = x ∧ ItV w D f.sb f.si f.x := fun i x hx => by
    obtain ⟨f, hf, e⟩ := hmap i x hx
    exact ⟨f, hf, e, hit f (List.mem_of_getElem? hf)⟩
  have hlen : (A.map IC.x).length = A.length := by simp
  obtain ⟨a, cap, hv, q1, q2, q3, q4⟩ := row_cap hrow
  have hcells : ∀ g, v.ownBlock = some g → ∀ i f, A[i]? = some f → ∀ j u, (icC f)[j]? = some u → w.cell? ⟨g, 0 + i * 3 + j, none⟩ = some u := fun g hg i f hf j u hu => by
    have h3 : j < 3 := by
      have := (List.getElem?_eq_some_iff.1 hu).1
      simpa [icC] using this
    have := hrow.cells hg (i * 3 + j) u (by rw [icL_at A i f hf j h3]; exact hu)
    rw [Addr.add_lit, ← Nat.add_assoc] at this
    exact this
  subst hv
  have hex : ∃ g, 0 < A.length → a = some ⟨g, 0, none⟩ := by
    by_cases h0 : 0 < A.length
    · cases a with
      | none => have := q3 rfl; omega
      | some ad => obtain ⟨g, hg⟩ := q4 ad rfl; exact ⟨g, fun _ => by rw [hg]⟩
    · exact ⟨0, fun h => absurd h h0⟩
  obtain ⟨g, hg⟩ := hex
  have hA : ∀ i f, A[i]? = some f → 0 < A.length := fun i f hf => by have := (List.getElem?_eq_some_iff.1 hf).1; omega
  have hob : ∀ i f, A[i]? = some f → (Value.slice a A.length cap).ownBlock = some g := fun i f hf => by rw [hg (hA i f hf)]; rfl
  have := ItsV.mk (w := w) (D := D) (A.map IC.x) a cap g 0 (fun i => ((A[i]?).map IC.sb).getD .nilIface) (fun i => ((A[i]?).map IC.si).getD .nilIface) (by rw [hlen]; exact q1) q2 (by rw [hlen]; exact hl)
    (fun h0 => hg (by rw [hlen] at h0; exact h0)) (fun h0 => by
      rw [hlen] at h0
      exact hD g (by rw [hg h0]; rfl))
    (fun i x hx => by obtain ⟨f, hf, rfl⟩ := hmap i x hx; exact hcells g (hob i f hf) i f hf 0 _ rfl)
    (fun i x hx => by obtain ⟨f, hf, rfl⟩ := hmap i x hx; rw [hf]; exact hcells g (hob i f hf) i f hf 1 _ rfl)
    (fun i x hx => by obtain ⟨f, hf, rfl⟩ := hmap i x hx; rw [hf]; exact hcells g (hob i f hf) i f hf 2 _ rfl)
    (fun i x hx => by obtain ⟨f, hf, rfl, hv⟩ := hitv i x hx; rw [hf]; exact hv.b)
    (fun i x hx => by obtain ⟨f, hf, rfl, hv⟩ := hitv i x hx; rw [hf]; exact hv.xs)
  rw [hlen] at this
  exact this
def icZ : IC := ⟨.mk false [] [], .slice none 0 0, .slice none 0 0⟩
theorem icL_set : ∀ (M : List IC) (j : Nat) (f : IC), j < M.length → icL (M.set j f) = (icL M).take (j * 3) ++ icC f ++ (icL M).drop (j * 3 + 3)
  | [], j, f, h => by simp at h
  | g :: M, 0, f, h => by
    show icC f ++ icL M = (icC g ++ icL M).take (0 * 3) ++ icC f ++ (icC g ++ icL M).drop (0 * 3 + 3)
    simp [icC]
  | g :: M, j + 1, f, h => by
    show icC g ++ icL (M.set j f) = (icC g ++ icL M).take ((j + 1) * 3) ++ icC f ++ (icC g ++ icL M).drop ((j + 1) * 3 + 3)
    rw [icL_set M j f (by simpa using h)]
    rw [show (j + 1) * 3 = j * 3 + 1 + 1 + 1 from by omega, show j * 3 + 1 + 1 + 1 + 3 = j * 3 + 3 + 1 + 1 + 1 from by omega]
    simp [icC]
theorem set3w (L : List Value) (a : Nat) (x y z : Value) (h : a + 3 ≤ L.length) : ((L.set a x).set (a + 1) y).set (a + 2) z = L.take a ++ [x, y, z] ++ L.drop (a + 3) := by
  apply List.ext_getElem?
  intro i
  rw [List.append_assoc]
  by_cases h1 : i < a
  · rw [List.getElem?_set_ne (by omega), List.getElem?_set_ne (by omega), List.getElem?_set_ne (by omega), List.getElem?_append_left (by rw [List.length_take]; omega), List.getElem?_take, if_pos h1]
  · rw [List.getElem?_append_right (by rw [List.length_take]; omega), List.length_take, Nat.min_eq_left (by omega)]
    by_cases h2 : i < a + 3
    · have : i = a ∨ i = a + 1 ∨ i = a + 2 := by omega
      rcases this with rfl | rfl | rfl
      · rw [List.getElem?_set_ne (by omega), List.getElem?_set_ne (by omega), List.getElem?_set_self (by omega)]; simp
      · rw [List.getElem?_set_ne (by omega), List.getElem?_set_self (by simp; omega)]; simp
      · rw [List.getElem?_set_self (by simp; omega)]; simp
    · rw [List.getElem?_set_ne (by omega), List.getElem?_set_ne (by omega), List.getElem?_set_ne (by omega), List.getElem?_append_right (by simp; omega), List.getElem?_drop]
      congr 1
      simp
      omega
theorem row_put {w : World} {b j : Nat} {M : List IC} (f : IC) (h : w.heap[b]? = some (.cells (icL M).toArray 154)) (hj : j < M.length) :
    (((w.setCell ⟨b, j * 3, none⟩ (.bool f.x.l)).setCell ⟨b, j * 3 + 1, none⟩ f.sb).setCell ⟨b, j * 3 + 2, none⟩ f.si).heap[b]? = some (.cells (icL (M.set j f)).toArray 154) := by
  rw [heap_setCell_same _ b _ _ 154 _ (heap_setCell_same _ b _ _ 154 _ (heap_setCell_same _ b _ _ 154 _ h))]
  congr 2
  rw [icL_set M j f hj]
  have := set3w (icL M) (j * 3) (.bool f.x.l) f.sb f.si (by rw [icL_length]; omega)
  rw [show icC f = [.bool f.x.l, f.sb, f.si] from rfl, ← this]
  simp
theorem made_icL (n : Nat) : madeCells #[.bool false, .slice none 0 0, .slice none 0 0] (n * 3) = (icL (List.replicate n icZ)).toArray := by
  apply Array.ext'
  apply List.ext_getElem?
  intro i
  by_cases h : i < n * 3
  · have e : i = i / 3 * 3 + i % 3 := by omega
    have := icL_at (List.replicate n icZ) (i / 3) icZ (by rw [List.getElem?_replicate, if_pos (by omega)]) (i % 3) (Nat.mod_lt _ (by omega))
    rw [← e] at this
    show _ = (icL (List.replicate n icZ))[i]?
    rw [this]
    have h3 : i % 3 < 3 := Nat.mod_lt _ (by omega)
    simp only [madeCells, Array.getElem?_toList, Array.getElem?_map, Array.getElem?_range, if_pos h]
    rcases (by omega : i % 3 = 0 ∨ i % 3 = 1 ∨ i % 3 = 2) with e | e | e <;> simp [e, icC, icZ, Tr.l]
  · rw [List.getElem?_eq_none (by simp [madeCells]; omega), List.getElem?_eq_none (by simp [icL_length]; omega)]
/-- Within the rounds of copies. -/
structure CJ (w W : World) (n j : Nat) (xs : List Tr) (M : List IC) : Prop where
  len : M.length = n
  blk : W.heap[w.heap.size]? = some (.cells (icL M).toArray 154)
  it : ∀ i f, i < j → M[i]? = some f → ItV W (fun b => w.heap.size + 1 ≤ b ∧ b < W.heap.size) f.sb f.si f.x ∧ xs[i]? = some f.x
  bl : Below w.heap.size w W
theorem CJ.size {w W : World} {n j : Nat} {xs : List Tr} {M : List IC} (h : CJ w W n j xs M) : w.heap.size + 1 ≤ W.heap.size := heap_lt h.blk
theorem CJ.below {w W W2 : World} {n j : Nat} {xs : List Tr} {M : List IC} (h : CJ w W n j xs M) (hb : Below W.heap.size W W2) : CJ w W2 n j xs M :=
  ⟨h.len, (hb.block _ h.size).trans h.blk, fun i f hi hf => ⟨(h.it i f hi hf).1.mono (fun b hb' => hb.block b hb'.2) (fun b hb' => ⟨hb'.1, Nat.lt_of_lt_of_le hb'.2 hb.size⟩), (h.it i f hi hf).2⟩, h.bl.trans (hb.mono h.bl.size)⟩
theorem CJ.put {w W : World} {n j : Nat} {xs : List Tr} {M : List IC} (h : CJ w W n j xs M) (hj : j < n) (f : IC) (hf : ItV W (fun b => w.heap.size + 1 ≤ b ∧ b < W.heap.size) f.sb f.si f.x) (hx : xs[j]? = some f.x) :
    CJ w (((W.setCell ⟨w.heap.size, j * 3, none⟩ (.bool f.x.l)).setCell ⟨w.heap.size, j * 3 + 1, none⟩ f.sb).setCell ⟨w.heap.size, j * 3 + 2, none⟩ f.si) n (j + 1) xs (M.set j f) := by
  have ho : ∀ b, b ≠ w.heap.size → (((W.setCell ⟨w.heap.size, j * 3, none⟩ (.bool f.x.l)).setCell ⟨w.heap.size, j * 3 + 1, none⟩ f.sb).setCell ⟨w.heap.size, j * 3 + 2, none⟩ f.si).heap[b]? = W.heap[b]? := fun b hb => by
    rw [Below.heap_setCell _ _ _ _ hb, Below.heap_setCell _ _ _ _ hb, Below.heap_setCell _ _ _ _ hb]
  have hs : (((W.setCell ⟨w.heap.size, j * 3, none⟩ (.bool f.x.l)).setCell ⟨w.heap.size, j * 3 + 1, none⟩ f.sb).setCell ⟨w.heap.size, j * 3 + 2, none⟩ f.si).heap.size = W.heap.size := by simp
  have hm : ∀ {sb si : Value} {x : Tr}, ItV W (fun b => w.heap.size + 1 ≤ b ∧ b < W.heap.size) sb si x → ItV (((W.setCell ⟨w.heap.size, j * 3, none⟩ (.bool f.x.l)).setCell ⟨w.heap.size, j * 3 + 1, none⟩ f.sb).setCell ⟨w.heap.size, j * 3 + 2, none⟩ f.si) (fun b => w.heap.size + 1 ≤ b ∧ b < (((W.setCell ⟨w.heap.size, j * 3, none⟩ (.bool f.x.l)).setCell ⟨w.heap.size, j * 3 + 1, none⟩ f.sb).setCell ⟨w.heap.size, j * 3 + 2, none⟩ f.si).heap.size) sb si x := fun h9 => h9.mono (fun b hb => ho b (by have := hb.1; omega)) (fun b hb => ⟨hb.1, by rw [hs]; exact hb.2⟩)
  refine ⟨by rw [List.length_set]; exact h.len, row_put f h.blk (by rw [h.len]; exact hj), fun i g hi hg => ?_, ((h.bl.setCell (p := ⟨w.heap.size, j * 3, none⟩) (Nat.le_refl _) _).setCell (p := ⟨w.heap.size, j * 3 + 1, none⟩) (Nat.le_refl _) _).setCell (p := ⟨w.heap.size, j * 3 + 2, none⟩) (Nat.le_refl _) _⟩
  by_cases e : i = j
  · subst e
    rw [List.getElem?_set_self (by rw [h.len]; exact hj)] at hg
    injection hg with hg
    subst hg
    exact ⟨hm hf, hx⟩
  · rw [List.getElem?_set_ne (by omega)] at hg
    have := h.it i g (by omega) hg
    exact ⟨hm this.1, this.2⟩
/-- All is done: items. -/
theorem CJ.done {w W : World} {xs : List Tr} {M : List IC} (h : CJ w W xs.length xs.length xs M) (hl : xs.length * 56 ≤ 140737488355328) : ItsV W (fun b => w.heap.size ≤ b ∧ b < W.heap.size) (.slice (some ⟨w.heap.size, 0, none⟩) xs.length xs.length) xs := by
  have hM : M.map IC.x = xs := by
    apply List.ext_getElem?
    intro i
    rw [List.getElem?_map]
    cases hi : M[i]? with
    | none => rw [List.getElem?_eq_none (by have := List.getElem?_eq_none_iff.1 hi; have := h.len; omega)]; rfl
    | some f => exact ((h.it i f (by have := (List.getElem?_eq_some_iff.1 hi).1; have := h.len; omega) hi).2).symm
  have hrow : W.ownsRow w.heap.size 154 3 (.slice (some ⟨w.heap.size, 0, none⟩) xs.length xs.length) M.length (icL M) := by
    rw [h.len]
    refine ⟨by rw [icL_length, h.len], Or.inr ⟨w.heap.size, xs.length, _, rfl, Nat.le_refl _, h.blk, Nat.le_refl _, by unfold maxLen; omega, by simp [icL_length, h.len], ?_⟩⟩
    rw [List.take_of_length_le (by simp [icL_length, h.len])]
  have := row_its hrow (D := fun b => w.heap.size ≤ b ∧ b < W.heap.size) (fun f hf => by
    obtain ⟨i, hi⟩ := List.getElem?_of_mem hf
    exact (h.it i f (by have := (List.getElem?_eq_some_iff.1 hi).1; have := h.len; omega) hi).1.mono (fun _ _ => rfl) (fun b hb => ⟨by have := hb.1; omega, hb.2⟩)) (fun b hb => hrow.lt b hb) (by rw [h.len]; exact hl)
  rw [hM] at this
  exact this
end Go.Proofs.YtboeokmaepchgaaGreatDoor
/- rlp: copies, List: the walks. -/
namespace Go.Proofs.YtboeokmaepchgaaGreatDoor
open Go.RowKit Go.Maps Go.Joins
set_option linter.unusedSimpArgs false
set_option linter.unusedVariables false
theorem mk29 (n : Nat) (hn : n * 56 ≤ 140737488355328) (w : World) : (Instr.makeSlice 152 (.int .i64 n) (.int .i64 n)).run Tryz.prog w = .ok (.slice (some ⟨w.heap.size, 0, none⟩) n n) (w.alloc (.cells (icL (List.replicate n icZ)).toArray 154)) := by
  obtain ⟨i, hi, hz, hs, hb⟩ := info31c
  have := run_make (P := Tryz.prog) w 152 154 i _ Tryz.underlying152 hi hz .i64 .i64 n n (by omega) (by omega) (by rw [hb]; omega) (by omega)
  rw [hs] at this
  rw [this]
  simp only [Int.toNat_natCast]
  rw [show (Value.agg #[.bool false, .slice none 0 0, .slice none 0 0]).cells = #[.bool false, .slice none 0 0, .slice none 0 0] from by rfl, made_icL]
def CopyC (xs : List Tr) : Prop := ∀ (w : World) (v : Value) (D : Nat → Prop), ItsV w D v xs → (∀ b, D b → b < w.heap.size) →
    Calls Tryz.prog 207 #[v] w fun e w' => Below w.heap.size w w' ∧ ∃ v', e = .returned v' ∧ ItsV w' (fun b => w.heap.size ≤ b ∧ b < w'.heap.size) v' xs
set_option maxRecDepth 100000 in
set_option maxHeartbeats 16000000 in
theorem copies1 (xs : List Tr) (ih : ∀ x ∈ xs, CopyC x.xs) : CopyC xs := by
  intro w v D h hD
  obtain ⟨ai, ci, rfl, i1, i2, i3⟩ : ∃ a cap, v = .slice a xs.length cap ∧ xs.length ≤ cap ∧ cap ≤ 9223372036854775807 ∧ xs.length * 56 ≤ 140737488355328 := h.form
  have HI : Hid (ItsV w D (.slice ai xs.length ci) xs) := h
  have HD : Hid (∀ b, D b → b < w.heap.size) := hD
  have IH : Hid _ := ih
  obtain ⟨n, hn⟩ : ∃ n, n = xs.length := ⟨_, rfl⟩
  rw [← hn] at HI i1 i3 ⊢
  have HN : Hid (n = xs.length) := hn
  clear h hD ih hn
  have hmk := mk29 n i3
  have hB : Below w.heap.size w (w.alloc (.cells (icL (List.replicate n icZ)).toArray 154)) := by go_grown
  have H0 : Hid (CJ w (w.alloc (.cells (icL (List.replicate n icZ)).toArray 154)) n 0 xs (List.replicate n icZ)) := ⟨by simp, heap_alloc_new _ _, fun i f hi => (by omega), hB⟩
  clear hB
  go_enter Tryz.func207, Tryz.ntmps207
  go_wp2_with fail
  generalize w.alloc (.cells (icL (List.replicate n icZ)).toArray 154) = W0 at H0 ⊢
  go_loopw [11] (fun i wr => ∃ (j : Nat) (M : List IC), j ≤ n ∧ i = .int .i64 j ∧ CJ w wr n j xs M) (fun i _ => n - (intOf i).toNat)
  case atStart => exact ⟨0, _, Nat.zero_le _, rfl, H0.out⟩
  case round =>
    obtain ⟨j, M, hj, rfl, hJ⟩ := hrel
    by_cases hjl : j < n
    · obtain ⟨y, hy⟩ : ∃ y, xs[j]? = some y := ⟨_, List.getElem?_eq_getElem (by have := HN.out; omega)⟩
      obtain ⟨g, o, sb', si', rfl, hDg, c0, c1, c2, hbb, hii⟩ := HI.out.at hy
      obtain ⟨ab', cb', rfl⟩ := hbb.is.form
      obtain ⟨ak', ck', rfl, j1, j2, j3⟩ := hii.form
      have hgl := HD.out g hDg
      have c0 : wr.cell? ⟨g, o + j * 3, none⟩ = some (.bool y.l) := (hJ.bl.cell (p := ⟨g, o + j * 3, none⟩) hgl).trans c0
      have c1 : wr.cell? ⟨g, o + j * 3 + 1, none⟩ = some (.slice ab' y.b.length cb') := (hJ.bl.cell (p := ⟨g, o + j * 3 + 1, none⟩) hgl).trans c1
      have c2 : wr.cell? ⟨g, o + j * 3 + 2, none⟩ = some (.slice ak' y.xs.length ck') := (hJ.bl.cell (p := ⟨g, o + j * 3 + 2, none⟩) hgl).trans c2
      have HR : Hid (CJ w wr n j xs M ∧ xs[j]? = some y ∧ BytD w D (.slice ab' y.b.length cb') y.b ∧ ItsV w D (.slice ak' y.xs.length ck') y.xs) := ⟨hJ, hy, hbb, hii⟩
      obtain ⟨yl, hyl⟩ : ∃ yl, yl = y.l := ⟨_, rfl⟩
      obtain ⟨yn, hyn⟩ : ∃ yn, yn = y.b.length := ⟨_, rfl⟩
      obtain ⟨ym, hym⟩ : ∃ ym, ym = y.xs.length := ⟨_, rfl⟩
      rw [← hyl] at c0
      rw [← hyn] at c1
      rw [← hym] at c2
      have HY : Hid (yl = y.l ∧ yn = y.b.length ∧ ym = y.xs.length) := ⟨hyl, hyn, hym⟩
      clear hJ hy hbb hii hyl hyn hym hDg hgl
      go_wp2_with fail
      have hB1 : Below wr.heap.size wr (wr.alloc (.cells #[.bool yl, .slice ab' yn cb', .slice ak' ym ck'] 154)) := by go_grown
      have hx1 : (wr.alloc (.cells #[.bool yl, .slice ab' yn cb', .slice ak' ym ck'] 154)).heap[wr.heap.size]? = some (.cells #[.bool yl, .slice ab' yn cb', .slice ak' ym ck'] 154) := heap_alloc_new _ _
      have hJ1 := HR.out.1.below hB1
      have hw1 : Below w.heap.size w (wr.alloc (.cells #[.bool yl, .slice ab' yn cb', .slice ak' ym ck'] 154)) := hJ1.bl
      obtain ⟨bx, hbx⟩ : ∃ bx, bx = wr.heap.size := ⟨_, rfl⟩
      have hbs : w.heap.size + 1 ≤ bx := by rw [hbx]; exact HR.out.1.size
      rw [← hbx] at hx1 ⊢
      have HW : Hid (CJ w (wr.alloc (.cells #[.bool yl, .slice ab' yn cb', .slice ak' ym ck'] 154)) n j xs M ∧ w.heap.size + 1 ≤ bx ∧ BytD (wr.alloc (.cells #[.bool yl, .slice ab' yn cb', .slice ak' ym ck'] 154)).drew D (.slice ab' yn cb') y.b ∧ ItsV (wr.alloc (.cells #[.bool yl, .slice ab' yn cb', .slice ak' ym ck'] 154)).drew D (.slice ak' ym ck') y.xs) := by
        refine ⟨hJ1, hbs, ?_, ?_⟩
        · have hq := HR.out.2.2.1
          rw [← HY.out.2.1] at hq
          exact hq.mono (fun b hb => hw1.block b (HD.out b hb)) (fun _ h => h)
        · have hq := HR.out.2.2.2
          rw [← HY.out.2.2] at hq
          exact hq.mono (fun b hb => hw1.block b (HD.out b hb)) (fun _ h => h)
      have hS0 : (fun w' => w'.heap[bx]? = some (.cells #[.bool yl, .slice ab' yn cb', .slice ak' ym ck'] 154)) (wr.alloc (.cells #[.bool yl, .slice ab' yn cb', .slice ak' ym ck'] 154)).drew := hx1
      have HC : Hid (xs[j]? = some y) := HR.out.2.1
      clear hB1 hJ1 hw1 hbx hbs hx1 HR c0 c1 c2
      generalize wr.alloc (.cells #[.bool yl, .slice ab' yn cb', .slice ak' ym ck'] 154) = W1 at HW hS0 ⊢
      refine wp_noP ?_
      refine wp_region_held_drew (S := (fun w' => w'.heap[bx]? = some (.cells #[.bool yl, .slice ab' yn cb', .slice ak' ym ck'] 154))) (by kernel_rfl) hS0 (fun hHeld => ?_)
      refine wpAnyH_take (i := 0) (v := .slice (some ⟨w.heap.size, 0, none⟩) n n) rfl (by kernel_rfl) (by kernel_rfl) (by kernel_rfl) (fun _ _ _ h => h) (Or.inl ⟨by rfl, fun w9 hSw => ?_⟩) hHeld ?_
      · go_simp
      simp only [List.getElem_toArray, List.getElem_cons_succ, List.getElem_cons_zero, Act.put, List.setIfInBounds_toArray, List.set_cons_zero, List.set_cons_succ]
      refine wpAnyH_take (i := 1) (v := .int .i64 j) rfl (by kernel_rfl) (by kernel_rfl) (by kernel_rfl) (fun _ _ _ h => h) (Or.inl ⟨by rfl, fun w9 hSw => ?_⟩) hHeld ?_
      · go_simp
      simp only [List.getElem_toArray, List.getElem_cons_succ, List.getElem_cons_zero, Act.put, List.setIfInBounds_toArray, List.set_cons_zero, List.set_cons_succ]
      refine wpAnyH_take (i := 2) (v := .pointer (some ⟨bx, 0, none⟩)) rfl (by kernel_rfl) (by kernel_rfl) (by kernel_rfl) (fun _ _ _ h => h) (Or.inl ⟨by rfl, fun w9 hSw => ?_⟩) hHeld ?_
      · go_simp
      simp only [List.getElem_toArray, List.getElem_cons_succ, List.getElem_cons_zero, Act.put, List.setIfInBounds_toArray, List.set_cons_zero, List.set_cons_succ]
      refine wpAnyH_take (i := 3) (v := .bool yl) rfl (by kernel_rfl) (by kernel_rfl) (by kernel_rfl) (fun _ _ _ h => h) (Or.inl ⟨by rfl, fun w9 hSw => ?_⟩) hHeld ?_
      · have h2 : w9.cell? ⟨bx, 0, none⟩ = some (.bool yl) := (cell_of_block hSw 0).trans rfl
        go_simp
      simp only [List.getElem_toArray, List.getElem_cons_succ, List.getElem_cons_zero, Act.put, List.setIfInBounds_toArray, List.set_cons_zero, List.set_cons_succ]
      refine wpAnyH_take (i := 4) (v := .pointer (some ⟨bx, 1, none⟩)) rfl (by kernel_rfl) (by kernel_rfl) (by kernel_rfl) (fun _ _ _ h => h) (Or.inl ⟨by rfl, fun w9 hSw => ?_⟩) hHeld ?_
      · go_simp
      simp only [List.getElem_toArray, List.getElem_cons_succ, List.getElem_cons_zero, Act.put, List.setIfInBounds_toArray, List.set_cons_zero, List.set_cons_succ]
      refine wpAnyH_take (i := 5) (v := .slice ab' yn cb') rfl (by kernel_rfl) (by kernel_rfl) (by kernel_rfl) (fun _ _ _ h => h) (Or.inl ⟨by rfl, fun w9 hSw => ?_⟩) hHeld ?_
      · have h2 : w9.cell? ⟨bx, 1, none⟩ = some (.slice ab' yn cb') := (cell_of_block hSw 1).trans rfl
        go_simp
      simp only [List.getElem_toArray, List.getElem_cons_succ, List.getElem_cons_zero, Act.put, List.setIfInBounds_toArray, List.set_cons_zero, List.set_cons_succ]
      refine wpAnyH_take (i := 7) (v := .pointer (some ⟨bx, 2, none⟩)) rfl (by kernel_rfl) (by kernel_rfl) (by kernel_rfl) (fun _ _ _ h => h) (Or.inl ⟨by rfl, fun w9 hSw => ?_⟩) hHeld ?_
      · go_simp
      simp only [List.getElem_toArray, List.getElem_cons_succ, List.getElem_cons_zero, Act.put, List.setIfInBounds_toArray, List.set_cons_zero, List.set_cons_succ]
      refine wpAnyH_take (i := 8) (v := .slice ak' ym ck') rfl (by kernel_rfl) (by kernel_rfl) (by kernel_rfl) (fun _ _ _ h => h) (Or.inl ⟨by rfl, fun w9 hSw => ?_⟩) hHeld ?_
      · have h2 : w9.cell? ⟨bx, 2, none⟩ = some (.slice ak' ym ck') := (cell_of_block hSw 2).trans rfl
        go_simp
      simp only [List.getElem_toArray, List.getElem_cons_succ, List.getElem_cons_zero, Act.put, List.setIfInBounds_toArray, List.set_cons_zero, List.set_cons_succ]
      refine wpAnyH_ready (rs := [6]) (by kernel_rfl) (by simp) ?_
      refine AllReadyH.cons rfl (fun K hK => ?_) AllReadyH.nil
      have hC := bclone_any (w := W1.drew) (.slice ab' yn cb') y.b HW.out.2.2.1.is HW.out.2.2.1.len
      go_simp
      refine Calls.mono hC ?_
      clear hC
      rintro e w2 ⟨v2, rfl, ho2, hb2⟩
      obtain ⟨a8, c8, rfl⟩ := row_form ho2
      rw [← HY.out.2.1] at ho2 ⊢
      have hb2' : Below W1.heap.size W1 w2 := ⟨hb2.os, hb2.tape, hb2.output, hb2.size, hb2.block⟩
      have hJ2 := HW.out.1.below hb2'
      have hx2 : (fun w' => w'.heap[bx]? = some (.cells #[.bool yl, .slice ab' yn cb', .slice ak' ym ck'] 154)) w2 := (hb2.block bx (heap_lt hHeld)).trans hHeld
      have hs1 := HW.out.1.size
      have H2 : Hid (CJ w w2 n j xs M ∧ w.heap.size + 1 ≤ bx ∧ BytD w2 (fun b => w.heap.size + 1 ≤ b ∧ b < w2.heap.size) (.slice a8 yn c8) y.b ∧ ItsV w2 D (.slice ak' ym ck') y.xs) := ⟨hJ2, HW.out.2.1, BytD.of_own (by rw [← HY.out.2.1]; exact ho2) (fun b h1 h2 => ⟨by have : W1.drew.heap.size = W1.heap.size := rfl; omega, h2⟩) HW.out.2.2.1.len, HW.out.2.2.2.mono (fun b hb => hb2.block b (Nat.lt_of_lt_of_le (HD.out b hb) HW.out.1.bl.size)) (fun _ h => h)⟩
      clear hb2 hb2' hJ2 hs1 ho2
      refine hK.out _ _ hx2 (fun hHeld => ?_)
      clear hK K
      try simp only [List.getElem_toArray, List.getElem_cons_succ, List.getElem_cons_zero, Act.put, List.setIfInBounds_toArray, List.set_cons_zero, List.set_cons_succ]
      refine wpAnyH_ready (rs := [9]) (by kernel_rfl) (by simp) ?_
      refine AllReadyH.cons rfl (fun K hK => ?_) AllReadyH.nil
      have hC := IH.out y (List.mem_of_getElem? HC.out) w2 (.slice ak' ym ck') D H2.out.2.2.2 (fun b hb => Nat.lt_of_lt_of_le (HD.out b hb) H2.out.1.bl.size)
      go_simp
      refine Calls.mono hC ?_
      clear hC
      rintro e w3 ⟨hb3, v3, rfl, hi3⟩
      obtain ⟨a9, c9, rfl, -⟩ := hi3.form
      obtain ⟨yk, hyk⟩ : ∃ yk, yk = y.xs.length := ⟨_, rfl⟩
      rw [← hyk] at hi3 ⊢
      have hJ3 := H2.out.1.below hb3
      have hx3 : (fun w' => w'.heap[bx]? = some (.cells #[.bool yl, .slice ab' yn cb', .slice ak' ym ck'] 154)) w3 := (hb3.block bx (heap_lt hHeld)).trans hHeld
      have hs2 := H2.out.1.size
      have hk3 := hJ3.blk
      have hl3 : (icL M).length = n * 3 := by rw [icL_length, hJ3.len]
      have hcell : ∀ k, k < n * 3 → ∃ u, w3.cell? ⟨w.heap.size, k, none⟩ = some u := fun k hk => ⟨(icL M)[k]'(by omega), (cell_of_block hk3 k).trans (by simp)⟩
      have H3 : Hid (CJ w w3 n j xs M ∧ ItV w3 (fun b => w.heap.size + 1 ≤ b ∧ b < w3.heap.size) (.slice a8 yn c8) (.slice a9 yk c9) y) := ⟨hJ3, H2.out.2.2.1.mono (fun b hb => hb3.block b hb.2) (fun b hb => ⟨hb.1, Nat.lt_of_lt_of_le hb.2 hb3.size⟩), hi3.mono (fun _ _ => rfl) (fun b hb => ⟨by have := hb.1; omega, hb.2⟩)⟩
      obtain ⟨x0, k0⟩ := hcell (j * 3) (by omega)
      obtain ⟨x1, k1⟩ := hcell (j * 3 + 1) (by omega)
      obtain ⟨x2, k2⟩ := hcell (j * 3 + 2) (by omega)
      have kz := fun k => unfrozen_of_block hk3 k
      clear hb3 hi3 hJ3 hs2 hyk hk3 hl3 hcell
      refine hK.out _ _ hx3 (fun hHeld => ?_)
      clear hK K
      try simp only [List.getElem_toArray, List.getElem_cons_succ, List.getElem_cons_zero, Act.put, List.setIfInBounds_toArray, List.set_cons_zero, List.set_cons_succ]
      refine wpAnyH_take (i := 10) (v := .agg #[.bool yl, .slice a8 yn c8, .slice a9 yk c9]) rfl (by kernel_rfl) (by kernel_rfl) (by kernel_rfl) (fun _ _ _ h => h) (Or.inl ⟨by rfl, fun w9 hSw => ?_⟩) hHeld ?_
      · go_simp
      simp only [List.getElem_toArray, List.getElem_cons_succ, List.getElem_cons_zero, Act.put, List.setIfInBounds_toArray, List.set_cons_zero, List.set_cons_succ]
      refine wpAnyH_take (i := 11) (v := .pointer (some ⟨w.heap.size, j * 3, none⟩)) rfl (by kernel_rfl) (by kernel_rfl) (by kernel_rfl) (fun _ _ _ h => h) (Or.inl ⟨by rfl, fun w9 hSw => ?_⟩) hHeld ?_
      · go_simp
      simp only [List.getElem_toArray, List.getElem_cons_succ, List.getElem_cons_zero, Act.put, List.setIfInBounds_toArray, List.set_cons_zero, List.set_cons_succ]
      refine wpAnyH_ready (rs := [12]) (by kernel_rfl) (by simp) ?_
      refine AllReadyH.cons rfl (fun K hK => ?_) AllReadyH.nil
      go_simp
      have hs4 : (fun w' => w'.heap[bx]? = some (.cells #[.bool yl, .slice ab' yn cb', .slice ak' ym ck'] 154)) (((w3.setCell ⟨w.heap.size, j * 3, none⟩ (.bool yl)).setCell ⟨w.heap.size, j * 3 + 1, none⟩ (.slice a8 yn c8)).setCell ⟨w.heap.size, j * 3 + 2, none⟩ (.slice a9 yk c9)) := by
        have hne : bx ≠ w.heap.size := by have := H2.out.2.1; omega
        show (((w3.setCell ⟨w.heap.size, j * 3, none⟩ (.bool yl)).setCell ⟨w.heap.size, j * 3 + 1, none⟩ (.slice a8 yn c8)).setCell ⟨w.heap.size, j * 3 + 2, none⟩ (.slice a9 yk c9)).heap[bx]? = _
        rw [Below.heap_setCell _ _ _ _ hne, Below.heap_setCell _ _ _ _ hne, Below.heap_setCell _ _ _ _ hne]
        exact hHeld
      have H4 : Hid (CJ w (((w3.setCell ⟨w.heap.size, j * 3, none⟩ (.bool yl)).setCell ⟨w.heap.size, j * 3 + 1, none⟩ (.slice a8 yn c8)).setCell ⟨w.heap.size, j * 3 + 2, none⟩ (.slice a9 yk c9)) n (j + 1) xs (M.set j ⟨y, .slice a8 yn c8, .slice a9 yk c9⟩)) := by
        have := H3.out.1.put hjl ⟨y, .slice a8 yn c8, .slice a9 yk c9⟩ H3.out.2 HC.out
        rw [HY.out.1]
        exact this
      refine hK.out _ _ hs4 (fun hHeld => ?_)
      clear hK K
      try simp only [List.getElem_toArray, List.getElem_cons_succ, List.getElem_cons_zero, Act.put, List.setIfInBounds_toArray, List.set_cons_zero, List.set_cons_succ]
      refine wpAnyH_done (by kernel_rfl) ?_ _
      simp only [noP]
      go_wp2
      go_roundw
      case rel => exact ⟨j + 1, _, by omega, by go_num, H4.out⟩
      case measure => simp [intOf]; omega
    · obtain rfl : j = n := by omega
      have H9 : Hid _ := hJ
      clear hJ
      go_wp2
      go_ret
      have hn := HN.out
      have h9 := H9.out
      subst hn
      exact ⟨h9.bl, _, rfl, h9.done i3⟩
theorem copies_tr (x : Tr) : CopyC x.xs := by
  induction x using Tr.ind with
  | h l b xs ih => exact copies1 xs ih
theorem copies_any (xs : List Tr) : CopyC xs := copies1 xs fun x _ => copies_tr x
end Go.Proofs.YtboeokmaepchgaaGreatDoor
/- rlp: List; alive. -/
namespace Go.Proofs.YtboeokmaepchgaaGreatDoor
open Go.RowKit Go.Maps Go.Joins
set_option linter.unusedSimpArgs false
set_option linter.unusedVariables false
set_option maxRecDepth 100000 in
set_option maxHeartbeats 4000000 in
/-- rlp.List -/
theorem list_any {w : World} {v : Value} {xs : List Tr} {D : Nat → Prop} (h : ItsV w D v xs) (hD : ∀ b, D b → b < w.heap.size) :
    Calls Tryz.prog 173 #[v] w fun e w' => Below w.heap.size w w' ∧ ∃ si, e = .returned (.agg #[.bool true, .slice none 0 0, si]) ∧ ItV w' (fun b => w.heap.size ≤ b ∧ b < w'.heap.size) (.slice none 0 0) si (.mk true [] xs) := by
  have hb : Below w.heap.size w (w.alloc (.cells #[.bool false, .slice none 0 0, .slice none 0 0] 154)) := by go_grown
  have hsz : (w.alloc (.cells #[.bool false, .slice none 0 0, .slice none 0 0] 154)).heap.size = w.heap.size + 1 := by simp
  have HC : Hid _ := copies_any xs _ v D (h.mono (fun b hb' => hb.block b (hD b hb')) (fun _ h => h)) (fun b hb' => by have := hD b hb'; rw [hsz]; omega)
  have h0 : (w.alloc (.cells #[.bool false, .slice none 0 0, .slice none 0 0] 154)).heap[w.heap.size]? = some (.cells #[.bool false, .slice none 0 0, .slice none 0 0] 154) := heap_alloc_new _ _
  obtain ⟨a, c, rfl, -⟩ := h.form
  clear h hD
  go_enter Tryz.func173, Tryz.ntmps173
  go_wp2_with fail
  refine Calls.mono HC.out ?_
  rintro e w1 ⟨hb1, v', rfl, hi⟩
  obtain ⟨a', c', rfl, -⟩ := hi.form
  have k0 := (hb1.block w.heap.size (by rw [hsz]; omega)).trans h0
  have a0 : w1.cell? ⟨w.heap.size, 0, none⟩ = some (.bool false) := (cell_of_block k0 0).trans rfl
  have a1 : w1.cell? ⟨w.heap.size, 1, none⟩ = some (.slice none 0 0) := (cell_of_block k0 1).trans rfl
  have a2 : w1.cell? ⟨w.heap.size, 2, none⟩ = some (.slice none 0 0) := (cell_of_block k0 2).trans rfl
  have az := fun k => unfrozen_of_block k0 k
  have hf := fin31 (u := .bool true) (sb := .slice none 0 0) (si := .slice a' xs.length c') (x := .mk true [] xs) (hb.trans (hb1.mono hb.size)) ⟨⟨Or.inl ⟨rfl, rfl⟩, fun b hb' => (by have h9 := dBlock_own hb'; cases h9), by show (0 : Nat) ≤ _; omega⟩, hi.mono (fun _ _ => rfl) (fun b hb' => ⟨by rw [hsz] at hb'; exact hb'.1, hb'.2⟩)⟩
  have HF : Hid _ := hf
  have HK : Hid _ := k0
  clear hf k0 hi hb1 h0 hsz hb HC
  go_wp2
  exact ⟨rfl, _, res31 _ _ rfl HK.out rfl, HF.out.1, _, rfl, HF.out.2⟩
end Go.Proofs.YtboeokmaepchgaaGreatDoor
