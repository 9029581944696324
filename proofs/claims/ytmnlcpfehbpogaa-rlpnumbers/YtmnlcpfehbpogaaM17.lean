/- RT, RU, laid into one text. -/
import Derived.Test.YtmnlcpfehbpogaaRS
/- rlp: Decode. -/
namespace Go.Proofs.Ytmnlcpfehbpogaa
open Go.RowKit Go.Maps Go.Joins
set_option linter.unusedSimpArgs false
set_option linter.unusedVariables false
/-- What Decode tells. -/
def dcd (bs : List Int) : Except Int Tr :=
  match fst1 bs with
  | .error c => .error c
  | .ok (x, n) => if n < bs.length then .error 11 else .ok x
def DcR (w w' : World) (r : Except Int Tr) (e : Ending) : Prop :=
  match r with
  | .error c => e = .returned (.tuple #[.agg #[.bool false, .slice none 0 0, .slice none 0 0], .int .i64 c])
  | .ok x => ∃ sb si, e = .returned (.tuple #[.agg #[.bool x.l, sb, si], .int .i64 0]) ∧ ItV w' (fun b => w.heap.size ≤ b ∧ b < w'.heap.size) sb si x
theorem SrcA.below {w w' : World} {a : Option Addr} {cap : Nat} {bs : List Int} (h : SrcA w a cap bs) (hb : Below w.heap.size w w') : SrcA w' a cap bs := ⟨h.is.below hb, h.cp, h.mx, h.by'⟩
theorem szH_nz {s : List Int} {t : Nat} {c : Int} (he : szH s t = .error c) : c ≠ 0 := by
  unfold szH at he
  split at he
  · cases he
  · split at he
    · injection he with he; omega
    · split at he
      · injection he with he; omega
      · cases he
theorem sps_nz {s : List Int} {c : Int} (h : sps s = .error c) : c ≠ 0 := by
  cases s with
  | nil => simp [sps] at h; omega
  | cons x r =>
    simp only [sps] at h
    split at h
    · cases h
    · split at h
      · rename_i e he
        injection h with h
        subst h
        exact szH_nz he
      · split at h
        · injection h with h; omega
        · split at h
          · injection h with h; omega
          · cases h
theorem itF_nz {f : List Int → Except Int (Tr × Nat)} (hf : ∀ s c, f s = .error c → c ≠ 0) : ∀ (k left : Nat) (s : List Int) (c : Int), itF f k left s = .error c → c ≠ 0 := by
  intro k
  induction k with
  | zero =>
    intro left s c h
    simp only [itF] at h
    split at h
    · cases h
    · injection h with h; omega
  | succ k ih =>
    intro left s c h
    simp only [itF] at h
    split at h
    · cases h
    · split at h
      · rename_i e he
        injection h with h
        subst h
        exact hf _ _ he
      · split at h
        · injection h with h; omega
        · split at h
          · rename_i e he
            injection h with h
            subst h
            exact ih _ _ _ he
          · cases h
theorem fs_nz : ∀ (d : Nat) (bs : List Int) (c : Int), fs d bs = .error c → c ≠ 0 := by
  intro d
  induction d with
  | zero =>
    intro bs c h
    simp only [fs] at h
    split at h
    · rename_i e he
      injection h with h
      subst h
      exact sps_nz he
    · cases h
    · injection h with h; omega
  | succ d ih =>
    intro bs c h
    simp only [fs] at h
    split at h
    · rename_i e he
      injection h with h
      subst h
      exact sps_nz he
    · cases h
    · split at h
      · rename_i e he
        injection h with h
        subst h
        exact itF_nz ih _ _ _ _ he
      · cases h
set_option maxRecDepth 100000 in
set_option maxHeartbeats 8000000 in
theorem decode_any {w : World} {a : Option Addr} {cap : Nat} {bs : List Int} (h : SrcA w a cap bs) :
    Calls Try.prog 13 #[.slice a bs.length cap] w fun e w' => Below w.heap.size w w' ∧ DcR w w' (dcd bs) e := by
  have hb : Below w.heap.size w (w.alloc (.cells #[.bool false, .slice none 0 0, .slice none 0 0] 31)) := by go_grown
  have hC := first_any (h.below hb)
  have hk0 : (w.alloc (.cells #[.bool false, .slice none 0 0, .slice none 0 0] 31)).heap[w.heap.size]? = some (.cells #[.bool false, .slice none 0 0, .slice none 0 0] 31) := heap_alloc_new _ _
  have hsz : (w.alloc (.cells #[.bool false, .slice none 0 0, .slice none 0 0] 31)).heap.size = w.heap.size + 1 := by simp
  obtain ⟨N, hN⟩ : ∃ N, N = bs.length := ⟨_, rfl⟩
  rw [← hN] at hC ⊢
  have HN : Hid (N = bs.length) := hN
  have HB : Hid (Below w.heap.size w (w.alloc (.cells #[.bool false, .slice none 0 0, .slice none 0 0] 31)) ∧ (w.alloc (.cells #[.bool false, .slice none 0 0, .slice none 0 0] 31)).heap[w.heap.size]? = some (.cells #[.bool false, .slice none 0 0, .slice none 0 0] 31) ∧ (w.alloc (.cells #[.bool false, .slice none 0 0, .slice none 0 0] 31)).heap.size = w.heap.size + 1) := ⟨hb, hk0, hsz⟩
  have HC : Hid (Calls Try.prog 15 #[.slice a N cap] (w.alloc (.cells #[.bool false, .slice none 0 0, .slice none 0 0] 31)) fun e w' => Below (w.alloc (.cells #[.bool false, .slice none 0 0, .slice none 0 0] 31)).heap.size (w.alloc (.cells #[.bool false, .slice none 0 0, .slice none 0 0] 31)) w' ∧ FsR (w.alloc (.cells #[.bool false, .slice none 0 0, .slice none 0 0] 31)) w' (fst1 bs) e) := hC
  have HBy : Hid (Byt bs) := h.by'
  clear hC hb hk0 hsz hN h
  -- the result's block behind a store
  have hres : ∀ (w3 : World) (x y z x' y' z' c : Value) (o : Obj) (tmps : Array Value), w3.heap[w.heap.size]? = some (.cells #[x, y, z] 31) → tmps[2]? = some (.pointer (some ⟨w.heap.size, 0, none⟩)) → tmps[3]? = some c →
      (results Try.f13 tmps).run Try.prog ((((w3.setCell ⟨w.heap.size, 0, none⟩ x').setCell ⟨w.heap.size, 1, none⟩ y').setCell ⟨w.heap.size, 2, none⟩ z').alloc o) = .ok (.tuple #[.agg #[x', y', z'], c]) ((((w3.setCell ⟨w.heap.size, 0, none⟩ x').setCell ⟨w.heap.size, 1, none⟩ y').setCell ⟨w.heap.size, 2, none⟩ z').alloc o) := by
    intro w3 x y z x' y' z' c o tmps h0 h2 h3
    have hl := load31 ((heap_alloc_old _ o (by rw [set31_size]; exact heap_lt h0)).trans (set31 h0 (x' := x') (y' := y') (z' := z')))
    simp [results, Try.results13, asAddr, h2, h3, hl]
  have HRs : Hid _ := hres
  clear hres
  obtain ⟨r, hr⟩ : ∃ r, fst1 bs = r := ⟨_, rfl⟩
  rw [hr] at HC
  go_enter Try.func13, Try.ntmps13
  go_wp2_with fail
  refine Calls.mono HC.out ?_
  rintro e w1 ⟨hb1, hr1⟩
  have k1 := (hb1.block w.heap.size (by rw [HB.out.2.2]; omega)).trans HB.out.2.1
  have hbw := HB.out.1.trans (hb1.mono HB.out.1.size)
  have hw1 : w.heap.size < w1.heap.size := heap_lt k1
  cases r with
  | error c =>
    obtain rfl := hr1
    have hc0 : (c != 0) = true := by
      have h9 : c ≠ 0 := by
        unfold fst1 at hr
        split at hr
        · injection hr with hr; omega
        · exact fs_nz _ _ _ hr
      simp [h9]
    have HE : Hid (dcd bs = .error c) := by show _ = _; unfold dcd; rw [hr]
    have k2 := k1
    have a0 : w1.cell? ⟨w.heap.size, 0, none⟩ = some (.bool false) := (cell_of_block k2 0).trans rfl
    have a1 : w1.cell? ⟨w.heap.size, 1, none⟩ = some (.slice none 0 0) := (cell_of_block k2 1).trans rfl
    have a2 : w1.cell? ⟨w.heap.size, 2, none⟩ = some (.slice none 0 0) := (cell_of_block k2 2).trans rfl
    have az := fun k => unfrozen_of_block k2 k
    have K2 : Hid _ := k2
    have HW : Hid (Below w.heap.size w w1) := hbw
    clear hr hb1 k1 k2 hbw
    go_wp2
    refine ⟨rfl, _, HRs.out _ _ _ _ _ _ _ _ _ _ K2.out rfl rfl, (set31_below HW.out (Nat.le_refl _) _ _ _).alloc (by rw [set31_size]; exact HW.out.size) _, ?_⟩
    rw [HE.out]
    rfl
  | ok q =>
    obtain ⟨x, n⟩ := q
    obtain ⟨sb, si, rfl, hit⟩ := hr1
    obtain ⟨ab, cb, rfl⟩ := hit.b.is.form
    obtain ⟨ai, ci, rfl, -⟩ := hit.xs.form
    obtain ⟨xl, hxl⟩ : ∃ xl, xl = x.l := ⟨_, rfl⟩
    obtain ⟨mb, hmb⟩ : ∃ mb, mb = x.b.length := ⟨_, rfl⟩
    obtain ⟨mi, hmi⟩ : ∃ mi, mi = x.xs.length := ⟨_, rfl⟩
    have hit2 : ItV w1 (fun b => w.heap.size + 1 ≤ b ∧ b < w1.heap.size) (.slice ab mb cb) (.slice ai mi ci) x := by rw [hmb, hmi]; exact hit.mono (fun _ _ => rfl) (fun b hb => ⟨by have := hb.1; rw [HB.out.2.2] at this; exact this, hb.2⟩)
    rw [← hxl, ← hmb, ← hmi]
    have k2 := k1
    have a0 : w1.cell? ⟨w.heap.size, 0, none⟩ = some (.bool false) := (cell_of_block k2 0).trans rfl
    have a1 : w1.cell? ⟨w.heap.size, 1, none⟩ = some (.slice none 0 0) := (cell_of_block k2 1).trans rfl
    have a2 : w1.cell? ⟨w.heap.size, 2, none⟩ = some (.slice none 0 0) := (cell_of_block k2 2).trans rfl
    have az := fun k => unfrozen_of_block k2 k
    have K2 : Hid (w1.heap[w.heap.size]? = some (.cells #[.bool false, .slice none 0 0, .slice none 0 0] 31) ∧ Below w.heap.size w w1 ∧ ItV w1 (fun b => w.heap.size + 1 ≤ b ∧ b < w1.heap.size) (.slice ab mb cb) (.slice ai mi ci) x ∧ xl = x.l) := ⟨k2, hbw, hit2, hxl⟩
    by_cases hlt : n < N
    · have hlt' : (n : Int) < N := by omega
      have HE : Hid (dcd bs = .error 11) := by show _ = _; unfold dcd; rw [hr]; simp only; rw [if_pos (by rw [← HN.out]; exact hlt)]
      clear hr hb1 k1 k2 hbw hit hit2 hxl hmb hmi
      go_wp2
      refine ⟨rfl, _, HRs.out _ _ _ _ _ _ _ _ _ _ K2.out.1 rfl rfl, (set31_below K2.out.2.1 (Nat.le_refl _) _ _ _).alloc (by rw [set31_size]; exact K2.out.2.1.size) _, ?_⟩
      rw [HE.out]
      rfl
    · have hlt' : ¬ (n : Int) < N := by omega
      have HE : Hid (dcd bs = .ok x) := by show _ = _; unfold dcd; rw [hr]; simp only; rw [if_neg (by rw [← HN.out]; exact hlt)]
      clear hr hb1 k1 k2 hbw hit hit2 hxl hmb hmi
      go_wp2
      refine ⟨rfl, _, HRs.out _ _ _ _ _ _ _ _ _ _ K2.out.1 rfl rfl, (set31_below K2.out.2.1 (Nat.le_refl _) _ _ _).alloc (by rw [set31_size]; exact K2.out.2.1.size) _, ?_⟩
      rw [HE.out]
      refine ⟨.slice ab mb cb, .slice ai mi ci, by rw [K2.out.2.2.2]; rfl, K2.out.2.2.1.mono (fun b hb => ?_) (fun b hb => ⟨by have := hb.1; omega, by simp; have := hb.2; omega⟩)⟩
      rw [heap_alloc_old _ _ (by rw [set31_size]; exact hb.2)]
      exact set31_other _ _ _ _ _ _ (by have := hb.1; omega)
end Go.Proofs.Ytmnlcpfehbpogaa
/- rlp: Own (the law's), memory. -/
namespace Go.Proofs.Ytmnlcpfehbpogaa
open Go.RowKit Go.Maps Go.Joins
set_option linter.unusedSimpArgs false
set_option linter.unusedVariables false
/-- Within the rounds of Own. -/
structure OJ (w W : World) (D : Nat → Prop) (l : Bool) (sb si : Value) (A : List IC) (v : Value) (t : TypeId) : Prop where
  b0 : W.heap[w.heap.size]? = some (.cells #[.bool l, sb, si] t)
  b1 : W.heap[w.heap.size + 1]? = some (.cells #[.bool false, .slice none 0 0, .slice none 0 0] 31)
  b2 : W.heap[w.heap.size + 1 + 1]? = some (.cells #[.bool l, sb, v] 31)
  row : W.ownsRow (w.heap.size + 3) 31 3 v A.length (icL A)
  it : ∀ f ∈ A, ItV W (fun b => (D b ∨ w.heap.size + 3 ≤ b) ∧ b < W.heap.size ∧ v.ownBlock ≠ some b) f.sb f.si f.x
  bl : Below w.heap.size w W
  dl : ∀ b, D b → b < w.heap.size
theorem OJ.size {w W : World} {D : Nat → Prop} {l : Bool} {sb si v : Value} {A : List IC} {t : TypeId} (h : OJ w W D l sb si A v t) : w.heap.size + 3 ≤ W.heap.size := by
  have := heap_lt h.b2
  omega
theorem OJ.below {w W W2 : World} {D : Nat → Prop} {l : Bool} {sb si v : Value} {A : List IC} {t : TypeId} (h : OJ w W D l sb si A v t) (hb : Below W.heap.size W W2) : OJ w W2 D l sb si A v t := by
  have hs := h.size
  exact ⟨(hb.block _ (by omega)).trans h.b0, (hb.block _ (by omega)).trans h.b1, (hb.block _ (by omega)).trans h.b2, ownsRow_heap h.row (fun b hb' => hb.block b (h.row.lt b hb').2), fun f hf => (h.it f hf).mono (fun b hb' => hb.block b hb'.2.1) (fun b hb' => ⟨hb'.1, Nat.lt_of_lt_of_le hb'.2.1 hb.size, hb'.2.2⟩), h.bl.trans (hb.mono h.bl.size), h.dl⟩
/-- One item more: it was appended, then the variable is stored. -/
theorem OJ.step {w V V2 : World} {D : Nat → Prop} {l : Bool} {sb si v v' : Value} {A : List IC} {f : IC} {t : TypeId} (h : OJ w V D l sb si A v t) (hg : V.grownBy V2 v.ownBlock) (hrow : V2.ownsRow (w.heap.size + 3) 31 3 v' (A.length + 1) (icL (A ++ [f]))) (hv : v'.ownBlock = v.ownBlock ∨ v'.ownBlock = some V.heap.size)
    (hf : ItV V (fun b => (D b ∨ w.heap.size + 3 ≤ b) ∧ b < V.heap.size ∧ v.ownBlock ≠ some b) f.sb f.si f.x) : OJ w (V2.setCell ⟨w.heap.size + 1 + 1, 2, none⟩ v') D l sb si (A ++ [f]) v' t := by
  have hs := h.size
  have hvl : ∀ b, v.ownBlock = some b → w.heap.size + 3 ≤ b := fun b hb' => (h.row.lt b hb').1
  have k2 : ∀ b, b < V.heap.size → v.ownBlock ≠ some b → V2.heap[b]? = V.heap[b]? := fun b h1 h2 => hg.block b h1 (fun e => h2 e.symm)
  have hlow : ∀ b, b < w.heap.size + 3 → V2.heap[b]? = V.heap[b]? := fun b hb' => k2 b (by omega) (fun e => by have := hvl b e; omega)
  have k4 : ∀ b, b ≠ w.heap.size + 1 + 1 → (V2.setCell ⟨w.heap.size + 1 + 1, 2, none⟩ v').heap[b]? = V2.heap[b]? := fun b hb' => Below.heap_setCell _ _ _ _ hb'
  have hsz : (V2.setCell ⟨w.heap.size + 1 + 1, 2, none⟩ v').heap.size = V2.heap.size := by simp
  have hsv : V.heap.size ≤ V2.heap.size := hg.size
  have hit : ∀ f' : IC, ItV V (fun b => (D b ∨ w.heap.size + 3 ≤ b) ∧ b < V.heap.size ∧ v.ownBlock ≠ some b) f'.sb f'.si f'.x → ItV (V2.setCell ⟨w.heap.size + 1 + 1, 2, none⟩ v') (fun b => (D b ∨ w.heap.size + 3 ≤ b) ∧ b < (V2.setCell ⟨w.heap.size + 1 + 1, 2, none⟩ v').heap.size ∧ v'.ownBlock ≠ some b) f'.sb f'.si f'.x := fun f' hf' => by
    refine hf'.mono (fun b hb' => ?_) (fun b hb' => ⟨hb'.1, by rw [hsz]; omega, fun e => ?_⟩)
    · rw [k4 b (by rcases hb'.1 with h9 | h9; (have := h.dl b h9; omega); omega), k2 b hb'.2.1 hb'.2.2]
    · rcases hv with hv | hv
      · rw [hv] at e; exact hb'.2.2 e
      · rw [hv] at e; injection e with e; omega
  refine ⟨(k4 _ (by omega)).trans ((hlow _ (by omega)).trans h.b0), (k4 _ (by omega)).trans ((hlow _ (by omega)).trans h.b1), setCell_b1 ((hlow _ (by omega)).trans h.b2), ?_, ?_, ?_, h.dl⟩
  · rw [List.length_append]
    exact ownsRow_heap hrow (fun b hb' => k4 b (by have := (hrow.lt b hb').1; omega))
  · intro f' hf'
    rcases List.mem_append.1 hf' with h9 | h9
    · exact hit f' (h.it f' h9)
    · obtain rfl := List.mem_singleton.1 h9
      exact hit f' hf
  · exact (h.bl.grown hg (by omega) (fun b hb' => by have := hvl b hb'; omega)).setCell (p := ⟨w.heap.size + 1 + 1, 2, none⟩) (by show w.heap.size ≤ w.heap.size + 1 + 1; omega) _
end Go.Proofs.Ytmnlcpfehbpogaa
