/- rlp: read. -/
import Derived.Test.YtmnlcpfehbpogaaRQ
namespace Go.Proofs.Ytmnlcpfehbpogaa
open Go.RowKit Go.Maps Go.Joins Go.Shelf
set_option linter.unusedSimpArgs false
set_option linter.unusedVariables false
attribute [local go_sem] Oper.semAt_some
theorem items_any {w : World} (a : Option Addr) (n c : Nat) (f t k : Int) :
    Calls Try.prog 55 #[.slice a n c, .int .i64 f, .int .i64 t, .int .i64 k] w fun e w' => e = .returned (.func (.func 68) #[] #[.pointer (some ⟨w.heap.size + 1, 0, none⟩), .pointer (some ⟨w.heap.size + 1 + 1, 0, none⟩), .pointer (some ⟨w.heap.size, 0, none⟩), .pointer (some ⟨w.heap.size + 1 + 1 + 1, 0, none⟩)]) ∧ w' = (((w.alloc (.cells #[.slice a n c] 22)).alloc (.cells #[.int .i64 f] 3)).alloc (.cells #[.int .i64 t] 3)).alloc (.cells #[.int .i64 k] 3) := by
  have hmf : ∀ (fn : Fn) (first cap : Array Value) (w : World), (Instr.makeFunc fn first cap).run Try.prog w = .ok (.func fn first cap) w := fun _ _ _ _ => rfl
  go_enter Try.func55, Try.ntmps55
  go_wp2
  go_ret
  exact ⟨rfl, rfl⟩
theorem allocs_old : ∀ (objs : List Obj) (w : World) (i : Nat), i < w.heap.size → (objs.foldl World.alloc w).heap[i]? = w.heap[i]?
  | [], w, i, h => rfl
  | A :: r, w, i, h => (allocs_old r (w.alloc A) i (by simp; omega)).trans (heap_alloc_old w A h)
theorem allocs_heap : ∀ (objs : List Obj) (w : World) (k : Nat) (o : Obj), objs[k]? = some o → (objs.foldl World.alloc w).heap[w.heap.size + k]? = some o
  | [], w, k, o, h => by simp at h
  | A :: r, w, 0, o, h => by
    simp at h
    subst h
    exact (allocs_old r (w.alloc A) w.heap.size (by simp)).trans (heap_alloc_new w A)
  | A :: r, w, k + 1, o, h => by
    have := allocs_heap r (w.alloc A) k o (by simpa using h)
    have e : (w.alloc A).heap.size + k = w.heap.size + (k + 1) := by simp; omega
    rw [e] at this
    exact this
theorem allocs_size : ∀ (objs : List Obj) (w : World), (objs.foldl World.alloc w).heap.size = w.heap.size + objs.length
  | [], w => rfl
  | A :: r, w => by show (r.foldl World.alloc (w.alloc A)).heap.size = _; rw [allocs_size r]; simp; omega
theorem allocs_below : ∀ (objs : List Obj) (w : World), Below w.heap.size w (objs.foldl World.alloc w)
  | [], w => Below.refl _ _
  | A :: r, w => ((Below.refl _ w).alloc (Nat.le_refl _) A).trans ((allocs_below r (w.alloc A)).mono (by simp))
def listR (r : Except Int (List Tr)) (m : Nat) : Except Int (Tr × Nat) :=
  match r with
  | .error c => .error c
  | .ok xs => .ok (.mk true [] xs, m)
set_option maxRecDepth 100000 in
set_option maxHeartbeats 8000000 in
theorem read_list {d : Nat} (hd : d + 1 ≤ 16) (hR : RdC d) {w : World} {a : Option Addr} {cap : Nat} {bs : List Int} (h : Src w a cap bs) (i : Nat) (hi : i ≤ bs.length) (hh n : Nat) (he : sps (bs.drop i) = .ok (true, hh, n)) :
    Calls Try.prog 38 #[.slice a bs.length cap, .int .i64 i, .int .i64 ((16 - (d + 1) : Nat) : Int)] w fun e w' => Below w.heap.size w w' ∧ RdR w w' (listR (itF (fs d) n n ((bs.drop i).drop hh)) (hh + n)) i e := by
  have hb : Below w.heap.size w (w.alloc (.cells #[.bool false, .slice none 0 0, .slice none 0 0] 31)) := by go_grown
  have hC := span_any (h.below hb) i hi
  rw [he] at hC
  have hsp := sps_ok (h.by'.drop i) he
  rw [List.length_drop] at hsp
  have hl6 := h.len
  obtain ⟨F, hF⟩ : ∃ F, F = i + hh := ⟨_, rfl⟩
  obtain ⟨T, hT⟩ : ∃ T, T = i + hh + n := ⟨_, rfl⟩
  have hTN : T ≤ bs.length := by omega
  rw [List.drop_drop, ← hF]
  obtain ⟨N, hN⟩ : ∃ N, N = bs.length := ⟨_, rfl⟩
  have HS : Hid (Src w a cap bs ∧ N = bs.length ∧ F ≤ T ∧ T ≤ bs.length ∧ n = T - F ∧ i + (hh + n) = T) := ⟨h, hN, by omega, hTN, by omega, by omega⟩
  rw [← hN] at hC ⊢
  obtain ⟨k, hk⟩ : ∃ k : Nat, k = 16 - (d + 1) := ⟨_, rfl⟩
  rw [← hk]
  have hk16 : ¬ (16 : Int) ≤ k := by omega
  have hk1 : (k : Int) + 1 = ((16 - d : Nat) : Int) := by omega
  obtain ⟨k2, hk2⟩ : ∃ k2 : Nat, k2 = 16 - d := ⟨_, rfl⟩
  rw [← hk2] at hk1
  have HK : Hid (k2 = 16 - d ∧ d ≤ 16) := ⟨hk2, by omega⟩
  have HC : Hid (Calls Try.prog 54 #[.slice a N cap, .int .i64 i] (w.alloc (.cells #[.bool false, .slice none 0 0, .slice none 0 0] 31)) fun e w' => w' = (w.alloc (.cells #[.bool false, .slice none 0 0, .slice none 0 0] 31)) ∧ e = .returned (.tuple #[.bool true, .int .i64 F, .int .i64 T])) := by rw [hF, hT]; exact hC
  have HR : Hid (RdC d) := hR
  clear hC hb hN h he hi hsp hF hT hl6 hTN hk hk2 hR hd
  have hko : k ≤ 16 := by omega
  have T1 : Hid True := trivial
  refine (callsIn_wide (n := 4)).1 ?_
  refine callsIn_of_wp_marks Try.func38 rfl trivial ?_ rfl
  simp only [Try.ntmps38, List.size_toArray, List.length_cons, List.length_nil, Nat.reduceAdd, Nat.reduceSub, Array.replicate_succ, Array.replicate_zero, List.push_toArray, List.append_toArray, List.nil_append, List.cons_append]
  refine wpIn_wide.2 ?_
  go_wp2_with (first
    | (have _ := T1
       go_at_call 54
       clear T1
       refine Calls.mono HC.out ?_
       rintro e w1 ⟨rfl, rfl⟩
       clear HC
       have T2 : Hid True := trivial)
    | (have _ := T2
       go_at_call 55
       clear T2
       refine Calls.mono (items_any a N cap F T k2) ?_
       rintro e w2 ⟨rfl, hw2⟩
       have HW : Hid _ := hw2
       clear hw2))
  refine (wpIn_wide (n := 4)).1 ?_
  refine range_pan (gf := 68) (lb := #[.pointer (some ⟨w.heap.size + 3, 0, none⟩), .pointer (some ⟨w.heap.size + 4, 0, none⟩), .pointer (some ⟨w.heap.size + 2, 0, none⟩), .pointer (some ⟨w.heap.size + 5, 0, none⟩)]) rfl (enters_of Try.func68 (by kernel_rfl) rfl) ?_
  intro r W1 hst hpe htm hpar has' hbod hW1
  have hW : W1 = [Obj.cells #[.bool false, .slice none 0 0, .slice none 0 0] 31, .cells #[.bool true, .slice none 0 0, .slice none 0 0] 31, .cells #[.slice a N cap] 22, .cells #[.int .i64 F] 3, .cells #[.int .i64 T] 3, .cells #[.int .i64 k2] 3, .deferred (some []), .loop r].foldl World.alloc w := by rw [hW1, HW.out]; rfl
  have hD : w2.heap.size = w.heap.size + 6 := by rw [HW.out]; simp
  rw [hD]
  have h0 : RJ w W1 a cap bs d F T n r F [] (.slice none 0 0) := by
    have hh := fun k o hk => allocs_heap [Obj.cells #[.bool false, .slice none 0 0, .slice none 0 0] 31, .cells #[.bool true, .slice none 0 0, .slice none 0 0] 31, .cells #[.slice a N cap] 22, .cells #[.int .i64 F] 3, .cells #[.int .i64 T] 3, .cells #[.int .i64 k2] 3, .deferred (some []), .loop r] w k o hk
    rw [← hW] at hh
    refine ⟨hh 0 _ rfl, hh 1 _ rfl, by rw [← HS.out.2.1]; exact hh 2 _ rfl, hh 3 _ rfl, hh 4 _ rfl, by rw [← HK.out.1]; exact hh 5 _ rfl, hh 6 _ rfl, hh 7 _ rfl, World.ownsRow_nil _ _ _ _, fun f hf => (by cases hf), (by rw [hW]; exact allocs_below _ _), ⟨n, by have := HS.out; omega, ?_⟩, HS.out.2.2.1, Nat.zero_le _⟩
    rw [HS.out.2.2.2.2.1]
    cases itF (fs d) (T - F) (T - F) (List.drop F bs) <;> rfl
  clear hW hW1 hD
  have hsrcJ : ∀ p W, (∃ A v, RJ w W a cap bs d F T n r p A v) → W.cell? ⟨w.heap.size + 4, 0, none⟩ = some (.int .i64 T) ∧ W.cell? ⟨w.heap.size + 2, 0, none⟩ = some (.slice a bs.length cap) ∧ W.cell? ⟨w.heap.size + 5, 0, none⟩ = some (.int .i64 ((16 - d : Nat) : Int)) ∧ Src W a cap bs := by
    rintro p W ⟨A, v, hj⟩
    exact ⟨(cell_of_block hj.b4 0).trans rfl, (cell_of_block hj.b2 0).trans rfl, (cell_of_block hj.b5 0).trans rfl, HS.out.1.below hj.bl⟩
  have hX1 : W1.cell? ⟨w.heap.size + 3, 0, none⟩ = some (.int .i64 F) := (cell_of_block h0.b3 0).trans rfl
  refine CallsIn.mono (items1_in 2 (w.heap.size + 7) d (w.heap.size + 3) (w.heap.size + 4) (w.heap.size + 2) (w.heap.size + 5) F T cap a bs W1 (fun p W => ∃ A v, RJ w W a cap bs d F T n r p A v) HK.out.2 HR.out HS.out.2.2.2.1 HS.out.2.2.1 ⟨_, _, h0⟩ hX1 hsrcJ ?hY) ?hE
  case hY =>
    rintro p W W2 x m sb si hp ⟨A, v, hj⟩ hfs hpm hb2 hit
    have hj2 := hj.below hb2
    obtain ⟨ab, cb, rfl⟩ := hit.b.is.form
    obtain ⟨ai, ci, rfl, -⟩ := hit.xs.form
    obtain ⟨av, cv, hv⟩ := row_form hj.row
    subst hv
    refine YieldAt.mono (round_with (R := fun W' => ∃ A v, RJ w W' a cap bs d F T n r (p + m) A v) hj2.b7 hst hpe (by rw [hpar]; rfl) ?_) (fun e W' h => h)
    intro rb hrb
    rw [hpar, has', hbod, htm]
    clear hpar has' hbod htm hst hpe hrb
    simp only [List.zip_toArray, List.zip_cons_cons, List.zip_nil_right, List.foldl_toArray, List.foldl_cons, List.foldl_nil, List.setIfInBounds_toArray, List.set_cons_zero, List.set_cons_succ]
    have hm1 := (fs_ok d _ x m (HS.out.1.by'.drop p) hfs).2.1
    obtain ⟨xl, hxl⟩ : ∃ xl, xl = x.l := ⟨_, rfl⟩
    obtain ⟨xn, hxn⟩ : ∃ xn, xn = x.b.length := ⟨_, rfl⟩
    obtain ⟨xm, hxm⟩ : ∃ xm, xm = x.xs.length := ⟨_, rfl⟩
    obtain ⟨q, hq⟩ : ∃ q, q = A.length := ⟨_, rfl⟩
    rw [← hxl, ← hxn, ← hxm]
    have hj3 := hj2.below (W2 := W2.alloc (.cells #[.bool xl, .slice ab xn cb, .slice ai xm ci] 31)) (by go_grown)
    have hy3 : (W2.alloc (.cells #[.bool xl, .slice ab xn cb, .slice ai xm ci] 31)).heap[W2.heap.size]? = some (.cells #[.bool xl, .slice ab xn cb, .slice ai xm ci] 31) := heap_alloc_new _ _
    have hit3 : ItV (W2.alloc (.cells #[.bool xl, .slice ab xn cb, .slice ai xm ci] 31)) (fun b => w.heap.size + 8 ≤ b ∧ b < W2.heap.size ∧ (Value.slice av A.length cv).ownBlock ≠ some b) (.slice ab xn cb) (.slice ai xm ci) x := by
      rw [hxn, hxm]
      exact hit.mono (fun b hb => heap_alloc_old W2 _ hb.2) (fun b hb => ⟨by have := hj.size; omega, hb.2, fun e => by have := (hj.row.lt b e).2; omega⟩)
    have HJ : Hid (RJ w (W2.alloc (.cells #[.bool xl, .slice ab xn cb, .slice ai xm ci] 31)) a cap bs d F T n r p A (.slice av A.length cv) ∧ (W2.alloc (.cells #[.bool xl, .slice ab xn cb, .slice ai xm ci] 31)).heap[W2.heap.size]? = some (.cells #[.bool xl, .slice ab xn cb, .slice ai xm ci] 31) ∧ ItV (W2.alloc (.cells #[.bool xl, .slice ab xn cb, .slice ai xm ci] 31)) (fun b => w.heap.size + 8 ≤ b ∧ b < W2.heap.size ∧ (Value.slice av A.length cv).ownBlock ≠ some b) (.slice ab xn cb) (.slice ai xm ci) x ∧ w.heap.size + 8 ≤ W2.heap.size ∧ (Value.slice av A.length cv).ownBlock ≠ some W2.heap.size) := ⟨hj3, hy3, hit3, hj2.size, fun e => by have := (hj2.row.lt _ e).2; omega⟩
    have HF : Hid (fs d (bs.drop p) = .ok (x, m) ∧ 1 ≤ m ∧ p + m ≤ T ∧ xl = x.l ∧ q = A.length) := ⟨hfs, hm1, hpm, hxl, hq⟩
    clear hj hj2 hj3 hb2 hit hit3 hy3 hm1 hfs hxl hxn hxm hq h0 hsrcJ hX1
    gi_wp2
    refine ⟨HJ.out.1.b7, ?_⟩
    have J1 := HJ.out.1.put rb
    have hVo : ∀ b, b ≠ w.heap.size + 7 → ((W2.alloc (.cells #[.bool xl, .slice ab xn cb, .slice ai xm ci] 31)).putObj (w.heap.size + 7) (.loop rb)).heap[b]? = (W2.alloc (.cells #[.bool xl, .slice ab xn cb, .slice ai xm ci] 31)).heap[b]? := fun b hb => World.putObj_heap_other hb
    have hVs : ((W2.alloc (.cells #[.bool xl, .slice ab xn cb, .slice ai xm ci] 31)).putObj (w.heap.size + 7) (.loop rb)).heap.size = W2.heap.size + 1 := by simp [World.putObj]
    have y1 : ((W2.alloc (.cells #[.bool xl, .slice ab xn cb, .slice ai xm ci] 31)).putObj (w.heap.size + 7) (.loop rb)).heap[W2.heap.size]? = some (.cells #[.bool xl, .slice ab xn cb, .slice ai xm ci] 31) := (hVo _ (by have := HJ.out.2.2.2.1; omega)).trans HJ.out.2.1
    have i1 : ItV ((W2.alloc (.cells #[.bool xl, .slice ab xn cb, .slice ai xm ci] 31)).putObj (w.heap.size + 7) (.loop rb)) (fun b => w.heap.size + 8 ≤ b ∧ b < W2.heap.size ∧ (Value.slice av A.length cv).ownBlock ≠ some b) (.slice ab xn cb) (.slice ai xm ci) x := HJ.out.2.2.1.mono (fun b hb => hVo b (by have := hb.1; omega)) (fun _ h => h)
    generalize (W2.alloc (.cells #[.bool xl, .slice ab xn cb, .slice ai xm ci] 31)).putObj (w.heap.size + 7) (.loop rb) = V at J1 y1 i1 hVs ⊢
    have K1 : Hid (RJ w V a cap bs d F T n rb p A (.slice av q cv) ∧ V.heap[W2.heap.size]? = some (.cells #[.bool xl, .slice ab xn cb, .slice ai xm ci] 31) ∧ ItV V (fun b => w.heap.size + 8 ≤ b ∧ b < V.heap.size ∧ (Value.slice av q cv).ownBlock ≠ some b) (.slice ab xn cb) (.slice ai xm ci) x ∧ w.heap.size + 8 ≤ W2.heap.size ∧ (Value.slice av q cv).ownBlock ≠ some W2.heap.size) := ⟨by rw [HF.out.2.2.2.2]; exact J1, y1, by rw [HF.out.2.2.2.2]; exact i1.mono (fun _ _ => rfl) (fun b hb => ⟨hb.1, by omega, hb.2.2⟩), HJ.out.2.2.2.1, by rw [HF.out.2.2.2.2]; exact HJ.out.2.2.2.2⟩
    clear hVo J1 y1 i1 HJ hVs
    gi_wp2
    have hS0 : V.drew.heap[W2.heap.size]? = some (.cells #[.bool xl, .slice ab xn cb, .slice ai xm ci] 31) := K1.out.2.1
    have e1 : V.drew.cell? ⟨w.heap.size + 1, 2, none⟩ = some (.slice av q cv) := (cell_of_block (w := V.drew) K1.out.1.b1 2).trans rfl
    refine region_round (S := fun w' => w'.heap[W2.heap.size]? = some (.cells #[.bool xl, .slice ab xn cb, .slice ai xm ci] 31)) (by kernel_rfl) (noDefer_spec (by kernel_rfl)) (fun ⟨_, _, h⟩ => h) hS0 (fun hHeld => ?_)
    refine wpAnyH_take (i := 0) (v := .pointer (some ⟨w.heap.size + 1, 2, none⟩)) rfl (by kernel_rfl) (by kernel_rfl) (by kernel_rfl) (fun _ _ _ h => h) (Or.inl ⟨by rfl, fun w9 hSw => ?_⟩) hHeld ?_
    · go_simp
    simp only [List.getElem_toArray, List.getElem_cons_succ, List.getElem_cons_zero, Act.put, List.setIfInBounds_toArray, List.set_cons_zero, List.set_cons_succ]
    refine wpAnyH_take (i := 2) (v := .agg #[.bool xl, .slice ab xn cb, .slice ai xm ci]) rfl (by kernel_rfl) (by kernel_rfl) (by kernel_rfl) (fun _ _ _ h => h) (Or.inl ⟨by rfl, fun w9 hSw => ?_⟩) hHeld ?_
    · have h0 : w9.cell? ⟨W2.heap.size, 0, none⟩ = some (.bool xl) := (cell_of_block hSw 0).trans rfl
      have h1 : w9.cell? ⟨W2.heap.size, 1, none⟩ = some (.slice ab xn cb) := (cell_of_block hSw 1).trans rfl
      have h2 : w9.cell? ⟨W2.heap.size, 2, none⟩ = some (.slice ai xm ci) := (cell_of_block hSw 2).trans rfl
      go_simp
    simp only [List.getElem_toArray, List.getElem_cons_succ, List.getElem_cons_zero, Act.put, List.setIfInBounds_toArray, List.set_cons_zero, List.set_cons_succ]
    refine wpAnyH_ready (rs := [1, 4]) (by kernel_rfl) (by simp) ?_
    refine AllReadyH.cons rfl (fun K hK => ?_) (AllReadyH.cons rfl (fun K hK => ?_) AllReadyH.nil)
    · go_simp
      refine hK.out _ _ hHeld (fun hHeld => ?_)
      clear hK K
      try simp only [List.getElem_toArray, List.getElem_cons_succ, List.getElem_cons_zero, Act.put, List.setIfInBounds_toArray, List.set_cons_zero, List.set_cons_succ]
      refine wpAnyH_take (i := 3) (v := .int .i64 q) rfl (by kernel_rfl) (by kernel_rfl) (by kernel_rfl) (fun _ _ _ h => h) (Or.inl ⟨by rfl, fun w9 hSw => ?_⟩) hHeld ?_
      · go_simp
      simp only [List.getElem_toArray, List.getElem_cons_succ, List.getElem_cons_zero, Act.put, List.setIfInBounds_toArray, List.set_cons_zero, List.set_cons_succ]
      refine wpAnyH_ready (rs := [4]) (by kernel_rfl) (by simp) ?_
      refine AllReadyH.cons rfl (fun K hK => ?_) AllReadyH.nil
      go_simp
      have hB1 : (V.alloc (.cells #[.bool false, .slice none 0 0, .slice none 0 0] 31)).drew.heap[W2.heap.size]? = some (.cells #[.bool xl, .slice ab xn cb, .slice ai xm ci] 31) := (heap_alloc_old V _ (by have := heap_lt K1.out.2.1; omega)).trans K1.out.2.1
      refine hK.out _ _ hB1 (fun hHeld => ?_)
      clear hK K
      try simp only [List.getElem_toArray, List.getElem_cons_succ, List.getElem_cons_zero, Act.put, List.setIfInBounds_toArray, List.set_cons_zero, List.set_cons_succ]
      have HV1 : Hid (Below V.heap.size V (V.alloc (.cells #[.bool false, .slice none 0 0, .slice none 0 0] 31)).drew ∧ (V.alloc (.cells #[.bool false, .slice none 0 0, .slice none 0 0] 31)).drew.heap[V.heap.size]? = some (.cells #[.bool false, .slice none 0 0, .slice none 0 0] 31) ∧ (V.alloc (.cells #[.bool false, .slice none 0 0, .slice none 0 0] 31)).drew.heap.size = V.heap.size + 1) := ⟨(by have hb := (Below.refl V.heap.size V).alloc (Nat.le_refl _) (.cells #[.bool false, .slice none 0 0, .slice none 0 0] 31); exact ⟨hb.os, hb.tape, hb.output, hb.size, hb.block⟩), heap_alloc_new V _, by simp⟩
      generalize (V.alloc (.cells #[.bool false, .slice none 0 0, .slice none 0 0] 31)).drew = V1 at HV1 hHeld ⊢
      refine wpAnyH_ready (rs := [5]) (by kernel_rfl) (by simp) ?_
      refine AllReadyH.cons rfl (fun K hK => ?_) AllReadyH.nil
      have JB := K1.out.1.below HV1.out.1
      refine step_append_it (by rfl) _ _ (by rfl) (base := w.heap.size + 8) (v := .slice av q cv) (A := A) ⟨.mk false [] [], .slice none 0 0, .slice none 0 0⟩ ⟨_, _, _, rfl⟩ ⟨_, _, _, rfl⟩ (by rfl) JB.row V.heap.size (by rfl) HV1.out.2.1 (by have a1 := K1.out.1.len; have a2 := K1.out.1.pl; have a3 := HS.out.2.2.2.1; have a4 := HS.out.1.len; omega) (by have := JB.size; omega) ?_
      intro v' V2 ho hg ha
      obtain ⟨g, c, rfl⟩ : ∃ g c, v' = .slice (some ⟨g, 0, none⟩) (A.length + 1) c := by
        rcases ho.2 with ⟨_, h⟩ | ⟨g, c, _, e, _⟩
        · omega
        · exact ⟨g, c, e⟩
      have hgl := ho.lt g rfl
      have hvg : (Value.slice av q cv).ownBlock = some g ∨ g = V1.heap.size := by
        rcases ha with h | h
        · exact Or.inl h.symm
        · exact Or.inr (by simpa [Value.ownBlock] using h)
      have hlowv : ∀ b, (Value.slice av q cv).ownBlock = some b → w.heap.size + 8 ≤ b := fun b hb => (JB.row.lt b hb).1
      have hx2 : V2.heap[w.heap.size + 1]? = some (.cells #[.bool true, .slice none 0 0, .slice av q cv] 31) := (hg.block _ (by have := JB.size; omega) (fun e => by have := hlowv _ e.symm; omega)).trans JB.b1
      have hyy : V2.heap[W2.heap.size]? = some (.cells #[.bool xl, .slice ab xn cb, .slice ai xm ci] 31) := by
        refine (hg.block _ (by have := heap_lt K1.out.2.1; have := HV1.out.2.2; omega) (fun e => ?_)).trans ((HV1.out.1.block _ (heap_lt K1.out.2.1)).trans K1.out.2.1)
        have := K1.out.1.row.lt _ e.symm
        have h7 := (K1.out.1.row.2.resolve_left (fun h => by have := h.1; rw [this] at e; cases e))
        obtain ⟨g9, c9, cur9, e9, _, hg9, _⟩ := h7
        rw [e9] at e
        injection e with e
        rw [show g9 = W2.heap.size from e.symm, K1.out.2.1] at hg9
        injection hg9 with hg9
        injection hg9 with hg9 _ _
        exact K1.out.2.2.2.2 (by rw [e9]; show some g9 = _; rw [e]) 
      have H2 : Hid (V1.grownBy V2 (Value.slice av q cv).ownBlock ∧ V2.ownsRow (w.heap.size + 8) 31 3 (.slice (some ⟨g, 0, none⟩) (A.length + 1) c) (A.length + 1) (icL (A ++ [⟨.mk false [] [], .slice none 0 0, .slice none 0 0⟩])) ∧ ((Value.slice av q cv).ownBlock = some g ∨ g = V1.heap.size) ∧ w.heap.size + 8 ≤ g ∧ V2.heap[w.heap.size + 1]? = some (.cells #[.bool true, .slice none 0 0, .slice av q cv] 31)) := ⟨hg, ho, hvg, hgl.1, hx2⟩
      obtain ⟨cur, hcur, hcs, hcn⟩ : ∃ cur : Array Value, V2.heap[g]? = some (.cells cur 31 (0, 0)) ∧ cur.size = c * 3 ∧ A.length + 1 ≤ c := by
        rcases ho.2 with ⟨_, h⟩ | ⟨g', c', cur, e, _, h1, h2, _, h3, _⟩
        · omega
        · cases e; exact ⟨cur, h1, h3, h2⟩
      have hqA := HF.out.2.2.2.2
      have hcell : ∀ j, j < 3 → ∃ u, V2.cell? ⟨g, q * 3 + j, none⟩ = some u := fun j hj => by
        rw [cell_of_block hcur]
        exact ⟨_, Array.getElem?_eq_getElem (by rw [hcs]; omega)⟩
      obtain ⟨u0, hu0⟩ := hcell 0 (by omega)
      obtain ⟨u1, hu1⟩ := hcell 1 (by omega)
      obtain ⟨u2, hu2⟩ := hcell 2 (by omega)
      rw [Nat.add_zero] at hu0
      have z0 := fun k => unfrozen_of_block hcur k
      rw [← hqA]
      have x0 : V2.cell? ⟨w.heap.size + 1, 2, none⟩ = some (.slice av q cv) := (cell_of_block hx2 2).trans rfl
      have xz : V2.frozen? ⟨w.heap.size + 1, 2, none⟩ = false := unfrozen_of_block hx2 2
      have hgx : g ≠ w.heap.size + 1 := by omega
      have hq1 : ¬ ((q : Int) + 1 ≤ (q : Int)) := by omega
      clear ho hg ha hgl hvg hlowv hx2 hcell hcur hcs hcn JB hqA
      refine hK.out _ _ hyy (fun hHeld => ?_)
      clear hK K
      try simp only [List.getElem_toArray, List.getElem_cons_succ, List.getElem_cons_zero, Act.put, List.setIfInBounds_toArray, List.set_cons_zero, List.set_cons_succ]
      refine wpAnyH_take (i := 6) (v := .pointer (some ⟨g, q * 3, none⟩)) rfl (by kernel_rfl) (by kernel_rfl) (by kernel_rfl) (fun _ _ _ h => h) (Or.inl ⟨by rfl, fun w9 hSw => ?_⟩) hHeld ?_
      · go_simp
      simp only [List.getElem_toArray, List.getElem_cons_succ, List.getElem_cons_zero, Act.put, List.setIfInBounds_toArray, List.set_cons_zero, List.set_cons_succ]
      refine wpAnyH_take (i := 8) (v := .pointer (some ⟨w.heap.size + 1, 2, none⟩)) rfl (by kernel_rfl) (by kernel_rfl) (by kernel_rfl) (fun _ _ _ h => h) (Or.inl ⟨by rfl, fun w9 hSw => ?_⟩) hHeld ?_
      · go_simp
      simp only [List.getElem_toArray, List.getElem_cons_succ, List.getElem_cons_zero, Act.put, List.setIfInBounds_toArray, List.set_cons_zero, List.set_cons_succ]
      have hye : W2.heap.size ≠ g := by
        rcases H2.out.2.2.1 with h | h
        · intro e; rw [← e] at h; exact K1.out.2.2.2.2 h
        · have := heap_lt K1.out.2.1; have := HV1.out.2.2; omega
      have hyx : W2.heap.size ≠ w.heap.size + 1 := by have := K1.out.2.2.2.1; omega
      have hfx : ItV V (fun b => w.heap.size + 8 ≤ b ∧ b < V.heap.size ∧ (Value.slice av q cv).ownBlock ≠ some b) (.slice ab xn cb) (.slice ai xm ci) x := K1.out.2.2.1
      have hfin : ∀ V4 : World, (∀ b, b ≠ g → b ≠ w.heap.size + 1 → V4.heap[b]? = V2.heap[b]?) ∧ Below w.heap.size V2 V4 ∧ V4.heap[w.heap.size + 1]? = some (.cells #[.bool true, .slice none 0 0, .slice (some ⟨g, 0, none⟩) (A.length + 1) c] 31) ∧ V4.ownsRow (w.heap.size + 8) 31 3 (.slice (some ⟨g, 0, none⟩) (A.length + 1) c) (A.length + 1) (icL (A ++ [⟨x, .slice ab xn cb, .slice ai xm ci⟩])) → V4.heap[w.heap.size + 7]? = some (.loop rb) ∧ ∃ A v, RJ w (V4.putObj (w.heap.size + 7) (.loop r)) a cap bs d F T n r (p + m) A v := fun V4 h4 => by
        have hJ := K1.out.1.step (f := ⟨x, .slice ab xn cb, .slice ai xm ci⟩) (n := m) HV1.out.1 H2.out.1 H2.out.2.2.1 H2.out.2.2.2.1 hfx HF.out.1 HF.out.2.1 HF.out.2.2.1 h4.1 h4.2.1 h4.2.2.1 h4.2.2.2
        exact ⟨hJ.b7, _, _, hJ.put r⟩
      have HFin : Hid _ := hfin
      have hA := st_a (B := w.heap.size) (b1 := w.heap.size + 1) (f := ⟨x, .slice ab xn cb, .slice ai xm ci⟩) (by have := H2.out.2.2.2.1; omega) (by omega) H2.out.2.1 H2.out.2.2.2.2
      have hB := st_b (B := w.heap.size) (b1 := w.heap.size + 1) (f := ⟨x, .slice ab xn cb, .slice ai xm ci⟩) (by have := H2.out.2.2.2.1; omega) (by omega) H2.out.2.1 H2.out.2.2.2.2
      simp only [← HF.out.2.2.2.1] at hA hB
      rw [← HF.out.2.2.2.2] at hA hB HFin
      have HA : Hid _ := hA
      have HB : Hid _ := hB
      clear hA hB hfin hfx
      have hgx2 : ∀ b, b ≠ g → (((V2.setCell ⟨g, q * 3, none⟩ (.bool xl)).setCell ⟨g, q * 3 + 1, none⟩ (.slice ab xn cb)).setCell ⟨g, q * 3 + 2, none⟩ (.slice ai xm ci)).heap[b]? = V2.heap[b]? := fun b hb => by
        rw [Below.heap_setCell _ _ _ _ hb, Below.heap_setCell _ _ _ _ hb, Below.heap_setCell _ _ _ _ hb]
      have w1 : (V2.setCell ⟨g, q * 3, none⟩ (.bool xl)).cell? ⟨g, q * 3 + 1, none⟩ = some u1 := by rw [cell_off _ _ _ _ _ (by omega)]; exact hu1
      have w2' : ((V2.setCell ⟨g, q * 3, none⟩ (.bool xl)).setCell ⟨g, q * 3 + 1, none⟩ (.slice ab xn cb)).cell? ⟨g, q * 3 + 2, none⟩ = some u2 := by rw [cell_off _ _ _ _ _ (by omega), cell_off _ _ _ _ _ (by omega)]; exact hu2
      refine wpAnyH_ready (rs := [7, 9]) (by kernel_rfl) (by simp) ?_
      refine AllReadyH.cons rfl (fun K hK => ?_) (AllReadyH.cons rfl (fun K hK => ?_) AllReadyH.nil)
      · go_simp
        have hS7 : (((V2.setCell ⟨g, q * 3, none⟩ (.bool xl)).setCell ⟨g, q * 3 + 1, none⟩ (.slice ab xn cb)).setCell ⟨g, q * 3 + 2, none⟩ (.slice ai xm ci)).heap[W2.heap.size]? = some (.cells #[.bool xl, .slice ab xn cb, .slice ai xm ci] 31) := (hgx2 _ hye).trans hHeld
        have x1 : (((V2.setCell ⟨g, q * 3, none⟩ (.bool xl)).setCell ⟨g, q * 3 + 1, none⟩ (.slice ab xn cb)).setCell ⟨g, q * 3 + 2, none⟩ (.slice ai xm ci)).cell? ⟨w.heap.size + 1, 2, none⟩ = some (.slice av q cv) := (World.cell?_of_block (a := ⟨w.heap.size + 1, 2, none⟩) (hgx2 _ (Ne.symm hgx))).trans x0
        have x2 : (((V2.setCell ⟨g, q * 3, none⟩ (.bool xl)).setCell ⟨g, q * 3 + 1, none⟩ (.slice ab xn cb)).setCell ⟨g, q * 3 + 2, none⟩ (.slice ai xm ci)).frozen? ⟨w.heap.size + 1, 2, none⟩ = false := (World.frozen?_of_block (a := ⟨w.heap.size + 1, 2, none⟩) (hgx2 _ (Ne.symm hgx))).trans xz
        refine hK.out _ _ hS7 (fun hHeld => ?_)
        clear hK K
        try simp only [List.getElem_toArray, List.getElem_cons_succ, List.getElem_cons_zero, Act.put, List.setIfInBounds_toArray, List.set_cons_zero, List.set_cons_succ]
        refine wpAnyH_ready (rs := [9]) (by kernel_rfl) (by simp) ?_
        refine AllReadyH.cons rfl (fun K hK => ?_) AllReadyH.nil
        go_simp
        refine hK.out _ _ ((Below.heap_setCell _ _ _ _ hyx).trans hS7) (fun hHeld => ?_)
        clear hK K
        try simp only [List.getElem_toArray, List.getElem_cons_succ, List.getElem_cons_zero, Act.put, List.setIfInBounds_toArray, List.set_cons_zero, List.set_cons_succ]
        refine wpAnyH_done (by kernel_rfl) ?_ _
        exact HFin.out _ HA.out
      · go_simp
        have hS9 : (V2.setCell ⟨w.heap.size + 1, 2, none⟩ (.slice (some ⟨g, 0, none⟩) (q + 1) c)).heap[W2.heap.size]? = some (.cells #[.bool xl, .slice ab xn cb, .slice ai xm ci] 31) := (Below.heap_setCell _ _ _ _ hyx).trans hHeld
        have hb9 : (V2.setCell ⟨w.heap.size + 1, 2, none⟩ (.slice (some ⟨g, 0, none⟩) (q + 1) c)).heap[g]? = V2.heap[g]? := Below.heap_setCell _ _ _ _ hgx
        have v0 : (V2.setCell ⟨w.heap.size + 1, 2, none⟩ (.slice (some ⟨g, 0, none⟩) (q + 1) c)).cell? ⟨g, q * 3, none⟩ = some u0 := (World.cell?_of_block (a := ⟨g, q * 3, none⟩) hb9).trans hu0
        have v1 : (V2.setCell ⟨w.heap.size + 1, 2, none⟩ (.slice (some ⟨g, 0, none⟩) (q + 1) c)).cell? ⟨g, q * 3 + 1, none⟩ = some u1 := (World.cell?_of_block (a := ⟨g, q * 3 + 1, none⟩) hb9).trans hu1
        have v2 : (V2.setCell ⟨w.heap.size + 1, 2, none⟩ (.slice (some ⟨g, 0, none⟩) (q + 1) c)).cell? ⟨g, q * 3 + 2, none⟩ = some u2 := (World.cell?_of_block (a := ⟨g, q * 3 + 2, none⟩) hb9).trans hu2
        have vz : ∀ k, (V2.setCell ⟨w.heap.size + 1, 2, none⟩ (.slice (some ⟨g, 0, none⟩) (q + 1) c)).frozen? ⟨g, k, none⟩ = false := fun k => (World.frozen?_of_block (a := ⟨g, k, none⟩) hb9).trans (z0 k)
        have v1' : ((V2.setCell ⟨w.heap.size + 1, 2, none⟩ (.slice (some ⟨g, 0, none⟩) (q + 1) c)).setCell ⟨g, q * 3, none⟩ (.bool xl)).cell? ⟨g, q * 3 + 1, none⟩ = some u1 := by rw [cell_off _ _ _ _ _ (by omega)]; exact v1
        have v2' : (((V2.setCell ⟨w.heap.size + 1, 2, none⟩ (.slice (some ⟨g, 0, none⟩) (q + 1) c)).setCell ⟨g, q * 3, none⟩ (.bool xl)).setCell ⟨g, q * 3 + 1, none⟩ (.slice ab xn cb)).cell? ⟨g, q * 3 + 2, none⟩ = some u2 := by rw [cell_off _ _ _ _ _ (by omega), cell_off _ _ _ _ _ (by omega)]; exact v2
        refine hK.out _ _ hS9 (fun hHeld => ?_)
        clear hK K
        try simp only [List.getElem_toArray, List.getElem_cons_succ, List.getElem_cons_zero, Act.put, List.setIfInBounds_toArray, List.set_cons_zero, List.set_cons_succ]
        refine wpAnyH_ready (rs := [7]) (by kernel_rfl) (by simp) ?_
        refine AllReadyH.cons rfl (fun K hK => ?_) AllReadyH.nil
        go_simp
        refine hK.out _ _ (((Below.heap_setCell _ _ _ _ hye).trans ((Below.heap_setCell _ _ _ _ hye).trans (Below.heap_setCell _ _ _ _ hye))).trans hS9) (fun hHeld => ?_)
        clear hK K
        try simp only [List.getElem_toArray, List.getElem_cons_succ, List.getElem_cons_zero, Act.put, List.setIfInBounds_toArray, List.set_cons_zero, List.set_cons_succ]
        refine wpAnyH_done (by kernel_rfl) ?_ _
        exact HFin.out _ HB.out
    · go_simp
      have hB1 : (V.alloc (.cells #[.bool false, .slice none 0 0, .slice none 0 0] 31)).drew.heap[W2.heap.size]? = some (.cells #[.bool xl, .slice ab xn cb, .slice ai xm ci] 31) := (heap_alloc_old V _ (by have := heap_lt K1.out.2.1; omega)).trans K1.out.2.1
      refine hK.out _ _ hB1 (fun hHeld => ?_)
      clear hK K
      try simp only [List.getElem_toArray, List.getElem_cons_succ, List.getElem_cons_zero, Act.put, List.setIfInBounds_toArray, List.set_cons_zero, List.set_cons_succ]
      have e2 : (V.alloc (.cells #[.bool false, .slice none 0 0, .slice none 0 0] 31)).drew.cell? ⟨w.heap.size + 1, 2, none⟩ = some (.slice av q cv) := (cell_of_block (w := (V.alloc (.cells #[.bool false, .slice none 0 0, .slice none 0 0] 31)).drew) ((heap_alloc_old V _ (by have := K1.out.1.size; omega)).trans K1.out.1.b1) 2).trans rfl
      refine wpAnyH_ready (rs := [1]) (by kernel_rfl) (by simp) ?_
      refine AllReadyH.cons rfl (fun K hK => ?_) AllReadyH.nil
      go_simp
      refine hK.out _ _ hHeld (fun hHeld => ?_)
      clear hK K
      try simp only [List.getElem_toArray, List.getElem_cons_succ, List.getElem_cons_zero, Act.put, List.setIfInBounds_toArray, List.set_cons_zero, List.set_cons_succ]
      refine wpAnyH_take (i := 3) (v := .int .i64 q) rfl (by kernel_rfl) (by kernel_rfl) (by kernel_rfl) (fun _ _ _ h => h) (Or.inl ⟨by rfl, fun w9 hSw => ?_⟩) hHeld ?_
      · go_simp
      simp only [List.getElem_toArray, List.getElem_cons_succ, List.getElem_cons_zero, Act.put, List.setIfInBounds_toArray, List.set_cons_zero, List.set_cons_succ]
      have HV1 : Hid (Below V.heap.size V (V.alloc (.cells #[.bool false, .slice none 0 0, .slice none 0 0] 31)).drew ∧ (V.alloc (.cells #[.bool false, .slice none 0 0, .slice none 0 0] 31)).drew.heap[V.heap.size]? = some (.cells #[.bool false, .slice none 0 0, .slice none 0 0] 31) ∧ (V.alloc (.cells #[.bool false, .slice none 0 0, .slice none 0 0] 31)).drew.heap.size = V.heap.size + 1) := ⟨(by have hb := (Below.refl V.heap.size V).alloc (Nat.le_refl _) (.cells #[.bool false, .slice none 0 0, .slice none 0 0] 31); exact ⟨hb.os, hb.tape, hb.output, hb.size, hb.block⟩), heap_alloc_new V _, by simp⟩
      generalize (V.alloc (.cells #[.bool false, .slice none 0 0, .slice none 0 0] 31)).drew = V1 at HV1 hHeld ⊢
      refine wpAnyH_ready (rs := [5]) (by kernel_rfl) (by simp) ?_
      refine AllReadyH.cons rfl (fun K hK => ?_) AllReadyH.nil
      have JB := K1.out.1.below HV1.out.1
      refine step_append_it (by rfl) _ _ (by rfl) (base := w.heap.size + 8) (v := .slice av q cv) (A := A) ⟨.mk false [] [], .slice none 0 0, .slice none 0 0⟩ ⟨_, _, _, rfl⟩ ⟨_, _, _, rfl⟩ (by rfl) JB.row V.heap.size (by rfl) HV1.out.2.1 (by have a1 := K1.out.1.len; have a2 := K1.out.1.pl; have a3 := HS.out.2.2.2.1; have a4 := HS.out.1.len; omega) (by have := JB.size; omega) ?_
      intro v' V2 ho hg ha
      obtain ⟨g, c, rfl⟩ : ∃ g c, v' = .slice (some ⟨g, 0, none⟩) (A.length + 1) c := by
        rcases ho.2 with ⟨_, h⟩ | ⟨g, c, _, e, _⟩
        · omega
        · exact ⟨g, c, e⟩
      have hgl := ho.lt g rfl
      have hvg : (Value.slice av q cv).ownBlock = some g ∨ g = V1.heap.size := by
        rcases ha with h | h
        · exact Or.inl h.symm
        · exact Or.inr (by simpa [Value.ownBlock] using h)
      have hlowv : ∀ b, (Value.slice av q cv).ownBlock = some b → w.heap.size + 8 ≤ b := fun b hb => (JB.row.lt b hb).1
      have hx2 : V2.heap[w.heap.size + 1]? = some (.cells #[.bool true, .slice none 0 0, .slice av q cv] 31) := (hg.block _ (by have := JB.size; omega) (fun e => by have := hlowv _ e.symm; omega)).trans JB.b1
      have hyy : V2.heap[W2.heap.size]? = some (.cells #[.bool xl, .slice ab xn cb, .slice ai xm ci] 31) := by
        refine (hg.block _ (by have := heap_lt K1.out.2.1; have := HV1.out.2.2; omega) (fun e => ?_)).trans ((HV1.out.1.block _ (heap_lt K1.out.2.1)).trans K1.out.2.1)
        have := K1.out.1.row.lt _ e.symm
        have h7 := (K1.out.1.row.2.resolve_left (fun h => by have := h.1; rw [this] at e; cases e))
        obtain ⟨g9, c9, cur9, e9, _, hg9, _⟩ := h7
        rw [e9] at e
        injection e with e
        rw [show g9 = W2.heap.size from e.symm, K1.out.2.1] at hg9
        injection hg9 with hg9
        injection hg9 with hg9 _ _
        exact K1.out.2.2.2.2 (by rw [e9]; show some g9 = _; rw [e]) 
      have H2 : Hid (V1.grownBy V2 (Value.slice av q cv).ownBlock ∧ V2.ownsRow (w.heap.size + 8) 31 3 (.slice (some ⟨g, 0, none⟩) (A.length + 1) c) (A.length + 1) (icL (A ++ [⟨.mk false [] [], .slice none 0 0, .slice none 0 0⟩])) ∧ ((Value.slice av q cv).ownBlock = some g ∨ g = V1.heap.size) ∧ w.heap.size + 8 ≤ g ∧ V2.heap[w.heap.size + 1]? = some (.cells #[.bool true, .slice none 0 0, .slice av q cv] 31)) := ⟨hg, ho, hvg, hgl.1, hx2⟩
      obtain ⟨cur, hcur, hcs, hcn⟩ : ∃ cur : Array Value, V2.heap[g]? = some (.cells cur 31 (0, 0)) ∧ cur.size = c * 3 ∧ A.length + 1 ≤ c := by
        rcases ho.2 with ⟨_, h⟩ | ⟨g', c', cur, e, _, h1, h2, _, h3, _⟩
        · omega
        · cases e; exact ⟨cur, h1, h3, h2⟩
      have hqA := HF.out.2.2.2.2
      have hcell : ∀ j, j < 3 → ∃ u, V2.cell? ⟨g, q * 3 + j, none⟩ = some u := fun j hj => by
        rw [cell_of_block hcur]
        exact ⟨_, Array.getElem?_eq_getElem (by rw [hcs]; omega)⟩
      obtain ⟨u0, hu0⟩ := hcell 0 (by omega)
      obtain ⟨u1, hu1⟩ := hcell 1 (by omega)
      obtain ⟨u2, hu2⟩ := hcell 2 (by omega)
      rw [Nat.add_zero] at hu0
      have z0 := fun k => unfrozen_of_block hcur k
      rw [← hqA]
      have x0 : V2.cell? ⟨w.heap.size + 1, 2, none⟩ = some (.slice av q cv) := (cell_of_block hx2 2).trans rfl
      have xz : V2.frozen? ⟨w.heap.size + 1, 2, none⟩ = false := unfrozen_of_block hx2 2
      have hgx : g ≠ w.heap.size + 1 := by omega
      have hq1 : ¬ ((q : Int) + 1 ≤ (q : Int)) := by omega
      clear ho hg ha hgl hvg hlowv hx2 hcell hcur hcs hcn JB hqA
      refine hK.out _ _ hyy (fun hHeld => ?_)
      clear hK K
      try simp only [List.getElem_toArray, List.getElem_cons_succ, List.getElem_cons_zero, Act.put, List.setIfInBounds_toArray, List.set_cons_zero, List.set_cons_succ]
      refine wpAnyH_take (i := 6) (v := .pointer (some ⟨g, q * 3, none⟩)) rfl (by kernel_rfl) (by kernel_rfl) (by kernel_rfl) (fun _ _ _ h => h) (Or.inl ⟨by rfl, fun w9 hSw => ?_⟩) hHeld ?_
      · go_simp
      simp only [List.getElem_toArray, List.getElem_cons_succ, List.getElem_cons_zero, Act.put, List.setIfInBounds_toArray, List.set_cons_zero, List.set_cons_succ]
      refine wpAnyH_take (i := 8) (v := .pointer (some ⟨w.heap.size + 1, 2, none⟩)) rfl (by kernel_rfl) (by kernel_rfl) (by kernel_rfl) (fun _ _ _ h => h) (Or.inl ⟨by rfl, fun w9 hSw => ?_⟩) hHeld ?_
      · go_simp
      simp only [List.getElem_toArray, List.getElem_cons_succ, List.getElem_cons_zero, Act.put, List.setIfInBounds_toArray, List.set_cons_zero, List.set_cons_succ]
      have hye : W2.heap.size ≠ g := by
        rcases H2.out.2.2.1 with h | h
        · intro e; rw [← e] at h; exact K1.out.2.2.2.2 h
        · have := heap_lt K1.out.2.1; have := HV1.out.2.2; omega
      have hyx : W2.heap.size ≠ w.heap.size + 1 := by have := K1.out.2.2.2.1; omega
      have hfx : ItV V (fun b => w.heap.size + 8 ≤ b ∧ b < V.heap.size ∧ (Value.slice av q cv).ownBlock ≠ some b) (.slice ab xn cb) (.slice ai xm ci) x := K1.out.2.2.1
      have hfin : ∀ V4 : World, (∀ b, b ≠ g → b ≠ w.heap.size + 1 → V4.heap[b]? = V2.heap[b]?) ∧ Below w.heap.size V2 V4 ∧ V4.heap[w.heap.size + 1]? = some (.cells #[.bool true, .slice none 0 0, .slice (some ⟨g, 0, none⟩) (A.length + 1) c] 31) ∧ V4.ownsRow (w.heap.size + 8) 31 3 (.slice (some ⟨g, 0, none⟩) (A.length + 1) c) (A.length + 1) (icL (A ++ [⟨x, .slice ab xn cb, .slice ai xm ci⟩])) → V4.heap[w.heap.size + 7]? = some (.loop rb) ∧ ∃ A v, RJ w (V4.putObj (w.heap.size + 7) (.loop r)) a cap bs d F T n r (p + m) A v := fun V4 h4 => by
        have hJ := K1.out.1.step (f := ⟨x, .slice ab xn cb, .slice ai xm ci⟩) (n := m) HV1.out.1 H2.out.1 H2.out.2.2.1 H2.out.2.2.2.1 hfx HF.out.1 HF.out.2.1 HF.out.2.2.1 h4.1 h4.2.1 h4.2.2.1 h4.2.2.2
        exact ⟨hJ.b7, _, _, hJ.put r⟩
      have HFin : Hid _ := hfin
      have hA := st_a (B := w.heap.size) (b1 := w.heap.size + 1) (f := ⟨x, .slice ab xn cb, .slice ai xm ci⟩) (by have := H2.out.2.2.2.1; omega) (by omega) H2.out.2.1 H2.out.2.2.2.2
      have hB := st_b (B := w.heap.size) (b1 := w.heap.size + 1) (f := ⟨x, .slice ab xn cb, .slice ai xm ci⟩) (by have := H2.out.2.2.2.1; omega) (by omega) H2.out.2.1 H2.out.2.2.2.2
      simp only [← HF.out.2.2.2.1] at hA hB
      rw [← HF.out.2.2.2.2] at hA hB HFin
      have HA : Hid _ := hA
      have HB : Hid _ := hB
      clear hA hB hfin hfx
      have hgx2 : ∀ b, b ≠ g → (((V2.setCell ⟨g, q * 3, none⟩ (.bool xl)).setCell ⟨g, q * 3 + 1, none⟩ (.slice ab xn cb)).setCell ⟨g, q * 3 + 2, none⟩ (.slice ai xm ci)).heap[b]? = V2.heap[b]? := fun b hb => by
        rw [Below.heap_setCell _ _ _ _ hb, Below.heap_setCell _ _ _ _ hb, Below.heap_setCell _ _ _ _ hb]
      have w1 : (V2.setCell ⟨g, q * 3, none⟩ (.bool xl)).cell? ⟨g, q * 3 + 1, none⟩ = some u1 := by rw [cell_off _ _ _ _ _ (by omega)]; exact hu1
      have w2' : ((V2.setCell ⟨g, q * 3, none⟩ (.bool xl)).setCell ⟨g, q * 3 + 1, none⟩ (.slice ab xn cb)).cell? ⟨g, q * 3 + 2, none⟩ = some u2 := by rw [cell_off _ _ _ _ _ (by omega), cell_off _ _ _ _ _ (by omega)]; exact hu2
      refine wpAnyH_ready (rs := [7, 9]) (by kernel_rfl) (by simp) ?_
      refine AllReadyH.cons rfl (fun K hK => ?_) (AllReadyH.cons rfl (fun K hK => ?_) AllReadyH.nil)
      · go_simp
        have hS7 : (((V2.setCell ⟨g, q * 3, none⟩ (.bool xl)).setCell ⟨g, q * 3 + 1, none⟩ (.slice ab xn cb)).setCell ⟨g, q * 3 + 2, none⟩ (.slice ai xm ci)).heap[W2.heap.size]? = some (.cells #[.bool xl, .slice ab xn cb, .slice ai xm ci] 31) := (hgx2 _ hye).trans hHeld
        have x1 : (((V2.setCell ⟨g, q * 3, none⟩ (.bool xl)).setCell ⟨g, q * 3 + 1, none⟩ (.slice ab xn cb)).setCell ⟨g, q * 3 + 2, none⟩ (.slice ai xm ci)).cell? ⟨w.heap.size + 1, 2, none⟩ = some (.slice av q cv) := (World.cell?_of_block (a := ⟨w.heap.size + 1, 2, none⟩) (hgx2 _ (Ne.symm hgx))).trans x0
        have x2 : (((V2.setCell ⟨g, q * 3, none⟩ (.bool xl)).setCell ⟨g, q * 3 + 1, none⟩ (.slice ab xn cb)).setCell ⟨g, q * 3 + 2, none⟩ (.slice ai xm ci)).frozen? ⟨w.heap.size + 1, 2, none⟩ = false := (World.frozen?_of_block (a := ⟨w.heap.size + 1, 2, none⟩) (hgx2 _ (Ne.symm hgx))).trans xz
        refine hK.out _ _ hS7 (fun hHeld => ?_)
        clear hK K
        try simp only [List.getElem_toArray, List.getElem_cons_succ, List.getElem_cons_zero, Act.put, List.setIfInBounds_toArray, List.set_cons_zero, List.set_cons_succ]
        refine wpAnyH_ready (rs := [9]) (by kernel_rfl) (by simp) ?_
        refine AllReadyH.cons rfl (fun K hK => ?_) AllReadyH.nil
        go_simp
        refine hK.out _ _ ((Below.heap_setCell _ _ _ _ hyx).trans hS7) (fun hHeld => ?_)
        clear hK K
        try simp only [List.getElem_toArray, List.getElem_cons_succ, List.getElem_cons_zero, Act.put, List.setIfInBounds_toArray, List.set_cons_zero, List.set_cons_succ]
        refine wpAnyH_done (by kernel_rfl) ?_ _
        exact HFin.out _ HA.out
      · go_simp
        have hS9 : (V2.setCell ⟨w.heap.size + 1, 2, none⟩ (.slice (some ⟨g, 0, none⟩) (q + 1) c)).heap[W2.heap.size]? = some (.cells #[.bool xl, .slice ab xn cb, .slice ai xm ci] 31) := (Below.heap_setCell _ _ _ _ hyx).trans hHeld
        have hb9 : (V2.setCell ⟨w.heap.size + 1, 2, none⟩ (.slice (some ⟨g, 0, none⟩) (q + 1) c)).heap[g]? = V2.heap[g]? := Below.heap_setCell _ _ _ _ hgx
        have v0 : (V2.setCell ⟨w.heap.size + 1, 2, none⟩ (.slice (some ⟨g, 0, none⟩) (q + 1) c)).cell? ⟨g, q * 3, none⟩ = some u0 := (World.cell?_of_block (a := ⟨g, q * 3, none⟩) hb9).trans hu0
        have v1 : (V2.setCell ⟨w.heap.size + 1, 2, none⟩ (.slice (some ⟨g, 0, none⟩) (q + 1) c)).cell? ⟨g, q * 3 + 1, none⟩ = some u1 := (World.cell?_of_block (a := ⟨g, q * 3 + 1, none⟩) hb9).trans hu1
        have v2 : (V2.setCell ⟨w.heap.size + 1, 2, none⟩ (.slice (some ⟨g, 0, none⟩) (q + 1) c)).cell? ⟨g, q * 3 + 2, none⟩ = some u2 := (World.cell?_of_block (a := ⟨g, q * 3 + 2, none⟩) hb9).trans hu2
        have vz : ∀ k, (V2.setCell ⟨w.heap.size + 1, 2, none⟩ (.slice (some ⟨g, 0, none⟩) (q + 1) c)).frozen? ⟨g, k, none⟩ = false := fun k => (World.frozen?_of_block (a := ⟨g, k, none⟩) hb9).trans (z0 k)
        have v1' : ((V2.setCell ⟨w.heap.size + 1, 2, none⟩ (.slice (some ⟨g, 0, none⟩) (q + 1) c)).setCell ⟨g, q * 3, none⟩ (.bool xl)).cell? ⟨g, q * 3 + 1, none⟩ = some u1 := by rw [cell_off _ _ _ _ _ (by omega)]; exact v1
        have v2' : (((V2.setCell ⟨w.heap.size + 1, 2, none⟩ (.slice (some ⟨g, 0, none⟩) (q + 1) c)).setCell ⟨g, q * 3, none⟩ (.bool xl)).setCell ⟨g, q * 3 + 1, none⟩ (.slice ab xn cb)).cell? ⟨g, q * 3 + 2, none⟩ = some u2 := by rw [cell_off _ _ _ _ _ (by omega), cell_off _ _ _ _ _ (by omega)]; exact v2
        refine hK.out _ _ hS9 (fun hHeld => ?_)
        clear hK K
        try simp only [List.getElem_toArray, List.getElem_cons_succ, List.getElem_cons_zero, Act.put, List.setIfInBounds_toArray, List.set_cons_zero, List.set_cons_succ]
        refine wpAnyH_ready (rs := [7]) (by kernel_rfl) (by simp) ?_
        refine AllReadyH.cons rfl (fun K hK => ?_) AllReadyH.nil
        go_simp
        refine hK.out _ _ (((Below.heap_setCell _ _ _ _ hye).trans ((Below.heap_setCell _ _ _ _ hye).trans (Below.heap_setCell _ _ _ _ hye))).trans hS9) (fun hHeld => ?_)
        clear hK K
        try simp only [List.getElem_toArray, List.getElem_cons_succ, List.getElem_cons_zero, Act.put, List.setIfInBounds_toArray, List.set_cons_zero, List.set_cons_succ]
        refine wpAnyH_done (by kernel_rfl) ?_ _
        exact HFin.out _ HB.out
  case hE =>
    rintro e W' (⟨hv, A, v, hj⟩ | ⟨c, p, W, rfl, ⟨A, v, hj⟩, hp, hb, hc⟩)
    · refine Or.inl ⟨hv, hj.b7, ?_⟩
      clear hst hpe htm hpar has' hbod h0 hX1 hv hsrcJ
      obtain ⟨re, hre⟩ : ∃ re : Loop, { r with state := .exhausted } = re := ⟨_, rfl⟩
      rw [hre]
      have J1 : Hid (RJ w (W'.putObj (w.heap.size + 7) (.loop re)) a cap bs d F T n re T A v) := hj.put re
      obtain ⟨av, cv, hav⟩ := row_form hj.row
      generalize W'.putObj (w.heap.size + 7) (.loop re) = V at J1 ⊢
      clear hj hre
      subst hav
      obtain ⟨q, hq⟩ : ∃ q, q = A.length := ⟨_, rfl⟩
      have J2 : Hid (RJ w V a cap bs d F T n re T A (.slice av q cv)) := by rw [hq]; exact J1.out
      clear J1 hq
      have e0 : V.cell? ⟨w.heap.size + 1, 0, none⟩ = some (.bool true) := (cell_of_block J2.out.b1 0).trans rfl
      have e1 : V.cell? ⟨w.heap.size + 1, 1, none⟩ = some (.slice none 0 0) := (cell_of_block J2.out.b1 1).trans rfl
      have e2 : V.cell? ⟨w.heap.size + 1, 2, none⟩ = some (.slice av q cv) := (cell_of_block J2.out.b1 2).trans rfl
      have c0 : V.cell? ⟨w.heap.size, 0, none⟩ = some (.bool false) := (cell_of_block J2.out.b0 0).trans rfl
      have c1 : V.cell? ⟨w.heap.size, 1, none⟩ = some (.slice none 0 0) := (cell_of_block J2.out.b0 1).trans rfl
      have c2 : V.cell? ⟨w.heap.size, 2, none⟩ = some (.slice none 0 0) := (cell_of_block J2.out.b0 2).trans rfl
      have z0 := fun k => unfrozen_of_block J2.out.b0 k
      go_wp2
      have hb0 := set31 J2.out.b0 (x' := .bool true) (y' := .slice none 0 0) (z' := .slice av q cv)
      have hoth := fun k h => set31_other V w.heap.size k (.bool true) (.slice none 0 0) (.slice av q cv) h
      have hbw := set31_below J2.out.bl (Nat.le_refl _) (.bool true) (.slice none 0 0) (.slice av q cv)
      have hsz := set31_size V w.heap.size (.bool true) (.slice none 0 0) (.slice av q cv)
      generalize ((V.setCell ⟨w.heap.size, 0, none⟩ (.bool true)).setCell ⟨w.heap.size, 1, none⟩ (.slice none 0 0)).setCell ⟨w.heap.size, 2, none⟩ (.slice av q cv) = V3 at *
      have hdf : V3.heap[w.heap.size + 6]? = some (.deferred (some [])) := (hoth _ (by omega)).trans J2.out.b6
      refine ⟨by simp, .inl ⟨_, _, rfl, run_takeDeferred hdf, ?_⟩⟩
      have ho4 : ∀ b, b ≠ w.heap.size + 6 → (V3.putObj (w.heap.size + 6) (.deferred none)).heap[b]? = V3.heap[b]? := fun b hb => World.putObj_heap_other hb
      have hs4 : (V3.putObj (w.heap.size + 6) (.deferred none)).heap.size = V3.heap.size := by simp [World.putObj]
      have hl := load31 ((ho4 w.heap.size (by omega)).trans hb0)
      have hb4 : Below w.heap.size w (V3.putObj (w.heap.size + 6) (.deferred none)) := ⟨hbw.os, hbw.tape, hbw.output, by rw [hs4]; exact hbw.size, fun b hb => (ho4 b (by omega)).trans (hbw.block b hb)⟩
      generalize V3.putObj (w.heap.size + 6) (.deferred none) = V4 at hl hb4 ho4 hs4 ⊢
      refine ⟨.tuple #[.agg #[.bool true, .slice none 0 0, .slice av q cv], .int .i64 T], by simp [results, Try.results38, asAddr, hl], hb4, ?_⟩
      obtain ⟨kk, _, hgot⟩ := J2.out.got
      rw [Nat.sub_self, itF_none] at hgot
      have hgot' : itF (fs d) n n (List.drop F bs) = .ok (A.map IC.x) := by rw [hgot]; simp [Except.map]
      rw [hgot']
      have hch : ∀ b, w.heap.size + 8 ≤ b → V4.heap[b]? = V.heap[b]? := fun b hb => (ho4 b (by omega)).trans (hoth b (by omega))
      have hsV : V4.heap.size = V.heap.size := by rw [hs4, hsz]
      refine ⟨.slice none 0 0, .slice av q cv, ?_, ⟨⟨Or.inl ⟨rfl, rfl⟩, fun b hb => ?_, by simp [Tr.b]⟩, ?_⟩⟩
      · show Ending.returned (Value.tuple #[_, Value.int .i64 (T : Int)]) = Ending.returned (Value.tuple #[_, Value.int .i64 ((i + (hh + n) : Nat) : Int)])
        rw [HS.out.2.2.2.2.2]
        rfl
      · simp [dBlock, Tr.b] at hb
      · have hrow4 : V4.ownsRow (w.heap.size + 8) 31 3 (.slice av q cv) A.length (icL A) := ownsRow_heap J2.out.row (fun b hb => hch b (J2.out.row.lt b hb).1)
        exact row_its hrow4 (fun f hf => (J2.out.it f hf).mono (fun b hb => hch b hb.1) (fun b hb => ⟨by have := hb.1; omega, by rw [hsV]; exact hb.2.1⟩)) (fun b hb => ⟨by have := (hrow4.lt b hb).1; omega, (hrow4.lt b hb).2⟩) (by have a1 := J2.out.len; have a3 := HS.out.2.2.2.1; have a4 := HS.out.1.len; omega)
    · refine Or.inr ⟨_, rfl, ?_⟩
      have hj2 := hj.below hb
      refine ⟨by simp, .inl ⟨_, _, rfl, run_takeDeferred hj2.b6, ?_⟩⟩
      have hs4 : (W'.putObj (w.heap.size + 6) (.deferred none)).heap.size = W'.heap.size := by simp [World.putObj]
      have hb4 : Below w.heap.size w (W'.putObj (w.heap.size + 6) (.deferred none)) := ⟨hj2.bl.os, hj2.bl.tape, hj2.bl.output, by rw [hs4]; exact hj2.bl.size, fun b hb => (World.putObj_heap_other (by omega)).trans (hj2.bl.block b hb)⟩
      obtain ⟨kk, hkk, hgot⟩ := hj.got
      have herr : itF (fs d) n n (List.drop F bs) = .error c := by
        rw [hgot]
        rcases hc with hc | ⟨x, m, hx, hm, rfl⟩
        · rw [itF_err (by omega) hc hkk]; rfl
        · rw [itF_over (by omega) hx (by omega) hkk]; rfl
      rw [herr]
      exact ⟨hb4, rfl⟩
/-- rlp.read -/
theorem read_any : ∀ d, d ≤ 16 → RdC d := by
  intro d
  induction d with
  | zero =>
    intro _ w a cap bs h i hi
    cases he : sps (bs.drop i) with
    | error c =>
      refine Calls.mono (read_err h i 16 hi c he) ?_
      rintro e w' ⟨hb, rfl⟩
      refine ⟨hb, ?_⟩
      rw [fs_error 0 he]
      rfl
    | ok q =>
      obtain ⟨l, hh, n⟩ := q
      cases l with
      | false =>
        refine Calls.mono (read_bytes h i 16 hi hh n he) ?_
        rintro e w' ⟨hb, hr⟩
        refine ⟨hb, ?_⟩
        rw [fs_bytes 0 he]
        exact hr
      | true =>
        refine Calls.mono (read_deep h i hi hh n he) ?_
        rintro e w' ⟨hb, rfl⟩
        refine ⟨hb, ?_⟩
        have : fs 0 (bs.drop i) = .error 3 := by simp [fs, he]
        rw [this]
        rfl
  | succ d ih =>
    intro hd w a cap bs h i hi
    cases he : sps (bs.drop i) with
    | error c =>
      refine Calls.mono (read_err h i (16 - (d + 1)) hi c he) ?_
      rintro e w' ⟨hb, rfl⟩
      refine ⟨hb, ?_⟩
      rw [fs_error (d + 1) he]
      rfl
    | ok q =>
      obtain ⟨l, hh, n⟩ := q
      cases l with
      | false =>
        refine Calls.mono (read_bytes h i (16 - (d + 1)) hi hh n he) ?_
        rintro e w' ⟨hb, hr⟩
        refine ⟨hb, ?_⟩
        rw [fs_bytes (d + 1) he]
        exact hr
      | true =>
        refine Calls.mono (read_list hd (ih (by omega)) h i hi hh n he) ?_
        rintro e w' ⟨hb, hr⟩
        refine ⟨hb, ?_⟩
        have : fs (d + 1) (bs.drop i) = listR (itF (fs d) n n ((bs.drop i).drop hh)) (hh + n) := by
          simp only [fs, he]
          rfl
        rw [this]
        exact hr
end Go.Proofs.Ytmnlcpfehbpogaa
