/- UE, UM, laid into one text. -/
import Derived.Test.YtboeokmaepchgaaGreatDoorM24
/- state: the sets of a nil state; CodeHash, Code. -/
namespace Go.Proofs.YtboeokmaepchgaaGreatDoor
open Go.RowKit Go.Maps Go.Joins Go.Shelf
set_option linter.unusedSimpArgs false
set_option linter.unusedVariables false
set_option maxRecDepth 100000 in
set_option maxHeartbeats 4000000 in
/-- set of a nil state -/
theorem sset_nil {w : World} (A D E : Nat → BitVec 8) (fv : Value) (h : Two D E) (hp : Kc.PathIn w) : Calls Tryz.prog 51 #[.pointer none, .agg (adV A), fv] w fun e w' => e = .returned (.tuple #[]) ∧ Below w.heap.size w w' := by
  have hB0 : Below w.heap.size w (w.alloc (.cells (adV A) 43)) := by go_grown
  have HC : Hid _ := account_nil (w := w.alloc (.cells (adV A) 43)) A D E h (hp.below hB0 (Kc.pathIn_pos hp))
  have HB : Hid (Below w.heap.size w (w.alloc (.cells (adV A) 43)) ∧ (w.alloc (.cells (adV A) 43)).heap[w.heap.size]? = some (.cells (adV A) 43)) := ⟨hB0, heap_alloc_new _ _⟩
  clear hp h hB0
  go_enter Tryz.func51, Tryz.ntmps51
  go_wp2_with (first | (refine wpList_load_row rfl 43 _ rfl w.heap.size rfl 43 _ (0, 0) _ HB.out.2 Tryz.underlying43 rfl (info43v _) ?_))
  generalize w.alloc (.cells (adV A) 43) = W0 at HB HC ⊢
  refine Calls.mono HC.out ?_
  rintro e W1 ⟨rfl, hb1⟩
  have HB1 : Hid (Below w.heap.size w W1) := HB.out.1.trans (hb1.mono HB.out.1.size)
  clear hb1 HB HC
  go_wp2_with (first | (go_at_call 57; refine Calls.mono broken_nil ?_; rintro e w8 ⟨rfl, h⟩; obtain rfl := h.symm; clear h) | (refine wpList_store_row rfl 86 _ _ rfl W1.heap.size (newAc D E) rfl rfl 86 _ (heap_alloc_new _ _) (info86v _) (by rw [z86]; simp) (one_ac _ _ _ _ _ _ _ _ _ _) ?_; rw [World.setRow_alloc_new]))
  refine bodyPost_ret (results_none rfl _ _ _) rfl ⟨rfl, ?_⟩
  exact HB1.out.alloc HB1.out.size _
set_option maxRecDepth 100000 in
set_option maxHeartbeats 4000000 in
theorem setBalance_nil {w : World} (A D E : Nat → BitVec 8) (x0 x1 x2 x3 : Int) (h : Two D E) (hp : Kc.PathIn w) : Calls Tryz.prog 16 #[.pointer none, .agg (adV A), .agg (W4a x0 x1 x2 x3)] w fun e w' => e = .returned (.tuple #[]) ∧ Below w.heap.size w w' := by
  have hmf : ∀ (fn : Fn) (first cap : Array Value) (w : World), (Instr.makeFunc fn first cap).run Tryz.prog w = .ok (.func fn first cap) w := fun _ _ _ _ => rfl
  have hB0 : Below w.heap.size w ((w.alloc (.cells (adV A) 43)).alloc (.cells (W4a x0 x1 x2 x3) 46)) := by go_grown
  have HC : Hid (∀ fv, Calls Tryz.prog 51 #[.pointer none, .agg (adV A), fv] ((w.alloc (.cells (adV A) 43)).alloc (.cells (W4a x0 x1 x2 x3) 46)) fun e w' => e = .returned (.tuple #[]) ∧ Below ((w.alloc (.cells (adV A) 43)).alloc (.cells (W4a x0 x1 x2 x3) 46)).heap.size ((w.alloc (.cells (adV A) 43)).alloc (.cells (W4a x0 x1 x2 x3) 46)) w') := fun fv => sset_nil A D E fv h (hp.below hB0 (Kc.pathIn_pos hp))
  have HB : Hid (Below w.heap.size w ((w.alloc (.cells (adV A) 43)).alloc (.cells (W4a x0 x1 x2 x3) 46)) ∧ ((w.alloc (.cells (adV A) 43)).alloc (.cells (W4a x0 x1 x2 x3) 46)).heap[w.heap.size]? = some (.cells (adV A) 43)) := ⟨hB0, allocs_heap [.cells (adV A) 43, .cells (W4a x0 x1 x2 x3) 46] w 0 _ rfl⟩
  clear hp h hB0
  go_enter Tryz.func16, Tryz.ntmps16
  go_wp2_with (first | (refine wpList_load_row rfl 43 _ rfl w.heap.size rfl 43 _ (0, 0) _ HB.out.2 Tryz.underlying43 rfl (info43v _) ?_))
  generalize (w.alloc (.cells (adV A) 43)).alloc (.cells (W4a x0 x1 x2 x3) 46) = W0 at HB HC ⊢
  refine Calls.mono (HC.out _) ?_
  rintro e W1 ⟨rfl, hb1⟩
  go_wp2
  go_end0
  exact ⟨rfl, HB.out.1.trans (hb1.mono HB.out.1.size)⟩
set_option maxRecDepth 100000 in
set_option maxHeartbeats 4000000 in
theorem setNonce_nil {w : World} (A D E : Nat → BitVec 8) (n : Int) (h : Two D E) (hp : Kc.PathIn w) : Calls Tryz.prog 17 #[.pointer none, .agg (adV A), .int .u64 n] w fun e w' => e = .returned (.tuple #[]) ∧ Below w.heap.size w w' := by
  have hmf : ∀ (fn : Fn) (first cap : Array Value) (w : World), (Instr.makeFunc fn first cap).run Tryz.prog w = .ok (.func fn first cap) w := fun _ _ _ _ => rfl
  have hB0 : Below w.heap.size w ((w.alloc (.cells (adV A) 43)).alloc (.cells #[.int .u64 n] 44)) := by go_grown
  have HC : Hid (∀ fv, Calls Tryz.prog 51 #[.pointer none, .agg (adV A), fv] ((w.alloc (.cells (adV A) 43)).alloc (.cells #[.int .u64 n] 44)) fun e w' => e = .returned (.tuple #[]) ∧ Below ((w.alloc (.cells (adV A) 43)).alloc (.cells #[.int .u64 n] 44)).heap.size ((w.alloc (.cells (adV A) 43)).alloc (.cells #[.int .u64 n] 44)) w') := fun fv => sset_nil A D E fv h (hp.below hB0 (Kc.pathIn_pos hp))
  have HB : Hid (Below w.heap.size w ((w.alloc (.cells (adV A) 43)).alloc (.cells #[.int .u64 n] 44)) ∧ ((w.alloc (.cells (adV A) 43)).alloc (.cells #[.int .u64 n] 44)).heap[w.heap.size]? = some (.cells (adV A) 43)) := ⟨hB0, allocs_heap [.cells (adV A) 43, .cells #[.int .u64 n] 44] w 0 _ rfl⟩
  clear hp h hB0
  go_enter Tryz.func17, Tryz.ntmps17
  go_wp2_with (first | (refine wpList_load_row rfl 43 _ rfl w.heap.size rfl 43 _ (0, 0) _ HB.out.2 Tryz.underlying43 rfl (info43v _) ?_))
  generalize (w.alloc (.cells (adV A) 43)).alloc (.cells #[.int .u64 n] 44) = W0 at HB HC ⊢
  refine Calls.mono (HC.out _) ?_
  rintro e W1 ⟨rfl, hb1⟩
  go_wp2
  go_end0
  exact ⟨rfl, HB.out.1.trans (hb1.mono HB.out.1.size)⟩
set_option maxRecDepth 100000 in
set_option maxHeartbeats 4000000 in
theorem setCode_nil {w : World} (A D E : Nat → BitVec 8)  (h : Two D E) (hp : Kc.PathIn w) : Calls Tryz.prog 18 #[.pointer none, .agg (adV A), .slice none 0 0] w fun e w' => e = .returned (.tuple #[]) ∧ Below w.heap.size w w' := by
  have hmf : ∀ (fn : Fn) (first cap : Array Value) (w : World), (Instr.makeFunc fn first cap).run Tryz.prog w = .ok (.func fn first cap) w := fun _ _ _ _ => rfl
  have hB0 : Below w.heap.size w ((w.alloc (.cells (adV A) 43)).alloc (.cells #[.slice none 0 0] 22)) := by go_grown
  have HC : Hid (∀ fv, Calls Tryz.prog 51 #[.pointer none, .agg (adV A), fv] ((w.alloc (.cells (adV A) 43)).alloc (.cells #[.slice none 0 0] 22)) fun e w' => e = .returned (.tuple #[]) ∧ Below ((w.alloc (.cells (adV A) 43)).alloc (.cells #[.slice none 0 0] 22)).heap.size ((w.alloc (.cells (adV A) 43)).alloc (.cells #[.slice none 0 0] 22)) w') := fun fv => sset_nil A D E fv h (hp.below hB0 (Kc.pathIn_pos hp))
  have HB : Hid (Below w.heap.size w ((w.alloc (.cells (adV A) 43)).alloc (.cells #[.slice none 0 0] 22)) ∧ ((w.alloc (.cells (adV A) 43)).alloc (.cells #[.slice none 0 0] 22)).heap[w.heap.size]? = some (.cells (adV A) 43)) := ⟨hB0, allocs_heap [.cells (adV A) 43, .cells #[.slice none 0 0] 22] w 0 _ rfl⟩
  clear hp h hB0
  go_enter Tryz.func18, Tryz.ntmps18
  go_wp2_with (first | (refine wpList_load_row rfl 43 _ rfl w.heap.size rfl 43 _ (0, 0) _ HB.out.2 Tryz.underlying43 rfl (info43v _) ?_))
  generalize (w.alloc (.cells (adV A) 43)).alloc (.cells #[.slice none 0 0] 22) = W0 at HB HC ⊢
  refine Calls.mono (HC.out _) ?_
  rintro e W1 ⟨rfl, hb1⟩
  go_wp2
  go_end0
  exact ⟨rfl, HB.out.1.trans (hb1.mono HB.out.1.size)⟩
set_option maxRecDepth 100000 in
set_option maxHeartbeats 4000000 in
theorem setSlot_nil {w : World} (A D E : Nat → BitVec 8) (x0 x1 x2 x3 y0 y1 y2 y3 : Int) (h : Two D E) (hp : Kc.PathIn w) : Calls Tryz.prog 19 #[.pointer none, .agg (adV A), .agg (W4a x0 x1 x2 x3), .agg (W4a y0 y1 y2 y3)] w fun e w' => e = .returned (.tuple #[]) ∧ Below w.heap.size w w' := by
  have hB0 : Below w.heap.size w (((w.alloc (.cells (adV A) 43)).alloc (.cells (W4a x0 x1 x2 x3) 46)).alloc (.cells (W4a y0 y1 y2 y3) 46)) := by go_grown
  have HB : Hid (Below w.heap.size w (((w.alloc (.cells (adV A) 43)).alloc (.cells (W4a x0 x1 x2 x3) 46)).alloc (.cells (W4a y0 y1 y2 y3) 46)) ∧ (((w.alloc (.cells (adV A) 43)).alloc (.cells (W4a x0 x1 x2 x3) 46)).alloc (.cells (W4a y0 y1 y2 y3) 46)).heap[w.heap.size]? = some (.cells (adV A) 43) ∧ (((w.alloc (.cells (adV A) 43)).alloc (.cells (W4a x0 x1 x2 x3) 46)).alloc (.cells (W4a y0 y1 y2 y3) 46)).heap[w.heap.size + 1]? = some (.cells (W4a x0 x1 x2 x3) 46)) := ⟨hB0, allocs_heap [.cells (adV A) 43, .cells (W4a x0 x1 x2 x3) 46, .cells (W4a y0 y1 y2 y3) 46] w 0 _ rfl, allocs_heap [.cells (adV A) 43, .cells (W4a x0 x1 x2 x3) 46, .cells (W4a y0 y1 y2 y3) 46] w 1 _ rfl⟩
  have HP : Hid (Kc.PathIn w ∧ 1 < w.heap.size ∧ Two D E) := ⟨hp, Kc.pathIn_pos hp, h⟩
  clear hp h hB0
  go_enter Tryz.func19, Tryz.ntmps19
  go_wp2_with (first | (refine wpList_load_row rfl 43 _ rfl w.heap.size rfl 43 _ (0, 0) _ HB.out.2.1 Tryz.underlying43 rfl (info43v _) ?_) | (refine wpList_load_row rfl 46 _ rfl (w.heap.size + 1) rfl 46 _ (0, 0) _ HB.out.2.2 Tryz.underlying46 rfl (by kernel_rfl) ?_))
  generalize (((w.alloc (.cells (adV A) 43)).alloc (.cells (W4a x0 x1 x2 x3) 46)).alloc (.cells (W4a y0 y1 y2 y3) 46)) = W0 at HB ⊢
  refine Calls.mono (original_nil (w := W0) A x0 x1 x2 x3) ?_
  rintro e W1 ⟨rfl, hb1⟩
  have hA : Below W1.heap.size W1 (W1.alloc (.cells (W4a 0 0 0 0) 46)) := by go_grown
  have H1 : Hid (Below w.heap.size w (W1.alloc (.cells (W4a 0 0 0 0) 46)) ∧ (W1.alloc (.cells (W4a 0 0 0 0) 46)).heap[w.heap.size]? = some (.cells (adV A) 43)) := ⟨(HB.out.1.trans (hb1.mono HB.out.1.size)).trans (hA.mono (Nat.le_trans HB.out.1.size hb1.size)), (hA.block _ (Nat.lt_of_lt_of_le (heap_lt HB.out.2.1) hb1.size)).trans ((hb1.block _ (heap_lt HB.out.2.1)).trans HB.out.2.1)⟩
  clear hb1 hA HB
  go_wp2_with (first | (refine wpList_store_row rfl 46 _ _ rfl W1.heap.size (W4a 0 0 0 0) rfl rfl 46 _ (heap_alloc_new _ _) (by kernel_rfl) rfl (by simp [Value.oneCell']) ?_; rw [World.setRow_alloc_new]) | (refine wpList_load_row rfl 43 _ rfl w.heap.size rfl 43 _ (0, 0) _ H1.out.2 Tryz.underlying43 rfl (info43v _) ?_))
  generalize W1.alloc (.cells (W4a 0 0 0 0) 46) = W2 at H1 ⊢
  refine Calls.mono (sset_nil A D E _ HP.out.2.2 (HP.out.1.below H1.out.1 HP.out.2.1)) ?_
  rintro e W3 ⟨rfl, hb3⟩
  have H3 : Hid (Below w.heap.size w W3) := H1.out.1.trans (hb3.mono H1.out.1.size)
  clear hb3 H1
  go_wp2_with (first | (go_at_call 57; refine Calls.mono broken_nil ?_; rintro e w8 ⟨rfl, h⟩; obtain rfl := h.symm; clear h))
  refine bodyPost_ret (results_none rfl _ _ _) rfl ⟨rfl, H3.out⟩
end Go.Proofs.YtboeokmaepchgaaGreatDoor
/- Maps whose keys are arrays of numbers. -/
namespace Go.Proofs.YtboeokmaepchgaaGreatDoor
open Go.RowKit Go.Maps Go.Joins Go.Shelf
set_option linter.unusedSimpArgs false
set_option linter.unusedVariables false
/-- An array of numbers. -/
abbrev arV (n : Nat) (k : IntKind) (x : Nat → Int) : Value := .agg (Kc.vec n fun j => .int k (x j))
/-- An array of numbers may be a key. -/
theorem check_arr {P : Program} (em : Bool) (K e n : Nat) (k : IntKind) (ht : P.underlying K = some (.array n e)) (hs : ∀ w, (sizeOf e).run P w = .ok 1 w) (ha : ∀ w, (isAgg e).run P w = .ok false w) (he : P.underlying e = some (.int k)) (x : Nat → Int) (w : World) :
    (Instr.checkKey em 10000 K (arV n k x)).run P w = .ok () w := by
  have h1 : ∀ (d : Nat) (i : Nat) (w : World), (Instr.checkKey em (d + 1) e (.int k (x i))).run P w = .ok () w := fun d i w => by
    rw [Instr.checkKey]
    simp [Sem.run_bind, run_underlying he]
  rw [Instr.checkKey]
  simp only [Sem.run_bind, run_underlying ht, Result.andThen_ok, hs, Std.Legacy.Range.forIn_eq_forIn_range']
  have hl : ∀ l : List Nat, (∀ i ∈ l, i < n) → (forIn (m := Sem) l PUnit.unit fun i __s => do
            let __do_lift ← sizeOf e
            let __do_lift ← part e (Kc.vec n fun j => .int k (x j)) (i * __do_lift)
            Instr.checkKey em 9999 e __do_lift
            pure (ForInStep.yield PUnit.unit)).run P w = .ok PUnit.unit w := by
    intro l
    induction l with
    | nil => intro _; simp
    | cons i l ih =>
      intro hi
      have hin : i < n := hi i (by simp)
      have h2 := ih (fun j hj => hi j (by simp [hj]))
      have hp : (part e (Kc.vec n fun j => .int k (x j)) (i * 1)).run P w = .ok (.int k (x i)) w := by
        simp [part, Sem.run_bind, ha, Kc.get_vec n (fun j => .int k (x j)) i hin]
      rw [List.forIn_cons]
      simp only [Sem.run_bind, hs, Result.andThen_ok, hp, h1 9998, Sem.run_pure]
      exact h2
  rw [hl _ (fun i hi => by simp at hi; omega)]
  simp
/-- Arrays of numbers are the same where each number is. -/
theorem eq_arr {P : Program} (K e n : Nat) (k : IntKind) (ht : P.underlying K = some (.array n e)) (hs : ∀ w, (sizeOf e).run P w = .ok 1 w) (ha : ∀ w, (isAgg e).run P w = .ok false w) (he : P.underlying e = some (.int k)) (x y : Nat → Int) (w : World) :
    (Op.equalIn 10000 K (arV n k x) (arV n k y)).run P w = .ok (decide (∀ j, j < n → x j = y j)) w := by
  rw [Op.equalIn]
  simp only [Sem.run_bind, run_underlying ht, Result.andThen_ok, hs, Std.Legacy.Range.forIn_eq_forIn_range']
  have hl : ∀ l : List Nat, (∀ i ∈ l, i < n) → (forIn (m := Sem) l ((none : Option Bool), ()) fun i __s => do
            let __do_lift ← part e (Kc.vec n fun j => .int k (x j)) (i * 1)
            let __do_lift_1 ← part e (Kc.vec n fun j => .int k (y j)) (i * 1)
            let __do_lift ← Op.equalIn 9999 e __do_lift __do_lift_1
            if (!__do_lift) = true then pure (ForInStep.done (some false, ())) else pure (ForInStep.yield ((none : Option Bool), ()))).run P w = .ok (if ∀ i ∈ l, x i = y i then (none, ()) else (some false, ())) w := by
    intro l
    induction l with
    | nil => intro _; simp
    | cons i l ih =>
      intro hi
      have hin : i < n := hi i (by simp)
      have h2 := ih (fun j hj => hi j (by simp [hj]))
      have hp : ∀ z : Nat → Int, (part e (Kc.vec n fun j => .int k (z j)) (i * 1)).run P w = .ok (.int k (z i)) w := fun z => by
        simp [part, Sem.run_bind, ha, Kc.get_vec n (fun j => .int k (z j)) i hin]
      rw [List.forIn_cons]
      have hq : (Op.equalIn 9999 e (.int k (x i)) (.int k (y i))).run P w = .ok (x i == y i) w := by rw [run_equalIn_int w 9998 e k k _ _ he]
      simp only [Sem.run_bind, hp, Result.andThen_ok, hq]
      by_cases hxy : x i = y i
      · simp only [hxy, BEq.rfl, Bool.not_true, Bool.false_eq_true, if_false, Sem.run_pure, Result.andThen_ok]
        rw [h2]
        simp [hxy]
      · have hb : (x i == y i) = false := by simpa using hxy
        simp only [hb, Bool.not_false, if_true, Sem.run_pure, Result.andThen_ok]
        simp [hxy]
  rw [hl _ (fun i hi => by simp at hi; omega)]
  by_cases h : ∀ j, j < n → x j = y j
  · rw [if_pos (fun i hi => h i (by simp at hi; omega))]
    simp
    exact h
  · rw [if_neg (fun hc => h (fun j hj => hc j (by simp; omega)))]
    rw [decide_eq_false h]
    simp
/-- A map's key among its entries. -/
def findA (n : Nat) (x : Nat → Int) : List ((Nat → Int) × Value × Nat) → Nat → Option (Nat × Value)
  | [], _ => none
  | (y, v, _) :: r, i => if (∀ j, j < n → x j = y j) then some (i, v) else findA n x r (i + 1)
/-- Entries by their arrays. -/
def entA (n : Nat) (k : IntKind) (l : List ((Nat → Int) × Value × Nat)) : List MapEntry := l.map fun (y, v, b) => { key := arV n k y, val := v, born := b }
theorem find_arr {P : Program} (K e n : Nat) (k : IntKind) (ht : P.underlying K = some (.array n e)) (hs : ∀ w, (sizeOf e).run P w = .ok 1 w) (ha : ∀ w, (isAgg e).run P w = .ok false w) (he : P.underlying e = some (.int k)) (x : Nat → Int) (l : List ((Nat → Int) × Value × Nat)) (w : World) :
    (Instr.findKey K (arV n k x) (entA n k l)).run P w = .ok (findA n x l 0) w := by
  have hg : ∀ (l : List ((Nat → Int) × Value × Nat)) (i : Nat), (Instr.findAsking K (arV n k x) (entA n k l) i).run P w = .ok (findA n x l i) w := by
    intro l
    induction l with
    | nil => intro i; simp [entA, Instr.findAsking, findA]
    | cons q l ih =>
      intro i
      obtain ⟨y, v, b⟩ := q
      show (Instr.findAsking K (arV n k x) ({ key := arV n k y, val := v, born := b } :: entA n k l) i).run P w = _
      rw [Instr.findAsking]
      have hq : (Op.equal K (arV n k x) (arV n k y)).run P w = .ok (decide (∀ j, j < n → x j = y j)) w := eq_arr K e n k ht hs ha he x y w
      simp only [Sem.run_bind, hq, Result.andThen_ok, findA]
      by_cases h : ∀ j, j < n → x j = y j
      · rw [decide_eq_true h, if_pos h]
        simp
      · rw [decide_eq_false h, if_neg h]
        exact ih (i + 1)
  unfold Instr.findKey
  simp only [Sem.run_bind, run_underlying ht, Result.andThen_ok]
  cases l with
  | nil => simp [entA, Instr.findNow, findA]
  | cons q l =>
    obtain ⟨y, v, b⟩ := q
    have : Instr.findNow (.array n e) (arV n k x) (entA n k ((y, v, b) :: l)) 0 = none := rfl
    rw [this]
    exact hg _ 0
/-- v, ok := m[k] -/
def lookA (n : Nat) (x : Nat → Int) (l : List ((Nat → Int) × Value × Nat)) (z : Value) : Value :=
  match findA n x l 0 with
  | some (_, v) => .tuple #[v, .bool true]
  | none => .tuple #[z, .bool false]
theorem run_lookup_arr {P : Program} {w : World} (T K V e n : Nat) (k : IntKind) (hT : P.underlying T = some (.map K V)) (ht : P.underlying K = some (.array n e)) (hs : ∀ w, (sizeOf e).run P w = .ok 1 w) (ha : ∀ w, (isAgg e).run P w = .ok false w) (he : P.underlying e = some (.int k)) (z : Value) (hz : ∀ w, (zeroValue V).run P w = .ok z w)
    {m clock : Nat} (l : List ((Nat → Int) × Value × Nat)) (hm : w.heap[m]? = some (.map (entA n k l).toArray clock)) (x : Nat → Int) :
    (Instr.lookup T (.map (some m)) (arV n k x) true).run P w = .ok (lookA n x l z) w := by
  have hf := find_arr K e n k ht hs ha he x l w
  have hgo : (getObj m).run P w = .ok (.map (entA n k l).toArray clock) w := by simp [getObj, Sem.run, hm]
  unfold Instr.lookup
  simp only [Sem.run_bind, run_underlying hT, Result.andThen_ok, hgo, Sem.run_pure, check_arr _ K e n k ht hs ha he x w, hf, List.toList_toArray]
  unfold lookA
  cases h : findA n x l 0 with
  | none => simp [h, hz]
  | some q => obtain ⟨i, v⟩ := q; simp [h]
/-- m[k] = v, of a key that is not there. -/
theorem run_update_new {P : Program} {w : World} (T K V e n : Nat) (k : IntKind) (hT : P.underlying T = some (.map K V)) (ht : P.underlying K = some (.array n e)) (hs : ∀ w, (sizeOf e).run P w = .ok 1 w) (ha : ∀ w, (isAgg e).run P w = .ok false w) (he : P.underlying e = some (.int k))
    {m clock : Nat} (l : List ((Nat → Int) × Value × Nat)) (hm : w.heap[m]? = some (.map (entA n k l).toArray clock)) (x : Nat → Int) (v : Value) (hx : findA n x l 0 = none) :
    (Instr.mapUpdate T (.map (some m)) (arV n k x) v).run P w = .ok () (w.putObj m (.map (entA n k (l ++ [(x, v, clock)])).toArray (clock + 1))) := by
  have hf := find_arr K e n k ht hs ha he x l w
  have hgo : (getObj m).run P w = .ok (.map (entA n k l).toArray clock) w := by simp [getObj, Sem.run, hm]
  have hso : ∀ o : Obj, (setObj m o).run P w = .ok () (w.putObj m o) := fun o => by simp [setObj, Sem.run, hm, World.putObj]
  unfold Instr.mapUpdate
  simp only [Sem.run_bind, run_underlying hT, Result.andThen_ok, hgo, Sem.run_pure, check_arr _ K e n k ht hs ha he x w, hf, List.toList_toArray, hx]
  rw [hso]
  simp [entA]
theorem same_int (d : Nat) (k : IntKind) (a : Int) : Instr.sameBits d (.int k a) (.int k a) = true := by
  cases d <;> simp [Instr.sameBits]
theorem same_arr (n : Nat) (k : IntKind) (x : Nat → Int) : Instr.sameBits 10000 (arV n k x) (arV n k x) = true := by
  rw [Instr.sameBits]
  simp only [BEq.rfl, Bool.true_and]
  rw [List.all_eq_true]
  intro q hq
  obtain ⟨a, b⟩ := q
  have h := List.of_mem_zip hq
  have e : a = b := by
    obtain ⟨i, hi, he⟩ := List.getElem_of_mem hq
    rw [List.getElem_zip] at he
    cases he
    rfl
  subst e
  have hm := h.1
  obtain ⟨i, hi, he⟩ := List.getElem_of_mem hm
  have hi' : i < (Kc.vec n fun j => Value.int k (x j)).size := by simpa using hi
  have hg := Kc.get_vec n (fun j => Value.int k (x j)) i (by rw [Kc.size_vec] at hi'; exact hi')
  rw [Array.getElem?_eq_getElem hi'] at hg
  have : a = .int k (x i) := by rw [← he]; exact Option.some.inj hg
  rw [this]
  exact same_int _ _ _
theorem arV_congr {n : Nat} {k : IntKind} {x y : Nat → Int} (h : ∀ j, j < n → x j = y j) : arV n k x = arV n k y := by
  show Value.agg _ = Value.agg _
  congr 1
  apply Array.ext (by rw [Kc.size_vec, Kc.size_vec])
  intro i h1 h2
  have g1 := Kc.get_vec n (fun j => Value.int k (x j)) i (by rw [Kc.size_vec] at h1; exact h1)
  have g2 := Kc.get_vec n (fun j => Value.int k (y j)) i (by rw [Kc.size_vec] at h2; exact h2)
  rw [Array.getElem?_eq_getElem h1] at g1
  rw [Array.getElem?_eq_getElem h2] at g2
  rw [Option.some.inj g1, Option.some.inj g2, h i (by rw [Kc.size_vec] at h1; exact h1)]
theorem findA_some {n : Nat} {x : Nat → Int} : ∀ {l : List ((Nat → Int) × Value × Nat)} {s i : Nat} {v : Value}, findA n x l s = some (i, v) → ∃ y b, s ≤ i ∧ l[i - s]? = some (y, v, b) ∧ ∀ j, j < n → x j = y j
  | [], s, i, v, h => by simp [findA] at h
  | (y, u, b) :: r, s, i, v, h => by
    unfold findA at h
    by_cases hc : ∀ j, j < n → x j = y j
    · rw [if_pos hc] at h
      cases h
      exact ⟨y, b, Nat.le_refl _, by simp, hc⟩
    · rw [if_neg hc] at h
      obtain ⟨y', b', h1, h2, h3⟩ := findA_some h
      refine ⟨y', b', by omega, ?_, h3⟩
      rw [show i - s = (i - (s + 1)) + 1 from by omega]
      simpa using h2
/-- m[k] = v, of a key that is there. -/
theorem run_update_old {P : Program} {w : World} (T K V e n : Nat) (k : IntKind) (hT : P.underlying T = some (.map K V)) (ht : P.underlying K = some (.array n e)) (hs : ∀ w, (sizeOf e).run P w = .ok 1 w) (ha : ∀ w, (isAgg e).run P w = .ok false w) (he : P.underlying e = some (.int k))
    {m clock : Nat} (l : List ((Nat → Int) × Value × Nat)) (hm : w.heap[m]? = some (.map (entA n k l).toArray clock)) (x : Nat → Int) (v : Value) {i : Nat} {u : Value} (hx : findA n x l 0 = some (i, u)) :
    (Instr.mapUpdate T (.map (some m)) (arV n k x) v).run P w = .ok () (w.putObj m (.map (entA n k (l.modify i fun q => (x, v, q.2.2))).toArray clock)) := by
  have hf := find_arr K e n k ht hs ha he x l w
  have hgo : (getObj m).run P w = .ok (.map (entA n k l).toArray clock) w := by simp [getObj, Sem.run, hm]
  have hso : ∀ o : Obj, (setObj m o).run P w = .ok () (w.putObj m o) := fun o => by simp [setObj, Sem.run, hm, World.putObj]
  obtain ⟨y, b, _, hl, hy⟩ := findA_some hx
  rw [Nat.sub_zero] at hl
  have hk : (((entA n k l).toArray[i]?).map (·.key)).getD (arV n k x) = arV n k x := by
    rw [List.getElem?_toArray]
    unfold entA
    rw [List.getElem?_map, hl]
    exact (arV_congr hy).symm
  have hst : (Instr.keyThatStays (arV n k x) (arV n k x)).run P w = .ok (arV n k x) w := by
    unfold Instr.keyThatStays
    rw [same_arr]
    simp
  unfold Instr.mapUpdate
  simp only [Sem.run_bind, run_underlying hT, Result.andThen_ok, hgo, Sem.run_pure, check_arr _ K e n k ht hs ha he x w, hf, List.toList_toArray, hx, hk, hst]
  rw [hso]
  congr 3
  apply Array.ext'
  apply List.ext_getElem?
  intro j
  simp only [Array.toList_modify, entA, List.getElem?_modify, List.getElem?_map]
  cases h : l[j]? with
  | none => simp [h]
  | some q => by_cases e : i = j <;> simp [h, e]
end Go.Proofs.YtboeokmaepchgaaGreatDoor
