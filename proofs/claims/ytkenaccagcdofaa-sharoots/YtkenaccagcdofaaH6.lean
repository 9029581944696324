/- sha: held, byteOf, putBits, bytesOf; K and H. -/
import Derived.Test.YtkenaccagcdofaaH5
namespace Go.Proofs.Ytkenaccagcdofaa
open Go.RowKit Go.Shelf
set_option linter.unusedSimpArgs false
set_option linter.unusedVariables false

/-- A Hasher's cells: the state, the part, the number of bytes. -/
def has (S : Nat → BitVec 64) (p : Nat → BitVec 8) (n : Nat) : Nat → Value := fun j => if j < 8 then .int .u64 (I (S j)) else if j < 136 then .int .u8 (I8 (p (j - 8))) else .int .u64 (n : Int)
theorem has_state {S : Nat → BitVec 64} {p : Nat → BitVec 8} {h j : Nat} (hj : j < 8) : has S p h j = .int .u64 (I (S j)) := by unfold has; rw [if_pos hj]
theorem has_part {S : Nat → BitVec 64} {p : Nat → BitVec 8} {h i : Nat} (hi : i < 128) : has S p h (8 + i) = .int .u8 (I8 (p i)) := by unfold has; rw [if_neg (by omega), if_pos (by omega), Nat.add_sub_cancel_left]
theorem has_held {S : Nat → BitVec 64} {p : Nat → BitVec 8} {h : Nat} : has S p h 136 = .int .u64 (h : Int) := by unfold has; rw [if_neg (by omega), if_neg (by omega)]
theorem has_one (S : Nat → BitVec 64) (p : Nat → BitVec 8) (h j : Nat) : (has S p h j).oneCell' = true := by
  unfold has; split
  · rfl
  · split <;> rfl
/-- The state behind k blocks of a message. -/
def stAfter (msg : Nat → BitVec 8) : Nat → Nat → BitVec 64
  | 0 => HH
  | k + 1 => beh KK (stAfter msg k) (fun i => msg (128 * k + i))
theorem wdTo_congr {p q : Nat → BitVec 8} : ∀ k, (∀ i, i < k → p i = q i) → wdTo p k = wdTo q k
  | 0, _ => rfl
  | k + 1, h => by
    unfold wdTo
    rw [wdTo_congr k (fun i hi => h i (by omega)), h k (by omega)]
theorem beh_congr {K s : Nat → BitVec 64} {p q : Nat → BitVec 8} (h : ∀ i, i < 128 → p i = q i) : beh K s p = beh K s q := by
  unfold beh; rw [wdTo_congr 128 h]
theorem stAfter_congr {m m' : Nat → BitVec 8} : ∀ k, (∀ i, i < 128 * k → m i = m' i) → stAfter m k = stAfter m' k
  | 0, _ => rfl
  | k + 1, h => by
    unfold stAfter
    rw [stAfter_congr k (fun i hi => h i (by omega)), beh_congr (fun i hi => h (128 * k + i) (by omega))]
/-- In block hb stands a Hasher into which the first n bytes of the message were written. -/
def HasIn (W : World) (hb : Nat) (msg : Nat → BitVec 8) (n : Nat) : Prop :=
  ∃ p : Nat → BitVec 8, W.rowIs hb 52 137 (has (stAfter msg (n / 128)) p n) ∧ ∀ i, i < n % 128 → p i = msg (128 * (n / 128) + i)
theorem HasIn.congr {W : World} {hb n : Nat} {m m' : Nat → BitVec 8} (h : HasIn W hb m n) (e : ∀ i, i < n → m i = m' i) : HasIn W hb m' n := by
  obtain ⟨p, hr, hp⟩ := h
  refine ⟨p, ?_, fun i hi => (hp i hi).trans (e _ (by omega))⟩
  rw [← stAfter_congr (n / 128) (fun i hi => e i (by omega))]
  exact hr
/-- (*Hasher).held -/
theorem held_any (hb n : Nat) (hn : n < 18446744073709551616) (w : World) (hc : w.cell? ⟨hb, 136, none⟩ = some (.int .u64 (n : Int))) :
    Calls Try.prog 25 #[.pointer (some ⟨hb, 0, none⟩)] w fun e w' => e = .returned (.int .i64 ((n % 128 : Nat) : Int)) ∧ w' = w := by
  go_enter Try.func25, Try.ntmps25
  go_wp2
  go_ret
  exact ⟨rfl, rfl⟩
/-- Byte i of a word, counted from the highest. -/
def bof (x : BitVec 64) (i : Nat) : BitVec 8 := (x >>> (8 * (7 - i))).setWidth 8
theorem bof_val (x : BitVec 64) (i : Nat) : IntKind.u8.wrap (I x / 2 ^ (8 * (7 - i))) = I8 (bof x i) := by
  rw [I_shr, IntKind.wrap_u8']
  unfold I8 I bof
  rw [BitVec.toNat_setWidth]
  omega
theorem byteOf_any (x : BitVec 64) (i : Nat) (hi : i < 8) (w : World) :
    Calls Try.prog 37 #[.int .u64 (I x), .int .i64 (i : Int)] w fun e w' => e = .returned (.int .u8 (I8 (bof x i))) ∧ w' = w := by
  have h1 : (8 * (7 - (i : Int))).toNat = 8 * (7 - i) := by omega
  have hv := bof_val x i
  have HV : Hid _ := hv
  clear hv
  go_enter Try.func37, Try.ntmps37
  go_wp2
  go_ret
  refine ⟨?_, rfl⟩
  rw [← HV.out, IntKind.wrap_u8']
  rfl
/-- The bytes of a state, the highest of each word first. -/
def outb (S : Nat → BitVec 64) (i : Nat) : BitVec 8 := bof (S (i / 8)) (i % 8)
def outTo (S : Nat → BitVec 64) (k i : Nat) : BitVec 8 := if i < k then outb S i else 0
theorem out_row {S : Nat → BitVec 64} {k b t : Nat} {w : World} (hk : k < 64) (h : w.rowIs b t 64 (byt (outTo S k))) {v : Value} (hv : v = .int .u8 (I8 (outb S k))) :
    (w.setCell ⟨b, k, none⟩ v).rowIs b t 64 (byt (outTo S (k + 1))) := by
  refine (h.set _ _).congr ?_
  intro i hi
  subst hv
  simp only [byt, outTo]
  by_cases e : i = k
  · subst e; rw [if_pos rfl, if_pos (by omega)]
  · rw [if_neg e]
    by_cases hl : i < k
    · rw [if_pos hl, if_pos (by omega)]
    · rw [if_neg hl, if_neg (by omega)]
def FiIn (S : Nat → BitVec 64) (k : Nat) (w wr : World) : Prop :=
  wr.rowIs w.heap.size 38 8 (lan S) ∧ wr.rowIs (w.heap.size + 1) 23 64 (byt fun _ => 0#8) ∧ wr.rowIs (w.heap.size + 2) 23 64 (byt (outTo S k)) ∧ Below w.heap.size w wr
theorem fi_start (S : Nat → BitVec 64) (w : World) : FiIn S 0 w (((w.alloc (.cells (vec 8 (lan S)) 38)).alloc (.cells (vec 64 (byt fun _ => 0#8)) 23)).alloc (.cells (vec 64 (byt fun _ => 0#8)) 23)) :=
  ⟨heap_row (heap1of3 _ _ _ _), heap_row (heap2of3 _ _ _ _), (heap_row (heap3of3 _ _ _ _)).congr (fun i _ => by simp [byt, outTo]), by go_grown⟩
theorem FiIn.step {S : Nat → BitVec 64} {k : Nat} {w w1 : World} (hk : k < 64) (h : FiIn S k w w1) {v : Value} (hv : v = .int .u8 (I8 (outb S k))) : FiIn S (k + 1) w (w1.setCell ⟨w.heap.size + 2, k, none⟩ v) :=
  ⟨h.1.setOther (by show w.heap.size ≠ w.heap.size + 2; omega) _, h.2.1.setOther (by show w.heap.size + 1 ≠ w.heap.size + 2; omega) _, out_row hk h.2.2.1 hv, h.2.2.2.setCell (by show w.heap.size ≤ w.heap.size + 2; omega) _⟩
set_option maxRecDepth 20000 in
set_option maxHeartbeats 1000000 in
/-- sha.bytesOf -/
theorem bytesOf_any (S : Nat → BitVec 64) (w : World) :
    Calls Try.prog 28 #[.agg (vec 8 (lan S))] w fun e w' => e = .returned (.agg (vec 64 (byt (outb S)))) ∧ Below w.heap.size w w' := by
  have HS : Hid _ := fi_start S w
  have hz := (zero_of_info zero23).1
  go_enter Try.func28, Try.ntmps28
  go_wp2
  go_loopw [5] (fun i wr => ∃ k : Nat, k ≤ 64 ∧ i = .int .i64 (k : Int) ∧ FiIn S k w wr) (fun i _ => 64 - (intOf i).toNat)
  case atStart => exact ⟨0, by omega, rfl, HS.out⟩
  case round =>
    obtain ⟨k, hk, rfl, hin⟩ := hrel
    clear HS hz
    by_cases hlt : k < 64
    · have c0 : wr.cell? ⟨w.heap.size, k / 8, none⟩ = some (.int .u64 (I (S (k / 8)))) := hin.1.cell (by omega)
      obtain ⟨u, cu⟩ : ∃ u, wr.cell? ⟨w.heap.size + 1 + 1, k, none⟩ = some u := ⟨_, hin.2.2.1.cell hlt⟩
      have f0 : wr.frozen? ⟨w.heap.size + 1 + 1, k, none⟩ = false := hin.2.2.1.frozen _
      have H1 : Hid (FiIn S k w wr) := hin
      clear hin
      go_wp2_with (go_at_call 37; refine (byteOf_any (S (k / 8)) (k % 8) (by omega) _).mono ?_; rintro e w' ⟨rfl, hs⟩; obtain rfl := hs.symm)
      go_roundw
      case rel => exact ⟨k + 1, by omega, by go_num, H1.out.step hlt rfl⟩
      case measure => simp [intOf]; omega
    · have : k = 64 := by omega
      subst this
      go_wp2_with (first | (refine wpList_load_row rfl 23 _ rfl (w.heap.size + 2) rfl 23 _ (0, 0) _ (row_heap hin.2.2.1) Try.underlying23 rfl (info23v _) ?_) | (refine wpList_store_row rfl 23 _ _ rfl (w.heap.size + 1) _ rfl rfl 23 _ (row_heap hin.2.1) (info23v _) (by simp) (one_byt _ _) ?_))
      refine bodyPost_ret (results_cell_row rfl _ _ _ _ _ _ _ rfl (setRow_heap _ _ _ _ _ _ (row_heap hin.2.1)) Try.underlying23 rfl (info23v _)) rfl ⟨?_, ?_⟩
      · rw [vec_congr (g := byt (outb S)) (fun i hi => by simp only [byt, outTo]; rw [if_pos hi])]
      · exact ((Only.refl _ _).setRow _).below hin.2.2.2 (by omega)
/-- The number of bits, put at a block's end: k bytes of each half. -/
def putTo (p : Nat → BitVec 8) (x : BitVec 64) (k i : Nat) : BitVec 8 := if 112 ≤ i ∧ i < 112 + k then bof (x >>> 61) (i - 112) else if 120 ≤ i ∧ i < 120 + k then bof (x <<< 3) (i - 120) else p i
theorem put_row {p : Nat → BitVec 8} {x : BitVec 64} {k g t : Nat} {w : World} (hk : k < 8) (h : w.rowIs g t 128 (byt (putTo p x k))) {v u : Value} (hv : v = .int .u8 (I8 (bof (x >>> 61) k))) (hu : u = .int .u8 (I8 (bof (x <<< 3) k))) :
    ((w.setCell ⟨g, 112 + k, none⟩ v).setCell ⟨g, 120 + k, none⟩ u).rowIs g t 128 (byt (putTo p x (k + 1))) := by
  refine ((h.set _ _).set _ _).congr ?_
  intro i hi
  subst hv hu
  simp only [byt, putTo]
  by_cases e : i = 120 + k
  · subst e; rw [if_pos rfl, if_neg (by omega), if_pos (by omega), Nat.add_sub_cancel_left]
  · rw [if_neg e]
    by_cases e2 : i = 112 + k
    · subst e2; rw [if_pos rfl, if_pos (by omega), Nat.add_sub_cancel_left]
    · rw [if_neg e2]
      by_cases h1 : 112 ≤ i ∧ i < 112 + k
      · rw [if_pos h1, if_pos (show 112 ≤ i ∧ i < 112 + (k + 1) by omega)]
      · rw [if_neg h1, if_neg (show ¬ (112 ≤ i ∧ i < 112 + (k + 1)) by omega)]
        by_cases h2 : 120 ≤ i ∧ i < 120 + k
        · rw [if_pos h2, if_pos (show 120 ≤ i ∧ i < 120 + (k + 1) by omega)]
        · rw [if_neg h2, if_neg (show ¬ (120 ≤ i ∧ i < 120 + (k + 1)) by omega)]
set_option maxRecDepth 20000 in
set_option maxHeartbeats 1000000 in
/-- sha.putBits -/
theorem putBits_any (p : Nat → BitVec 8) (x : BitVec 64) (g : Nat) (w : World) (hr : w.rowIs g 50 128 (byt p)) :
    Calls Try.prog 27 #[.pointer (some ⟨g, 0, none⟩), .int .u64 (I x)] w fun e w' => e = .returned (.tuple #[]) ∧ w'.rowIs g 50 128 (byt (putTo p x 8)) ∧ Only g w w' := by
  have e1 : I x / (2305843009213693952 : Int) = I (x >>> 61) := by rw [← I_shr]; rfl
  have e2 : IntKind.u64.wrap (I x * 8) = I (x <<< 3) := by rw [← I_shl]; rfl
  have HR : Hid (w.rowIs g 50 128 (byt p)) := hr
  clear hr
  go_enter Try.func27, Try.ntmps27
  go_wp2
  go_loopw [11] (fun i wr => ∃ k : Nat, k ≤ 8 ∧ i = .int .i64 (k : Int) ∧ wr.rowIs g 50 128 (byt (putTo p x k)) ∧ Only g w wr) (fun i _ => 8 - (intOf i).toNat)
  case atStart => exact ⟨0, by omega, rfl, HR.out.congr (fun i _ => by simp only [byt, putTo]; rw [if_neg (by omega), if_neg (by omega)]), Only.refl _ _⟩
  case round =>
    obtain ⟨k, hk, rfl, hrow, hon⟩ := hrel
    clear HR
    by_cases hlt : k < 8
    · have a1 : IntKind.i64.wrap (112 + (k : Int)) = ((112 + k : Nat) : Int) := by rw [IntKind.wrap_i64]; omega
      obtain ⟨u, cu⟩ : ∃ u, wr.cell? ⟨g, 112 + k, none⟩ = some u := ⟨_, hrow.cell (by omega)⟩
      obtain ⟨u2, cu2⟩ : ∃ u, wr.cell? ⟨g, 120 + k, none⟩ = some u := ⟨_, hrow.cell (by omega)⟩
      have f0 := hrow.frozen
      have H1 : Hid (wr.rowIs g 50 128 (byt (putTo p x k)) ∧ Only g w wr) := ⟨hrow, hon⟩
      clear hrow hon a1
      have b1 : (0 : Int) ≤ 112 + (k : Int) := by omega
      have b2 : 112 + (k : Int) < 128 := by omega
      have b3 : (112 + (k : Int)).toNat = 112 + k := by omega
      have b4 : (0 : Int) ≤ 120 + (k : Int) := by omega
      have b5 : 120 + (k : Int) < 128 := by omega
      have b6 : (120 + (k : Int)).toNat = 120 + k := by omega
      go_wp2
      refine wp_region_held_drew (S := fun w' => w'.frozen? ⟨g, 112 + k, none⟩ = false ∧ ∃ u, w'.cell? ⟨g, 112 + k, none⟩ = some u) (by kernel_rfl) (⟨f0 _, _, cu⟩) (fun hHeld => ?_)
      refine wpAnyH_take (i := 0) (v := .pointer (some ⟨g, 0, none⟩)) rfl (by kernel_rfl) (by kernel_rfl) (by kernel_rfl) (fun _ _ _ h => h) (Or.inl ⟨by rfl, fun w9 hSw => ?_⟩) hHeld ?_
      · go_simp
      simp only [List.getElem_toArray, List.getElem_cons_succ, List.getElem_cons_zero, Act.put, List.setIfInBounds_toArray, List.set_cons_zero, List.set_cons_succ]
      refine wpAnyH_take (i := 1) (v := .int .i64 (k : Int)) rfl (by kernel_rfl) (by kernel_rfl) (by kernel_rfl) (fun _ _ _ h => h) (Or.inl ⟨by rfl, fun w9 hSw => ?_⟩) hHeld ?_
      · go_simp
      simp only [List.getElem_toArray, List.getElem_cons_succ, List.getElem_cons_zero, Act.put, List.setIfInBounds_toArray, List.set_cons_zero, List.set_cons_succ]
      refine wpAnyH_take (i := 2) (v := .int .i64 (112 + (k : Int))) rfl (by kernel_rfl) (by kernel_rfl) (by kernel_rfl) (fun _ _ _ h => h) (Or.inl ⟨by rfl, fun w9 hSw => ?_⟩) hHeld ?_
      · have a1 : IntKind.i64.wrap (112 + (k : Int)) = 112 + (k : Int) := by rw [IntKind.wrap_i64]; omega
        go_simp
      simp only [List.getElem_toArray, List.getElem_cons_succ, List.getElem_cons_zero, Act.put, List.setIfInBounds_toArray, List.set_cons_zero, List.set_cons_succ]
      refine wpAnyH_take (i := 3) (v := .int .u64 (I (x >>> 61))) rfl (by kernel_rfl) (by kernel_rfl) (by kernel_rfl) (fun _ _ _ h => h) (Or.inl ⟨by rfl, fun w9 hSw => ?_⟩) hHeld ?_
      · go_simp
      simp only [List.getElem_toArray, List.getElem_cons_succ, List.getElem_cons_zero, Act.put, List.setIfInBounds_toArray, List.set_cons_zero, List.set_cons_succ]
      refine wpAnyH_take (i := 4) (v := .int .i64 (k : Int)) rfl (by kernel_rfl) (by kernel_rfl) (by kernel_rfl) (fun _ _ _ h => h) (Or.inl ⟨by rfl, fun w9 hSw => ?_⟩) hHeld ?_
      · go_simp
      simp only [List.getElem_toArray, List.getElem_cons_succ, List.getElem_cons_zero, Act.put, List.setIfInBounds_toArray, List.set_cons_zero, List.set_cons_succ]
      refine wpAnyH_take (i := 6) (v := .pointer (some ⟨g, 0, none⟩)) rfl (by kernel_rfl) (by kernel_rfl) (by kernel_rfl) (fun _ _ _ h => h) (Or.inl ⟨by rfl, fun w9 hSw => ?_⟩) hHeld ?_
      · go_simp
      simp only [List.getElem_toArray, List.getElem_cons_succ, List.getElem_cons_zero, Act.put, List.setIfInBounds_toArray, List.set_cons_zero, List.set_cons_succ]
      refine wpAnyH_ready (rs := [5]) (by kernel_rfl) (by simp) ?_
      refine AllReadyH.cons rfl (fun K hK => ?_) AllReadyH.nil
      go_simp
      refine (byteOf_any (x >>> 61) k hlt _).mono ?_
      rintro e w' ⟨rfl, hs⟩
      obtain rfl := hs.symm
      go_wp2_with fail
      refine hK.out _ _ ?_ (fun hHeld => ?_)
      · exact hHeld
      clear hK K
      try simp only [List.getElem_toArray, List.getElem_cons_succ, List.getElem_cons_zero, Act.put, List.setIfInBounds_toArray, List.set_cons_zero, List.set_cons_succ]
      refine wpAnyH_take (i := 7) (v := .pointer (some ⟨g, 112 + k, none⟩)) rfl (by kernel_rfl) (by kernel_rfl) (by kernel_rfl) (fun _ _ _ h => h) (Or.inl ⟨by rfl, fun w9 hSw => ?_⟩) hHeld ?_
      · go_simp
      simp only [List.getElem_toArray, List.getElem_cons_succ, List.getElem_cons_zero, Act.put, List.setIfInBounds_toArray, List.set_cons_zero, List.set_cons_succ]
      refine wpAnyH_ready (rs := [8]) (by kernel_rfl) (by simp) ?_
      refine AllReadyH.cons rfl (fun K hK => ?_) AllReadyH.nil
      obtain ⟨hf, u, hu⟩ := hHeld
      go_simp
      refine hK.out _ _ ?_ (fun hHeld => ?_)
      · exact ⟨by simpa using hf, _, World.cell?_setCell_same _ _ _ hu⟩
      clear hK K
      try simp only [List.getElem_toArray, List.getElem_cons_succ, List.getElem_cons_zero, Act.put, List.setIfInBounds_toArray, List.set_cons_zero, List.set_cons_succ]
      refine wpAnyH_done (by kernel_rfl) ?_ _
      clear hHeld hf hu u
      have f1 : ∀ i, ((wr.setCell ⟨g, 112 + k, none⟩ (.int .u8 (I8 (bof (x >>> 61) k)))).drew).frozen? ⟨g, i, none⟩ = false := fun i => by simpa using f0 i
      have cu3 : ∃ u, ((wr.setCell ⟨g, 112 + k, none⟩ (.int .u8 (I8 (bof (x >>> 61) k)))).drew).cell? ⟨g, 120 + k, none⟩ = some u := ⟨_, ((H1.out.1.set _ _).drew).cell (by omega)⟩
      clear f0 cu cu2
      go_wp2
      refine wp_region_held_drew (S := fun w' => w'.frozen? ⟨g, 120 + k, none⟩ = false ∧ ∃ u, w'.cell? ⟨g, 120 + k, none⟩ = some u) (by kernel_rfl) (⟨f1 _, cu3⟩) (fun hHeld => ?_)
      refine wpAnyH_take (i := 0) (v := .pointer (some ⟨g, 0, none⟩)) rfl (by kernel_rfl) (by kernel_rfl) (by kernel_rfl) (fun _ _ _ h => h) (Or.inl ⟨by rfl, fun w9 hSw => ?_⟩) hHeld ?_
      · go_simp
      simp only [List.getElem_toArray, List.getElem_cons_succ, List.getElem_cons_zero, Act.put, List.setIfInBounds_toArray, List.set_cons_zero, List.set_cons_succ]
      refine wpAnyH_take (i := 1) (v := .int .i64 (k : Int)) rfl (by kernel_rfl) (by kernel_rfl) (by kernel_rfl) (fun _ _ _ h => h) (Or.inl ⟨by rfl, fun w9 hSw => ?_⟩) hHeld ?_
      · go_simp
      simp only [List.getElem_toArray, List.getElem_cons_succ, List.getElem_cons_zero, Act.put, List.setIfInBounds_toArray, List.set_cons_zero, List.set_cons_succ]
      refine wpAnyH_take (i := 2) (v := .int .i64 (120 + (k : Int))) rfl (by kernel_rfl) (by kernel_rfl) (by kernel_rfl) (fun _ _ _ h => h) (Or.inl ⟨by rfl, fun w9 hSw => ?_⟩) hHeld ?_
      · have a1 : IntKind.i64.wrap (120 + (k : Int)) = 120 + (k : Int) := by rw [IntKind.wrap_i64]; omega
        go_simp
      simp only [List.getElem_toArray, List.getElem_cons_succ, List.getElem_cons_zero, Act.put, List.setIfInBounds_toArray, List.set_cons_zero, List.set_cons_succ]
      refine wpAnyH_take (i := 3) (v := .int .u64 (I (x <<< 3))) rfl (by kernel_rfl) (by kernel_rfl) (by kernel_rfl) (fun _ _ _ h => h) (Or.inl ⟨by rfl, fun w9 hSw => ?_⟩) hHeld ?_
      · go_simp
      simp only [List.getElem_toArray, List.getElem_cons_succ, List.getElem_cons_zero, Act.put, List.setIfInBounds_toArray, List.set_cons_zero, List.set_cons_succ]
      refine wpAnyH_take (i := 4) (v := .int .i64 (k : Int)) rfl (by kernel_rfl) (by kernel_rfl) (by kernel_rfl) (fun _ _ _ h => h) (Or.inl ⟨by rfl, fun w9 hSw => ?_⟩) hHeld ?_
      · go_simp
      simp only [List.getElem_toArray, List.getElem_cons_succ, List.getElem_cons_zero, Act.put, List.setIfInBounds_toArray, List.set_cons_zero, List.set_cons_succ]
      refine wpAnyH_take (i := 6) (v := .pointer (some ⟨g, 0, none⟩)) rfl (by kernel_rfl) (by kernel_rfl) (by kernel_rfl) (fun _ _ _ h => h) (Or.inl ⟨by rfl, fun w9 hSw => ?_⟩) hHeld ?_
      · go_simp
      simp only [List.getElem_toArray, List.getElem_cons_succ, List.getElem_cons_zero, Act.put, List.setIfInBounds_toArray, List.set_cons_zero, List.set_cons_succ]
      refine wpAnyH_ready (rs := [5]) (by kernel_rfl) (by simp) ?_
      refine AllReadyH.cons rfl (fun K hK => ?_) AllReadyH.nil
      go_simp
      refine (byteOf_any (x <<< 3) k hlt _).mono ?_
      rintro e w' ⟨rfl, hs⟩
      obtain rfl := hs.symm
      go_wp2_with fail
      refine hK.out _ _ ?_ (fun hHeld => ?_)
      · exact hHeld
      clear hK K
      try simp only [List.getElem_toArray, List.getElem_cons_succ, List.getElem_cons_zero, Act.put, List.setIfInBounds_toArray, List.set_cons_zero, List.set_cons_succ]
      refine wpAnyH_take (i := 7) (v := .pointer (some ⟨g, 120 + k, none⟩)) rfl (by kernel_rfl) (by kernel_rfl) (by kernel_rfl) (fun _ _ _ h => h) (Or.inl ⟨by rfl, fun w9 hSw => ?_⟩) hHeld ?_
      · go_simp
      simp only [List.getElem_toArray, List.getElem_cons_succ, List.getElem_cons_zero, Act.put, List.setIfInBounds_toArray, List.set_cons_zero, List.set_cons_succ]
      refine wpAnyH_ready (rs := [8]) (by kernel_rfl) (by simp) ?_
      refine AllReadyH.cons rfl (fun K hK => ?_) AllReadyH.nil
      obtain ⟨hf, u, hu⟩ := hHeld
      go_simp
      refine hK.out _ _ ?_ (fun hHeld => ?_)
      · exact ⟨by simpa using hf, _, World.cell?_setCell_same _ _ _ hu⟩
      clear hK K
      try simp only [List.getElem_toArray, List.getElem_cons_succ, List.getElem_cons_zero, Act.put, List.setIfInBounds_toArray, List.set_cons_zero, List.set_cons_succ]
      refine wpAnyH_done (by kernel_rfl) ?_ _
      clear hHeld hf hu u
      go_wp2
      go_roundw
      case rel => exact ⟨k + 1, by omega, by go_num, (put_row hlt H1.out.1 rfl rfl).drew.drew, ((H1.out.2.setCell _ _).setCell _ _).drew.drew⟩
      case measure => simp [intOf]; omega
    · have : k = 8 := by omega
      subst this
      go_wp2
      go_returns
      exact ⟨rfl, hrow, hon⟩
end Go.Proofs.Ytkenaccagcdofaa
