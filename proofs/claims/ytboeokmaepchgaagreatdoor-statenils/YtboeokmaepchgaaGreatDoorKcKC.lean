/- keccak.absorb, keccak.first. -/
import Derived.Test.YtboeokmaepchgaaGreatDoorKcKA
namespace Go.Proofs.YtboeokmaepchgaaGreatDoor.Kc
open Go.RowKit Go.Shelf
set_option linter.unusedSimpArgs false
set_option linter.unusedVariables false

/-- A byte as a number. -/
def I8 (x : BitVec 8) : Int := (x.toNat : Int)
theorem I8_bd (x : BitVec 8) : 0 ≤ I8 x ∧ I8 x < 256 := by
  unfold I8; have := x.isLt; omega
abbrev byt (p : Nat → BitVec 8) : Nat → Value := fun j => .int .u8 (I8 (p j))
theorem one_byt (n : Nat) (p : Nat → BitVec 8) : (vec n (byt p)).all (·.oneCell') = true := by
  rw [Array.all_eq_true]
  intro i hi
  simp [vec, Value.oneCell']
theorem info54v (f : Nat → Value) : (Tryz.prog.info? 202).map (·.size) = some (vec 136 f).size := by rw [size_vec]; kernel_rfl
theorem info29v (f : Nat → Value) : (Tryz.prog.info? 33).map (·.size) = some (vec 32 f).size := by rw [size_vec]; kernel_rfl
theorem zero32 : (#[.int .u8 0, .int .u8 0, .int .u8 0, .int .u8 0, .int .u8 0, .int .u8 0, .int .u8 0, .int .u8 0, .int .u8 0, .int .u8 0, .int .u8 0, .int .u8 0, .int .u8 0, .int .u8 0, .int .u8 0, .int .u8 0, .int .u8 0, .int .u8 0, .int .u8 0, .int .u8 0, .int .u8 0, .int .u8 0, .int .u8 0, .int .u8 0, .int .u8 0, .int .u8 0, .int .u8 0, .int .u8 0, .int .u8 0, .int .u8 0, .int .u8 0, .int .u8 0] : Array Value) = vec 32 (byt fun _ => 0) := by kernel_rfl

/-- The lanes with the first k bytes of a block xored in. -/
def absTo (S : Nat → BitVec 64) (p : Nat → BitVec 8) : Nat → Nat → BitVec 64
  | 0 => S
  | k + 1 => fun j => if j = k / 8 then absTo S p k j ^^^ ((p k).setWidth 64 <<< (8 * (k % 8))) else absTo S p k j
theorem I_byte (x : BitVec 8) : I8 x = I (x.setWidth 64) := by
  unfold I8 I; rw [BitVec.toNat_setWidth]; have := x.isLt; congr 1; omega
theorem abs_val (a : BitVec 64) (x : BitVec 8) (k : Nat) : bits .xor .u64 (I a) (IntKind.u64.wrap (I8 x * 2 ^ (k % 8 * 8))) = I (a ^^^ (x.setWidth 64 <<< (8 * (k % 8)))) := by
  rw [I_byte, I_shl, bx, Nat.mul_comm]
theorem abs_row {S : Nat → BitVec 64} {p : Nat → BitVec 8} {k b t : Nat} {w : World} (h : w.rowIs b t 25 (lan (absTo S p k))) {v : Value} (hv : v = .int .u64 (I (absTo S p k (k / 8) ^^^ ((p k).setWidth 64 <<< (8 * (k % 8)))))) :
    (w.setCell ⟨b, k / 8, none⟩ v).rowIs b t 25 (lan (absTo S p (k + 1))) := by
  refine (h.set _ _).congr ?_
  intro i hi
  subst hv
  simp only [lan, absTo]
  by_cases e : i = k / 8
  · subst e; rw [if_pos rfl, if_pos rfl]
  · rw [if_neg e, if_neg e]
/-- The worlds of absorb's loop. -/
def AbIn (R : Nat → BitVec 64) (w wr : World) : Prop :=
  wr.rowIs w.heap.size 201 25 (lan R) ∧ wr.rowIs (w.heap.size + 2) 201 25 (lan fun _ => 0) ∧ Below w.heap.size w wr
theorem ab_start (S : Nat → BitVec 64) (p : Nat → BitVec 8) (w : World) : AbIn S w (((w.alloc (.cells (vec 25 (lan S)) 201)).alloc (.cells (vec 136 (byt p)) 202)).alloc (.cells (vec 25 (lan fun _ => 0)) 201)) := by
  have h2 := heap_row (heap_alloc_new ((w.alloc (.cells (vec 25 (lan S)) 201)).alloc (.cells (vec 136 (byt p)) 202)) (.cells (vec 25 (lan fun _ => 0)) 201))
  have h0 := heap_row (heap_alloc_new w (.cells (vec 25 (lan S)) 201))
  refine ⟨(h0.alloc _).alloc _, ?_, by go_grown⟩
  have : (((w.alloc (.cells (vec 25 (lan S)) 201)).alloc (.cells (vec 136 (byt p)) 202)).heap.size) = w.heap.size + 2 := by simp
  rw [this] at h2
  exact h2
theorem AbIn.step {R R' : Nat → BitVec 64} {w w1 w2 : World} (h : AbIn R w w1) (hr : w2.rowIs w.heap.size 201 25 (lan R')) (o : Only w.heap.size w1 w2) : AbIn R' w w2 :=
  ⟨hr, o.row (by omega) h.2.1, o.below h.2.2 (by omega)⟩
theorem AbIn.more {R : Nat → BitVec 64} {w w1 w2 : World} (h : AbIn R w w1) (o : Below w1.heap.size w1 w2) : AbIn R w w2 :=
  ⟨h.1.of_block (o.block _ h.1.lt), h.2.1.of_block (o.block _ h.2.1.lt), h.2.2.trans (o.mono h.2.2.size)⟩
theorem heap2 (w : World) (A B C : Obj) : (((w.alloc A).alloc B).alloc C).heap[w.heap.size + 1]? = some B := by
  have h := heap_alloc_old ((w.alloc A).alloc B) C (w.heap.size + 1) (by simp)
  rw [h]
  exact heap_alloc2_new w A B
set_option maxRecDepth 20000 in
set_option maxHeartbeats 1000000 in
/-- keccak.absorb -/
theorem absorb_any (S : Nat → BitVec 64) (p : Nat → BitVec 8) (w : World) (hp : PathIn w) :
    Calls Tryz.prog 129 #[.agg (vec 25 (lan S)), .agg (vec 136 (byt p))] w fun e w' => e = .returned (.agg (vec 25 (lan (permute RCs (absTo S p 136))))) ∧ Below w.heap.size w w' := by
  have hix := run_index_vec (P := Tryz.prog) 202 5 136 (fun w => run_underlying Tryz.underlying202 w) Tryz.sizeOf5 Tryz.isAgg5 (byt p)
  have H0 : Hid (PathIn w ∧ 1 < w.heap.size) := ⟨hp, pathIn_pos hp⟩
  have HS : Hid _ := ab_start S p w
  clear hp
  go_enter Tryz.func129, Tryz.ntmps129
  go_wp2_with (first | (refine wpList_load_row rfl 202 _ rfl (w.heap.size + 1) rfl 202 _ (0, 0) _ (heap2 _ _ _ _) Tryz.underlying202 rfl (info54v _) ?_))
  rw [zero25]
  go_loopw [8] (fun i wr => ∃ k : Nat, k ≤ 136 ∧ i = .int .i64 (k : Int) ∧ AbIn (absTo S p k) w wr) (fun i _ => 136 - (intOf i).toNat)
  case atStart => exact ⟨0, by omega, rfl, HS.out⟩
  case round =>
    obtain ⟨k, hk, rfl, hin⟩ := hrel
    clear HS
    by_cases hlt : k < 136
    · have hik := hix k hlt
      have hbd := I8_bd (p k)
      have c0 : wr.cell? ⟨w.heap.size, k / 8, none⟩ = some (.int .u64 (I (absTo S p k (k / 8)))) := hin.1.cell (by omega)
      have f0 : wr.frozen? ⟨w.heap.size, k / 8, none⟩ = false := hin.1.frozen _
      have H1 : Hid (AbIn (absTo S p k) w wr) := hin
      clear hix hin
      obtain ⟨hb0, hb1⟩ := hbd
      go_wp2
      go_region
      go_wp2
      go_roundw
      case rel => exact ⟨k + 1, by omega, by go_num, (H1.out.step (abs_row H1.out.1 (by rw [abs_val])) ((Only.refl _ _).setCell _ _)).more (Below.drew (Below.refl _ _))⟩
      case measure => simp [intOf]; omega
    · have : k = 136 := by omega
      subst this
      clear hix
      have hp1 := H0.out.1.below hin.2.2 H0.out.2
      have H1 : Hid (AbIn (absTo S p 136) w wr ∧ PathIn wr) := ⟨hin, hp1⟩
      clear hin hp1
      go_wp2_with (first | (refine wpList_load_row rfl 201 _ rfl w.heap.size rfl 201 _ (0, 0) _ (row_heap H1.out.1.1) Tryz.underlying201 rfl (info23v _) ?_) | (go_at_call 157; refine (permute_any _ _ H1.out.2).mono ?_; rintro e w1 ⟨rfl, o1⟩) | (refine wpList_store_row rfl 201 _ _ rfl (w.heap.size + 2) _ rfl rfl 201 _ (row_heap (H1.out.1.more o1).2.1) (info23v _) (by simp) (one_lan _ _) ?_))
      refine bodyPost_ret (results_cell_row rfl _ _ _ _ _ _ _ rfl (setRow_heap _ _ _ _ _ _ (row_heap (H1.out.1.more o1).2.1)) Tryz.underlying201 rfl (info23v _)) rfl ⟨rfl, ?_⟩
      exact ((Only.refl _ _).setRow _).below (H1.out.1.more o1).2.2 (by omega)

/-- The bytes of the first lanes, the lowest of each first. -/
def outb (S : Nat → BitVec 64) (i : Nat) : BitVec 8 := (S (i / 8) >>> (8 * (i % 8))).setWidth 8
def outTo (S : Nat → BitVec 64) (k i : Nat) : BitVec 8 := if i < k then outb S i else 0
theorem out_val (S : Nat → BitVec 64) (k : Nat) : IntKind.u8.wrap (I (S (k / 8)) / 2 ^ (k % 8 * 8)) = I8 (outb S k) := by
  rw [I_shr, IntKind.wrap_u8', Nat.mul_comm]
  unfold I8 I outb
  rw [BitVec.toNat_setWidth]
  omega
theorem out_row {S : Nat → BitVec 64} {k b t : Nat} {w : World} (hk : k < 32) (h : w.rowIs b t 32 (byt (outTo S k))) {v : Value} (hv : v = .int .u8 (I8 (outb S k))) :
    (w.setCell ⟨b, k, none⟩ v).rowIs b t 32 (byt (outTo S (k + 1))) := by
  refine (h.set _ _).congr ?_
  intro i hi
  subst hv
  simp only [byt, outTo]
  by_cases e : i = k
  · subst e; rw [if_pos rfl, if_pos (by omega)]
  · rw [if_neg e]
    by_cases hl : i < k
    · rw [if_pos hl, if_pos (by omega)]
    · rw [if_neg hl, if_neg (by omega)]
def FiIn (S : Nat → BitVec 64) (k : Nat) (w wr : World) : Prop :=
  wr.rowIs w.heap.size 201 25 (lan S) ∧ wr.rowIs (w.heap.size + 1) 33 32 (byt fun _ => 0) ∧ wr.rowIs (w.heap.size + 2) 33 32 (byt (outTo S k)) ∧ Below w.heap.size w wr
theorem fi_start (S : Nat → BitVec 64) (w : World) : FiIn S 0 w (((w.alloc (.cells (vec 25 (lan S)) 201)).alloc (.cells (vec 32 (byt fun _ => 0)) 33)).alloc (.cells (vec 32 (byt fun _ => 0)) 33)) := by
  have h2 := heap_row (heap_alloc_new ((w.alloc (.cells (vec 25 (lan S)) 201)).alloc (.cells (vec 32 (byt fun _ => 0)) 33)) (.cells (vec 32 (byt fun _ => 0)) 33))
  have h1 := heap_row (heap_alloc_new (w.alloc (.cells (vec 25 (lan S)) 201)) (.cells (vec 32 (byt fun _ => 0)) 33))
  have h0 := heap_row (heap_alloc_new w (.cells (vec 25 (lan S)) 201))
  refine ⟨(h0.alloc _).alloc _, ?_, ?_, by go_grown⟩
  · simpa using h1.alloc _
  · have : (((w.alloc (.cells (vec 25 (lan S)) 201)).alloc (.cells (vec 32 (byt fun _ => 0)) 33)).heap.size) = w.heap.size + 2 := by simp
    rw [this] at h2
    exact h2.congr (fun i _ => by simp [byt, outTo])
theorem FiIn.step {S : Nat → BitVec 64} {k : Nat} {w w1 : World} (hk : k < 32) (h : FiIn S k w w1) {v : Value} (hv : v = .int .u8 (I8 (outb S k))) : FiIn S (k + 1) w (w1.setCell ⟨w.heap.size + 2, k, none⟩ v) :=
  ⟨h.1.setOther (by show w.heap.size ≠ w.heap.size + 2; omega) _, h.2.1.setOther (by show w.heap.size + 1 ≠ w.heap.size + 2; omega) _, out_row hk h.2.2.1 hv, h.2.2.2.setCell (by show w.heap.size ≤ w.heap.size + 2; omega) _⟩
set_option maxRecDepth 20000 in
set_option maxHeartbeats 1000000 in
/-- keccak.first -/
theorem first_any (S : Nat → BitVec 64) (w : World) :
    Calls Tryz.prog 130 #[.agg (vec 25 (lan S))] w fun e w' => e = .returned (.agg (vec 32 (byt (outb S)))) ∧ Below w.heap.size w w' := by
  have HS : Hid _ := fi_start S w
  go_enter Tryz.func130, Tryz.ntmps130
  go_wp2
  rw [zero32]
  go_loopw [5] (fun i wr => ∃ k : Nat, k ≤ 32 ∧ i = .int .i64 (k : Int) ∧ FiIn S k w wr) (fun i _ => 32 - (intOf i).toNat)
  case atStart => exact ⟨0, by omega, rfl, HS.out⟩
  case round =>
    obtain ⟨k, hk, rfl, hin⟩ := hrel
    clear HS
    by_cases hlt : k < 32
    · have c0 : wr.cell? ⟨w.heap.size, k / 8, none⟩ = some (.int .u64 (I (S (k / 8)))) := hin.1.cell (by omega)
      obtain ⟨u, cu⟩ : ∃ u, wr.cell? ⟨w.heap.size + 1 + 1, k, none⟩ = some u := ⟨_, hin.2.2.1.cell hlt⟩
      have f0 : wr.frozen? ⟨w.heap.size + 1 + 1, k, none⟩ = false := hin.2.2.1.frozen _
      have H1 : Hid (FiIn S k w wr) := hin
      clear hin
      go_wp2
      go_roundw
      case rel => exact ⟨k + 1, by omega, by go_num, H1.out.step hlt (by rw [← out_val, IntKind.wrap_u8'])⟩
      case measure => simp [intOf]; omega
    · have : k = 32 := by omega
      subst this
      go_wp2_with (first | (refine wpList_load_row rfl 33 _ rfl (w.heap.size + 2) rfl 33 _ (0, 0) _ (row_heap hin.2.2.1) Tryz.underlying33 rfl (info29v _) ?_) | (refine wpList_store_row rfl 33 _ _ rfl (w.heap.size + 1) _ rfl rfl 33 _ (row_heap hin.2.1) (info29v _) (by simp) (one_byt _ _) ?_))
      refine bodyPost_ret (results_cell_row rfl _ _ _ _ _ _ _ rfl (setRow_heap _ _ _ _ _ _ (row_heap hin.2.1)) Tryz.underlying33 rfl (info29v _)) rfl ⟨?_, ?_⟩
      · rw [vec_congr (g := byt (outb S)) (fun i hi => by simp only [byt, outTo]; rw [if_pos hi])]
      · exact ((Only.refl _ _).setRow _).below hin.2.2.2 (by omega)
end Go.Proofs.YtboeokmaepchgaaGreatDoor.Kc
