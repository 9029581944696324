/- rlp: First, Decode. -/
import Derived.Test.YtmnlcpfehbpogaaRR
import Derived.Defers
import Derived.Recover
namespace Go.Proofs.Ytmnlcpfehbpogaa
open Go.RowKit Go.Maps Go.Joins
set_option linter.unusedSimpArgs false
set_option linter.unusedVariables false
set_option maxRecDepth 100000 in
set_option maxHeartbeats 2000000 in
theorem catch37 (p q s : Nat) (x y z : Value) (n e0 c : Int) (older : List PanicEntry) (w : World) (hp : w.heap[p]? = some (.cells #[x, y, z] 31)) (hq : w.heap[q]? = some (.cells #[.int .i64 n] 3)) (hs : w.heap[s]? = some (.cells #[.int .i64 e0] 26)) (h1 : p ≠ q) (h2 : p ≠ s) (h3 : q ≠ s) :
    CallsD Try.prog 37 #[.pointer (some ⟨p, 0, none⟩), .pointer (some ⟨q, 0, none⟩), .pointer (some ⟨s, 0, none⟩)] (.panicking ({ v := .iface 26 (.int .i64 c), recovered := false } :: older)) w fun e u' w' =>
      e = .returned (.tuple #[]) ∧ u' = .panicking ({ v := .iface 26 (.int .i64 c), recovered := true } :: older) ∧ w' = ((((w.setCell ⟨p, 0, none⟩ (.bool false)).setCell ⟨p, 1, none⟩ (.slice none 0 0)).setCell ⟨p, 2, none⟩ (.slice none 0 0)).setCell ⟨q, 0, none⟩ (.int .i64 0)).setCell ⟨s, 0, none⟩ (.int .i64 c) := by
  have hta : ∀ w : World, (Instr.typeAssert (.iface 26 (.int .i64 c)) 20 26 true).run Try.prog w = .ok (.tuple #[.int .i64 c, .bool true]) w := fun w => by kernel_rfl
  have p0 : w.cell? ⟨p, 0, none⟩ = some x := (cell_of_block hp 0).trans rfl
  have p1 : (w.setCell ⟨p, 0, none⟩ (.bool false)).cell? ⟨p, 1, none⟩ = some y := by rw [cell_off _ _ _ _ _ (by omega)]; exact (cell_of_block hp 1).trans rfl
  have p2 : ((w.setCell ⟨p, 0, none⟩ (.bool false)).setCell ⟨p, 1, none⟩ (.slice none 0 0)).cell? ⟨p, 2, none⟩ = some z := by rw [cell_off _ _ _ _ _ (by omega), cell_off _ _ _ _ _ (by omega)]; exact (cell_of_block hp 2).trans rfl
  have z0 : ∀ k, w.frozen? ⟨p, k, none⟩ = false := fun k => unfrozen_of_block hp k
  have q0 : (((w.setCell ⟨p, 0, none⟩ (.bool false)).setCell ⟨p, 1, none⟩ (.slice none 0 0)).setCell ⟨p, 2, none⟩ (.slice none 0 0)).cell? ⟨q, 0, none⟩ = some (.int .i64 n) := by
    rw [World.cell?_of_block (a := ⟨q, 0, none⟩) (set31_other w p q (.bool false) (.slice none 0 0) (.slice none 0 0) (Ne.symm h1))]; exact (cell_of_block hq 0).trans rfl
  have qz : w.frozen? ⟨q, 0, none⟩ = false := unfrozen_of_block hq 0
  have s0 : ((((w.setCell ⟨p, 0, none⟩ (.bool false)).setCell ⟨p, 1, none⟩ (.slice none 0 0)).setCell ⟨p, 2, none⟩ (.slice none 0 0)).setCell ⟨q, 0, none⟩ (.int .i64 0)).cell? ⟨s, 0, none⟩ = some (.int .i64 e0) := by
    rw [World.cell?_setCell_far _ _ _ _ (by exact h3), World.cell?_of_block (a := ⟨s, 0, none⟩) (set31_other w p s (.bool false) (.slice none 0 0) (.slice none 0 0) (Ne.symm h2))]; exact (cell_of_block hs 0).trans rfl
  have sz : w.frozen? ⟨s, 0, none⟩ = false := unfrozen_of_block hs 0
  refine callsD_of_wpS Try.func37 rfl fun c₀ cs hu => ?_
  simp only [Try.ntmps37, List.size_toArray, List.length_cons, List.length_nil, Nat.reduceAdd, Nat.reduceSub, Array.replicate_succ, Array.replicate_zero, List.push_toArray, List.append_toArray, List.nil_append, List.cons_append]
  apply wpS_seq
  apply wpS_region
  simp [wpOpsS, go_sem, recoverD, hu, hta, Exit.thenS]
  refine wpS_of_wp ?_
  go_wp2
  exact ⟨rfl, _, rfl, _, results_none rfl _ _ _, rfl, rfl, rfl⟩
set_option maxRecDepth 100000 in
set_option maxHeartbeats 2000000 in
theorem idle37 (p q s : Addr) (w : World) :
    CallsD Try.prog 37 #[.pointer (some p), .pointer (some q), .pointer (some s)] .returning w fun e u' w' => e = .returned (.tuple #[]) ∧ u' = .returning ∧ w' = w := by
  have hta : ∀ w : World, (Instr.typeAssert .nilIface 20 26 true).run Try.prog w = .ok (.tuple #[.int .i64 0, .bool false]) w := fun w => by kernel_rfl
  refine callsD_of_wpS Try.func37 rfl fun c₀ cs hu => ?_
  simp only [Try.ntmps37, List.size_toArray, List.length_cons, List.length_nil, Nat.reduceAdd, Nat.reduceSub, Array.replicate_succ, Array.replicate_zero, List.push_toArray, List.append_toArray, List.nil_append, List.cons_append]
  apply wpS_seq
  apply wpS_region
  simp [wpOpsS, go_sem, recoverD, hu, hta, Exit.thenS]
  refine wpS_of_wp ?_
  go_wp2
  exact ⟨rfl, c₀.mode, rfl, _, results_none rfl _ _ _, rfl, hu, rfl⟩
theorem fin5 (B : Nat) (w w3 w1 : World) (x y z n c : Value) (h0 : w3.heap[B]? = some (.cells #[x, y, z] 31)) (h1 : w3.heap[B + 1]? = some (.cells #[n] 3)) (h2 : w3.heap[B + 1 + 1]? = some (.cells #[c] 26)) (hb : Below B w w3) (ho : ∀ b, B + 3 ≤ b → w3.heap[b]? = w1.heap[b]?) (hs : w3.heap.size = w1.heap.size) :
    (((((w3.setCell ⟨B, 0, none⟩ x).setCell ⟨B, 1, none⟩ y).setCell ⟨B, 2, none⟩ z).setCell ⟨B + 1, 0, none⟩ n).setCell ⟨B + 1 + 1, 0, none⟩ c).drew.heap[B]? = some (.cells #[x, y, z] 31) ∧ (((((w3.setCell ⟨B, 0, none⟩ x).setCell ⟨B, 1, none⟩ y).setCell ⟨B, 2, none⟩ z).setCell ⟨B + 1, 0, none⟩ n).setCell ⟨B + 1 + 1, 0, none⟩ c).drew.heap[B + 1]? = some (.cells #[n] 3) ∧ (((((w3.setCell ⟨B, 0, none⟩ x).setCell ⟨B, 1, none⟩ y).setCell ⟨B, 2, none⟩ z).setCell ⟨B + 1, 0, none⟩ n).setCell ⟨B + 1 + 1, 0, none⟩ c).drew.heap[B + 1 + 1]? = some (.cells #[c] 26) ∧ Below B w (((((w3.setCell ⟨B, 0, none⟩ x).setCell ⟨B, 1, none⟩ y).setCell ⟨B, 2, none⟩ z).setCell ⟨B + 1, 0, none⟩ n).setCell ⟨B + 1 + 1, 0, none⟩ c).drew ∧ (∀ b, B + 3 ≤ b → (((((w3.setCell ⟨B, 0, none⟩ x).setCell ⟨B, 1, none⟩ y).setCell ⟨B, 2, none⟩ z).setCell ⟨B + 1, 0, none⟩ n).setCell ⟨B + 1 + 1, 0, none⟩ c).drew.heap[b]? = w1.heap[b]?) ∧ (((((w3.setCell ⟨B, 0, none⟩ x).setCell ⟨B, 1, none⟩ y).setCell ⟨B, 2, none⟩ z).setCell ⟨B + 1, 0, none⟩ n).setCell ⟨B + 1 + 1, 0, none⟩ c).drew.heap.size = w1.heap.size := by
  have g0 := set31 h0 (x' := x) (y' := y) (z' := z)
  have goth := fun k h => set31_other w3 B k x y z h
  have gbl := set31_below hb (Nat.le_refl _) x y z
  have gsz := set31_size w3 B x y z
  generalize ((w3.setCell ⟨B, 0, none⟩ x).setCell ⟨B, 1, none⟩ y).setCell ⟨B, 2, none⟩ z = w4 at *
  have k1 : (w4.setCell ⟨B + 1, 0, none⟩ n).heap[B + 1]? = some (.cells #[n] 3) := heap_setCell_same w4 (B + 1) 0 #[n] 3 n ((goth _ (by omega)).trans h1)
  have ko : ∀ b, b ≠ B + 1 → (w4.setCell ⟨B + 1, 0, none⟩ n).heap[b]? = w4.heap[b]? := fun b hb => Below.heap_setCell _ _ _ _ hb
  have kb : Below B w (w4.setCell ⟨B + 1, 0, none⟩ n) := gbl.setCell (p := ⟨B + 1, 0, none⟩) (by show B ≤ B + 1; omega) _
  have ks : (w4.setCell ⟨B + 1, 0, none⟩ n).heap.size = w4.heap.size := by simp
  generalize w4.setCell ⟨B + 1, 0, none⟩ n = w5 at *
  have l1 : (w5.setCell ⟨B + 1 + 1, 0, none⟩ c).heap[B + 1 + 1]? = some (.cells #[c] 26) := heap_setCell_same w5 (B + 1 + 1) 0 #[c] 26 c ((ko _ (by omega)).trans ((goth _ (by omega)).trans h2))
  have lo : ∀ b, b ≠ B + 1 + 1 → (w5.setCell ⟨B + 1 + 1, 0, none⟩ c).heap[b]? = w5.heap[b]? := fun b hb => Below.heap_setCell _ _ _ _ hb
  have lb : Below B w (w5.setCell ⟨B + 1 + 1, 0, none⟩ c) := kb.setCell (p := ⟨B + 1 + 1, 0, none⟩) (by show B ≤ B + 1 + 1; omega) _
  have ls : (w5.setCell ⟨B + 1 + 1, 0, none⟩ c).heap.size = w5.heap.size := by simp
  generalize w5.setCell ⟨B + 1 + 1, 0, none⟩ c = w6 at *
  exact ⟨(lo _ (by omega)).trans ((ko _ (by omega)).trans g0), (lo _ (by omega)).trans k1, l1, ⟨lb.os, lb.tape, lb.output, lb.size, lb.block⟩, fun b hb => (lo _ (by omega)).trans ((ko _ (by omega)).trans ((goth _ (by omega)).trans (ho b hb))), by show w6.heap.size = _; rw [ls, ks, gsz, hs]⟩
/-- What First reads. -/
def fst1 (bs : List Int) : Except Int (Tr × Nat) := if 65536 < bs.length then .error 3 else fs 16 bs
def FsR (w w' : World) (r : Except Int (Tr × Nat)) (e : Ending) : Prop :=
  match r with
  | .error c => e = .returned (.tuple #[.agg #[.bool false, .slice none 0 0, .slice none 0 0], .int .i64 0, .int .i64 c])
  | .ok (x, n) => ∃ sb si, e = .returned (.tuple #[.agg #[.bool x.l, sb, si], .int .i64 (n : Int), .int .i64 0]) ∧ ItV w' (fun b => w.heap.size ≤ b ∧ b < w'.heap.size) sb si x
/-- Any bytes. -/
structure SrcA (w : World) (a : Option Addr) (cap : Nat) (bs : List Int) : Prop where
  is : BytesV w (.slice a bs.length cap) bs
  cp : bs.length ≤ cap
  mx : cap ≤ 9223372036854775807
  by' : Byt bs
set_option maxRecDepth 100000 in
set_option maxHeartbeats 8000000 in
/-- rlp.First -/
theorem first_any {w : World} {a : Option Addr} {cap : Nat} {bs : List Int} (h : SrcA w a cap bs) :
    Calls Try.prog 15 #[.slice a bs.length cap] w fun e w' => Below w.heap.size w w' ∧ FsR w w' (fst1 bs) e := by
  have hmf : ∀ (fn : Fn) (first cap : Array Value) (w : World), (Instr.makeFunc fn first cap).run Try.prog w = .ok (.func fn first cap) w := fun _ _ _ _ => rfl
  have HS : Hid (SrcA w a cap bs) := h
  have hcp := h.cp
  have hmx := h.mx
  obtain ⟨N, hN⟩ : ∃ N, N = bs.length := ⟨_, rfl⟩
  rw [← hN] at hcp ⊢
  have HN : Hid (N = bs.length) := hN
  clear h hN
  have B0 : Hid (([Obj.cells #[.bool false, .slice none 0 0, .slice none 0 0] 31, .cells #[.int .i64 0] 3, .cells #[.int .i64 0] 26].foldl World.alloc w) = ((w.alloc (.cells #[.bool false, .slice none 0 0, .slice none 0 0] 31)).alloc (.cells #[.int .i64 0] 3)).alloc (.cells #[.int .i64 0] 26)) := rfl
  have hend : ∀ (c : Int) (w1 : World), Below (w.heap.size + 3) (((w.alloc (.cells #[.bool false, .slice none 0 0, .slice none 0 0] 31)).alloc (.cells #[.int .i64 0] 3)).alloc (.cells #[.int .i64 0] 26)) w1 → fst1 bs = .error c → ∀ tmps : Array Value, tmps[2]? = some (.pointer (some ⟨w.heap.size, 0, none⟩)) → tmps[3]? = some (.pointer (some ⟨w.heap.size + 1, 0, none⟩)) → tmps[4]? = some (.pointer (some ⟨w.heap.size + 1 + 1, 0, none⟩)) →
      bodyPostD Try.prog Try.f15 (fun e w' => Below w.heap.size w w' ∧ FsR w w' (fst1 bs) e) (Exit.panic [{ v := .iface 26 (.int .i64 c), recovered := false }]) { tmps := tmps, defers := [{ target := Target.fn (Fn.func 37) #[Value.pointer (some { block := w.heap.size, off := 0 }), Value.pointer (some { block := w.heap.size + 1, off := 0 }), Value.pointer (some { block := w.heap.size + 1 + 1, off := 0 })], args := #[] }] } w1 := by
    intro c w1 hb1 hE tmps ht2 ht3 ht4
    have hh := fun k o hk => allocs_heap [Obj.cells #[.bool false, .slice none 0 0, .slice none 0 0] 31, .cells #[.int .i64 0] 3, .cells #[.int .i64 0] 26] w k o hk
    have hbl := allocs_below [Obj.cells #[.bool false, .slice none 0 0, .slice none 0 0] 31, .cells #[.int .i64 0] 3, .cells #[.int .i64 0] 26] w
    have hsz := allocs_size [Obj.cells #[.bool false, .slice none 0 0, .slice none 0 0] 31, .cells #[.int .i64 0] 3, .cells #[.int .i64 0] 26] w
    rw [B0.out] at hh hbl hsz
    have k0 := (hb1.block w.heap.size (by omega)).trans (hh 0 _ rfl)
    have k1 := (hb1.block (w.heap.size + 1) (by omega)).trans (hh 1 _ rfl)
    have k2 := (hb1.block (w.heap.size + 1 + 1) (by omega)).trans (hh 2 _ rfl)
    refine leaves_cons (f := 37) (args := #[.pointer (some ⟨w.heap.size, 0, none⟩), .pointer (some ⟨w.heap.size + 1, 0, none⟩), .pointer (some ⟨w.heap.size + 1 + 1, 0, none⟩)]) (by simp) (by simp [go_sem]) ?_
    refine (catch37 w.heap.size (w.heap.size + 1) (w.heap.size + 1 + 1) _ _ _ 0 0 c [] w1 k0 k1 k2 (by omega) (by omega) (by omega)).mono ?_
    rintro e u' w2 ⟨rfl, rfl, rfl⟩
    have hb2 : Below w.heap.size w w1 := hbl.trans (hb1.mono (by omega))
    have hbw : Below w.heap.size w (((((w1.setCell ⟨w.heap.size, 0, none⟩ (.bool false)).setCell ⟨w.heap.size, 1, none⟩ (.slice none 0 0)).setCell ⟨w.heap.size, 2, none⟩ (.slice none 0 0)).setCell ⟨w.heap.size + 1, 0, none⟩ (.int .i64 0)).setCell ⟨w.heap.size + 1 + 1, 0, none⟩ (.int .i64 c)) := ((set31_below hb2 (Nat.le_refl _) _ _ _).setCell (p := ⟨w.heap.size + 1, 0, none⟩) (by show w.heap.size ≤ w.heap.size + 1; omega) _).setCell (p := ⟨w.heap.size + 1 + 1, 0, none⟩) (by show w.heap.size ≤ w.heap.size + 1 + 1; omega) _
    have d0 : (((((w1.setCell ⟨w.heap.size, 0, none⟩ (.bool false)).setCell ⟨w.heap.size, 1, none⟩ (.slice none 0 0)).setCell ⟨w.heap.size, 2, none⟩ (.slice none 0 0)).setCell ⟨w.heap.size + 1, 0, none⟩ (.int .i64 0)).setCell ⟨w.heap.size + 1 + 1, 0, none⟩ (.int .i64 c)).heap[w.heap.size]? = some (.cells #[.bool false, .slice none 0 0, .slice none 0 0] 31) := by
      rw [Below.heap_setCell _ _ _ _ (by show w.heap.size ≠ w.heap.size + 1 + 1; omega), Below.heap_setCell _ _ _ _ (by show w.heap.size ≠ w.heap.size + 1; omega)]
      exact set31 k0
    have d1 : (((((w1.setCell ⟨w.heap.size, 0, none⟩ (.bool false)).setCell ⟨w.heap.size, 1, none⟩ (.slice none 0 0)).setCell ⟨w.heap.size, 2, none⟩ (.slice none 0 0)).setCell ⟨w.heap.size + 1, 0, none⟩ (.int .i64 0)).setCell ⟨w.heap.size + 1 + 1, 0, none⟩ (.int .i64 c)).heap[w.heap.size + 1]? = some (.cells #[.int .i64 0] 3) := by
      rw [Below.heap_setCell _ _ _ _ (by show w.heap.size + 1 ≠ w.heap.size + 1 + 1; omega)]
      exact heap_setCell_same _ _ 0 _ 3 _ ((set31_other w1 w.heap.size (w.heap.size + 1) _ _ _ (by omega)).trans k1)
    have d2 : (((((w1.setCell ⟨w.heap.size, 0, none⟩ (.bool false)).setCell ⟨w.heap.size, 1, none⟩ (.slice none 0 0)).setCell ⟨w.heap.size, 2, none⟩ (.slice none 0 0)).setCell ⟨w.heap.size + 1, 0, none⟩ (.int .i64 0)).setCell ⟨w.heap.size + 1 + 1, 0, none⟩ (.int .i64 c)).heap[w.heap.size + 1 + 1]? = some (.cells #[.int .i64 c] 26) := by
      exact heap_setCell_same _ (w.heap.size + 1 + 1) 0 #[.int .i64 0] 26 (.int .i64 c) ((Below.heap_setCell _ _ _ _ (by show w.heap.size + 1 + 1 ≠ w.heap.size + 1; omega)).trans ((set31_other w1 w.heap.size (w.heap.size + 1 + 1) _ _ _ (by omega)).trans k2))
    generalize ((((w1.setCell ⟨w.heap.size, 0, none⟩ (.bool false)).setCell ⟨w.heap.size, 1, none⟩ (.slice none 0 0)).setCell ⟨w.heap.size, 2, none⟩ (.slice none 0 0)).setCell ⟨w.heap.size + 1, 0, none⟩ (.int .i64 0)).setCell ⟨w.heap.size + 1 + 1, 0, none⟩ (.int .i64 c) = w2 at d0 d1 d2 hbw
    have m0 : w2.cell? ⟨w.heap.size, 0, none⟩ = some (.bool false) := (cell_of_block d0 0).trans rfl
    have m1 : w2.cell? ⟨w.heap.size, 1, none⟩ = some (.slice none 0 0) := (cell_of_block d0 1).trans rfl
    have m2 : w2.cell? ⟨w.heap.size, 2, none⟩ = some (.slice none 0 0) := (cell_of_block d0 2).trans rfl
    have l1 : w2.cell? ⟨w.heap.size + 1, 0, none⟩ = some (.int .i64 0) := (cell_of_block d1 0).trans rfl
    have l2 : w2.cell? ⟨w.heap.size + 1 + 1, 0, none⟩ = some (.int .i64 c) := (cell_of_block d2 0).trans rfl
    simp [Leaves, settle, results, Try.results15, go_sem, ht2, ht3, ht4, m0, m1, m2, l1, l2]
    rw [hE]
    exact ⟨hbw, rfl⟩
  have HEnd : Hid _ := hend
  clear hend
  by_cases hbig : 65536 < N
  · have hb' : (65536 : Int) < N := by omega
    have HE : Hid (fst1 bs = .error 3) := by show _ = _; unfold fst1; rw [if_pos (by rw [← HN.out]; exact hbig)]
    go_enter_defers Try.func15, Try.ntmps15
    go_wp2
    exact HEnd.out 3 _ (Below.refl _ _) HE.out _ rfl rfl rfl
  · have hb' : ¬ (65536 : Int) < N := by omega
    have hsrc : Src (((w.alloc (.cells #[.bool false, .slice none 0 0, .slice none 0 0] 31)).alloc (.cells #[.int .i64 0] 3)).alloc (.cells #[.int .i64 0] 26)) a cap bs := Src.below ⟨HS.out.is, HS.out.cp, HS.out.mx, HS.out.by', by rw [← HN.out]; omega⟩ (by rw [← B0.out]; exact allocs_below _ _)
    have hC := read_any 16 (Nat.le_refl _) _ a cap bs hsrc 0 (Nat.zero_le _)
    rw [List.drop_zero] at hC
    have hf : fst1 bs = fs 16 bs := by unfold fst1; rw [if_neg (by rw [← HN.out]; exact hbig)]
    rw [← hf, ← HN.out] at hC
    have HC : Hid _ := hC
    clear hC hsrc hf
    go_enter_defers Try.func15, Try.ntmps15
    go_wp2_with fail
    have hsz := allocs_size [Obj.cells #[.bool false, .slice none 0 0, .slice none 0 0] 31, .cells #[.int .i64 0] 3, .cells #[.int .i64 0] 26] w
    have hh := fun k o hk => allocs_heap [Obj.cells #[.bool false, .slice none 0 0, .slice none 0 0] 31, .cells #[.int .i64 0] 3, .cells #[.int .i64 0] 26] w k o hk
    have hbl := allocs_below [Obj.cells #[.bool false, .slice none 0 0, .slice none 0 0] 31, .cells #[.int .i64 0] 3, .cells #[.int .i64 0] 26] w
    rw [B0.out] at hsz hh hbl
    refine Calls.mono HC.out ?_
    rintro e w1 ⟨hb1, hr1⟩
    obtain ⟨r, hfs⟩ : ∃ r, fst1 bs = r := ⟨_, rfl⟩
    rw [hfs] at hr1
    cases r with
    | error c =>
      obtain rfl := hr1
      exact HEnd.out c w1 (hb1.mono (by rw [hsz]; simp)) hfs _ rfl rfl rfl
    | ok q =>
      obtain ⟨x, n⟩ := q
      obtain ⟨sb, si, rfl, hit⟩ := hr1
      obtain ⟨ab, cb, rfl⟩ := hit.b.is.form
      obtain ⟨ai, ci, rfl, -⟩ := hit.xs.form
      obtain ⟨xl, hxl⟩ : ∃ xl, xl = x.l := ⟨_, rfl⟩
      obtain ⟨mb, hmb⟩ : ∃ mb, mb = x.b.length := ⟨_, rfl⟩
      obtain ⟨mi, hmi⟩ : ∃ mi, mi = x.xs.length := ⟨_, rfl⟩
      rw [Nat.zero_add]
      have k0 := (hb1.block w.heap.size (by rw [hsz]; simp)).trans (hh 0 _ rfl)
      have k1 := (hb1.block (w.heap.size + 1) (by rw [hsz]; simp)).trans (hh 1 _ rfl)
      have k2 := (hb1.block (w.heap.size + 1 + 1) (by rw [hsz]; simp)).trans (hh 2 _ rfl)
      have H1 : Hid (Below w.heap.size w w1 ∧ w1.heap[w.heap.size]? = some (.cells #[.bool false, .slice none 0 0, .slice none 0 0] 31) ∧ w1.heap[w.heap.size + 1]? = some (.cells #[.int .i64 0] 3) ∧ w1.heap[w.heap.size + 1 + 1]? = some (.cells #[.int .i64 0] 26) ∧ ItV w1 (fun b => w.heap.size + 3 ≤ b ∧ b < w1.heap.size) (.slice ab mb cb) (.slice ai mi ci) x ∧ xl = x.l) := ⟨hbl.trans (hb1.mono hbl.size), k0, k1, k2, by rw [hmb, hmi]; exact hit.mono (fun _ _ => rfl) (fun b hb => ⟨by have := hb.1; rw [hsz] at this; simpa using this, hb.2⟩), hxl⟩
      rw [← hxl, ← hmb, ← hmi]
      have a0 : w1.cell? ⟨w.heap.size, 0, none⟩ = some (.bool false) := (cell_of_block k0 0).trans rfl
      have a1 : w1.cell? ⟨w.heap.size, 1, none⟩ = some (.slice none 0 0) := (cell_of_block k0 1).trans rfl
      have a2 : w1.cell? ⟨w.heap.size, 2, none⟩ = some (.slice none 0 0) := (cell_of_block k0 2).trans rfl
      have b0 : w1.cell? ⟨w.heap.size + 1, 0, none⟩ = some (.int .i64 0) := (cell_of_block k1 0).trans rfl
      have d0 : w1.cell? ⟨w.heap.size + 1 + 1, 0, none⟩ = some (.int .i64 0) := (cell_of_block k2 0).trans rfl
      have az := fun k => unfrozen_of_block k0 k
      have bz := fun k => unfrozen_of_block k1 k
      have dz := fun k => unfrozen_of_block k2 k
      clear hb1 hit hxl hmb hmi k0 k1 k2 hh hbl hsz HC HEnd B0
      have HFS : Hid (fst1 bs = .ok (x, n)) := hfs
      clear hfs
      go_wp2_with fail
      have g0 := set31 H1.out.2.1 (x' := .bool xl) (y' := .slice ab mb cb) (z' := .slice ai mi ci)
      have goth := fun k h => set31_other w1 w.heap.size k (.bool xl) (.slice ab mb cb) (.slice ai mi ci) h
      have gbl := set31_below H1.out.1 (Nat.le_refl _) (.bool xl) (.slice ab mb cb) (.slice ai mi ci)
      have gsz := set31_size w1 w.heap.size (.bool xl) (.slice ab mb cb) (.slice ai mi ci)
      generalize ((w1.setCell ⟨w.heap.size, 0, none⟩ (.bool xl)).setCell ⟨w.heap.size, 1, none⟩ (.slice ab mb cb)).setCell ⟨w.heap.size, 2, none⟩ (.slice ai mi ci) = w2 at *
      have G2 : Hid ((w2.setCell ⟨w.heap.size + 1, 0, none⟩ (.int .i64 n)).heap[w.heap.size]? = some (.cells #[.bool xl, .slice ab mb cb, .slice ai mi ci] 31) ∧ (w2.setCell ⟨w.heap.size + 1, 0, none⟩ (.int .i64 n)).heap[w.heap.size + 1]? = some (.cells #[.int .i64 n] 3) ∧ (w2.setCell ⟨w.heap.size + 1, 0, none⟩ (.int .i64 n)).heap[w.heap.size + 1 + 1]? = some (.cells #[.int .i64 0] 26) ∧ Below w.heap.size w (w2.setCell ⟨w.heap.size + 1, 0, none⟩ (.int .i64 n)) ∧ (∀ b, w.heap.size + 3 ≤ b → (w2.setCell ⟨w.heap.size + 1, 0, none⟩ (.int .i64 n)).heap[b]? = w1.heap[b]?) ∧ (w2.setCell ⟨w.heap.size + 1, 0, none⟩ (.int .i64 n)).heap.size = w1.heap.size) :=
        ⟨(Below.heap_setCell _ _ _ _ (by show w.heap.size ≠ w.heap.size + 1; omega)).trans g0, heap_setCell_same _ _ 0 _ 3 _ ((goth _ (by omega)).trans H1.out.2.2.1), (Below.heap_setCell _ _ _ _ (by show w.heap.size + 1 + 1 ≠ w.heap.size + 1; omega)).trans ((goth _ (by omega)).trans H1.out.2.2.2.1), gbl.setCell (p := ⟨w.heap.size + 1, 0, none⟩) (by show w.heap.size ≤ w.heap.size + 1; omega) _, fun b hb => (Below.heap_setCell _ _ _ _ (by show b ≠ w.heap.size + 1; omega)).trans (goth b (by omega)), by simp [gsz]⟩
      generalize w2.setCell ⟨w.heap.size + 1, 0, none⟩ (.int .i64 n) = w3 at *
      clear a0 a1 a2 b0 d0 az bz dz g0 goth gbl gsz
      have a0 : w3.cell? ⟨w.heap.size, 0, none⟩ = some (.bool xl) := (cell_of_block G2.out.1 0).trans rfl
      have a1 : w3.cell? ⟨w.heap.size, 1, none⟩ = some (.slice ab mb cb) := (cell_of_block G2.out.1 1).trans rfl
      have a2 : w3.cell? ⟨w.heap.size, 2, none⟩ = some (.slice ai mi ci) := (cell_of_block G2.out.1 2).trans rfl
      have b0 : w3.cell? ⟨w.heap.size + 1, 0, none⟩ = some (.int .i64 n) := (cell_of_block G2.out.2.1 0).trans rfl
      have d0 : w3.cell? ⟨w.heap.size + 1 + 1, 0, none⟩ = some (.int .i64 0) := (cell_of_block G2.out.2.2.1 0).trans rfl
      have az := fun k => unfrozen_of_block G2.out.1 k
      have bz := fun k => unfrozen_of_block G2.out.2.1 k
      have dz := fun k => unfrozen_of_block G2.out.2.2.1 k
      go_region
      obtain ⟨f0, f1, f2, fb, fo, fs'⟩ := fin5 w.heap.size w w3 w1 (.bool xl) (.slice ab mb cb) (.slice ai mi ci) (.int .i64 n) (.int .i64 0) G2.out.1 G2.out.2.1 G2.out.2.2.1 G2.out.2.2.2.1 G2.out.2.2.2.2.1 G2.out.2.2.2.2.2
      generalize (((((w3.setCell ⟨w.heap.size, 0, none⟩ (.bool xl)).setCell ⟨w.heap.size, 1, none⟩ (.slice ab mb cb)).setCell ⟨w.heap.size, 2, none⟩ (.slice ai mi ci)).setCell ⟨w.heap.size + 1, 0, none⟩ (.int .i64 n)).setCell ⟨w.heap.size + 1 + 1, 0, none⟩ (.int .i64 0)).drew = w4 at *
      go_wp2
      refine leaves_cons (f := 37) (args := #[.pointer (some ⟨w.heap.size, 0, none⟩), .pointer (some ⟨w.heap.size + 1, 0, none⟩), .pointer (some ⟨w.heap.size + 1 + 1, 0, none⟩)]) (by simp) (by simp [go_sem]) ?_
      refine (idle37 _ _ _ _).mono ?_
      rintro e u' w5 ⟨rfl, rfl, rfl⟩
      have m0 : w5.cell? ⟨w.heap.size, 0, none⟩ = some (.bool xl) := (cell_of_block f0 0).trans rfl
      have m1 : w5.cell? ⟨w.heap.size, 1, none⟩ = some (.slice ab mb cb) := (cell_of_block f0 1).trans rfl
      have m2 : w5.cell? ⟨w.heap.size, 2, none⟩ = some (.slice ai mi ci) := (cell_of_block f0 2).trans rfl
      have l1 : w5.cell? ⟨w.heap.size + 1, 0, none⟩ = some (.int .i64 n) := (cell_of_block f1 0).trans rfl
      have l2 : w5.cell? ⟨w.heap.size + 1 + 1, 0, none⟩ = some (.int .i64 0) := (cell_of_block f2 0).trans rfl
      simp [Leaves, settle, results, Try.results15, go_sem, m0, m1, m2, l1, l2]
      rw [HFS.out]
      exact ⟨fb, .slice ab mb cb, .slice ai mi ci, by rw [H1.out.2.2.2.2.2], H1.out.2.2.2.2.1.mono (fun b hb => fo b hb.1) (fun b hb => ⟨by have := hb.1; omega, by rw [fs']; exact hb.2⟩)⟩
end Go.Proofs.Ytmnlcpfehbpogaa
