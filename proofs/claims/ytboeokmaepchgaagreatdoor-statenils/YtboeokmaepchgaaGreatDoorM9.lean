/- RI, RP, RV, laid into one text. -/
import Derived.Test.YtboeokmaepchgaaGreatDoorM8
import Derived.Defers
import Derived.Recover
import Derived.Laws.Bits64b
import Derived.RangeFuncNested
import Derived.RangeFuncBound
import Derived.RangeFuncCalls
import Derived.RangeFuncLeaves
import Derived.Shelf.Abstract
import Derived.Shelf.RegionOpen
import Derived.OwnWalkIn
import Derived.TacticsInMore
import Derived.LoopNIn
import Derived.LoopIn
import Derived.Deep.AppendLies
/- rlp: Encode. -/
namespace Go.Proofs.YtboeokmaepchgaaGreatDoor
open Go.RowKit Go.Maps Go.Joins
set_option linter.unusedSimpArgs false
set_option linter.unusedVariables false
set_option maxRecDepth 100000 in
set_option maxHeartbeats 2000000 in
theorem catch29 (p q : Addr) (v0 e0 : Value) (c : Int) (older : List PanicEntry) (w : World) (hc : w.cell? p = some v0) (hz : w.frozen? p = false) (hc' : w.cell? q = some e0) (hz' : w.frozen? q = false) (hne : p.block ≠ q.block) (hv0 : ∃ a n k, v0 = .slice a n k) (he0 : ∃ x, e0 = .int .i64 x) :
    CallsD Tryz.prog 149 #[.pointer (some p), .pointer (some q)] (.panicking ({ v := .iface 23 (.int .i64 c), recovered := false } :: older)) w fun e u' w' =>
      e = .returned (.tuple #[]) ∧ u' = .panicking ({ v := .iface 23 (.int .i64 c), recovered := true } :: older) ∧ w' = (w.setCell p (.slice none 0 0)).setCell q (.int .i64 c) := by
  obtain ⟨a, n, k, rfl⟩ := hv0
  obtain ⟨x, rfl⟩ := he0
  have hta : ∀ w : World, (Instr.typeAssert (.iface 23 (.int .i64 c)) 20 23 true).run Tryz.prog w = .ok (.tuple #[.int .i64 c, .bool true]) w := fun w => by kernel_rfl
  refine callsD_of_wpS Tryz.func149 rfl fun c₀ cs hu => ?_
  simp only [Tryz.ntmps149, List.size_toArray, List.length_cons, List.length_nil, Nat.reduceAdd, Nat.reduceSub, Array.replicate_succ, Array.replicate_zero, List.push_toArray, List.append_toArray, List.nil_append, List.cons_append]
  apply wpS_seq
  apply wpS_region
  simp [wpOpsS, go_sem, recoverD, hu, hta, Exit.thenS]
  have hq1 : (w.setCell p (.slice none 0 0)).cell? q = some (.int .i64 x) := by rw [World.cell?_setCell_far _ _ _ _ hne]; exact hc'
  have hq2 : (w.setCell p (.slice none 0 0)).frozen? q = false := by simpa using hz'
  refine wpS_of_wp ?_
  go_wp2
  exact ⟨rfl, _, rfl, _, results_none rfl _ _ _, rfl, rfl, rfl⟩
set_option maxRecDepth 100000 in
set_option maxHeartbeats 2000000 in
theorem idle29 (p q : Addr) (w : World) :
    CallsD Tryz.prog 149 #[.pointer (some p), .pointer (some q)] .returning w fun e u' w' => e = .returned (.tuple #[]) ∧ u' = .returning ∧ w' = w := by
  have hta : ∀ w : World, (Instr.typeAssert .nilIface 20 23 true).run Tryz.prog w = .ok (.tuple #[.int .i64 0, .bool false]) w := fun w => by kernel_rfl
  refine callsD_of_wpS Tryz.func149 rfl fun c₀ cs hu => ?_
  simp only [Tryz.ntmps149, List.size_toArray, List.length_cons, List.length_nil, Nat.reduceAdd, Nat.reduceSub, Array.replicate_succ, Array.replicate_zero, List.push_toArray, List.append_toArray, List.nil_append, List.cons_append]
  apply wpS_seq
  apply wpS_region
  simp [wpOpsS, go_sem, recoverD, hu, hta, Exit.thenS]
  refine wpS_of_wp ?_
  go_wp2
  exact ⟨rfl, c₀.mode, rfl, _, results_none rfl _ _ _, rfl, hu, rfl⟩
/-- Which error Encode tells. -/
def encE (x : Tr) : Int := if shp x = false then 1 else if 16 < dep x ∨ 65536 < (enc x).length then 3 else 0
def encR (x : Tr) : List Int := if encE x = 0 then enc x else []
set_option maxRecDepth 100000 in
set_option maxHeartbeats 8000000 in
/-- rlp.Encode -/
theorem encode_any (x : Tr) (w : World) (sb si : Value) (D : Nat → Prop) (h : ItV w D sb si x) (hD : ∀ b, D b → b < w.heap.size) :
    Calls Tryz.prog 123 #[.agg #[.bool x.l, sb, si]] w fun e w' => Below w.heap.size w w' ∧ ∃ v, e = .returned (.tuple #[v, .int .i64 (encE x)]) ∧ w'.ownsRow w.heap.size 5 1 v (encR x).length (vB (encR x)) := by
  have hmf : ∀ (fn : Fn) (first cap : Array Value) (w : World), (Instr.makeFunc fn first cap).run Tryz.prog w = .ok (.func fn first cap) w := fun _ _ _ _ => rfl
  obtain ⟨ab, cb, rfl⟩ := h.b.is.form
  obtain ⟨ai, ci, rfl, i1, i2, i3⟩ := h.xs.form
  have HI : Hid (ItV w D (.slice ab x.b.length cb) (.slice ai x.xs.length ci) x) := h
  obtain ⟨l, hl⟩ : ∃ l, l = x.l := ⟨_, rfl⟩
  obtain ⟨m, hm⟩ : ∃ m, m = x.b.length := ⟨_, rfl⟩
  obtain ⟨n, hn⟩ : ∃ n, n = x.xs.length := ⟨_, rfl⟩
  rw [← hm, ← hn] at HI
  rw [← hl, ← hm, ← hn]
  have HL : Hid (l = x.l) := hl
  have HD : Hid (∀ b, D b → b < w.heap.size) := hD
  clear h hD hl hm hn i1 i2 i3
  go_enter_defers Tryz.func123, Tryz.ntmps123
  go_wp2_with fail
  have hh1 : ∀ (A B C : Obj), (((w.alloc A).alloc B).alloc C).heap[w.heap.size]? = some A := fun A B C => by
    rw [heap_alloc_old _ _ (by simp; omega), heap_alloc_old _ _ (by simp)]; exact heap_alloc_new _ _
  have hh2 : ∀ (A B C : Obj), (((w.alloc A).alloc B).alloc C).heap[w.heap.size + 1]? = some B := fun A B C => by
    rw [heap_alloc_old _ _ (by simp)]; have := heap_alloc_new (w.alloc A) B; simpa using this
  have hh3 : ∀ (A B C : Obj), (((w.alloc A).alloc B).alloc C).heap[w.heap.size + 1 + 1]? = some C := fun A B C => by
    have := heap_alloc_new ((w.alloc A).alloc B) C; simpa using this
  have B0 : Hid ((((w.alloc (.cells #[.bool l, .slice ab m cb, .slice ai n ci] 154)).alloc (.cells #[.slice none 0 0] 22)).alloc (.cells #[.int .i64 0] 23)).heap[w.heap.size]? = some (.cells #[.bool l, .slice ab m cb, .slice ai n ci] 154) ∧ (((w.alloc (.cells #[.bool l, .slice ab m cb, .slice ai n ci] 154)).alloc (.cells #[.slice none 0 0] 22)).alloc (.cells #[.int .i64 0] 23)).heap[w.heap.size + 1]? = some (.cells #[.slice none 0 0] 22) ∧ (((w.alloc (.cells #[.bool l, .slice ab m cb, .slice ai n ci] 154)).alloc (.cells #[.slice none 0 0] 22)).alloc (.cells #[.int .i64 0] 23)).heap[w.heap.size + 1 + 1]? = some (.cells #[.int .i64 0] 23) ∧ Below w.heap.size w (((w.alloc (.cells #[.bool l, .slice ab m cb, .slice ai n ci] 154)).alloc (.cells #[.slice none 0 0] 22)).alloc (.cells #[.int .i64 0] 23)) ∧ w.heap.size + 3 ≤ (((w.alloc (.cells #[.bool l, .slice ab m cb, .slice ai n ci] 154)).alloc (.cells #[.slice none 0 0] 22)).alloc (.cells #[.int .i64 0] 23)).heap.size) := ⟨hh1 _ _ _, hh2 _ _ _, hh3 _ _ _, by go_grown, by simp⟩
  clear hh1 hh2 hh3
  generalize ((w.alloc (.cells #[.bool l, .slice ab m cb, .slice ai n ci] 154)).alloc (.cells #[.slice none 0 0] 22)).alloc (.cells #[.int .i64 0] 23) = w0 at B0 ⊢
  have hI0 : ItV w0 D (.slice ab m cb) (.slice ai n ci) x := HI.out.mono (fun b hb => B0.out.2.2.2.1.block b (HD.out b hb)) (fun _ h => h)
  have hD0 : ∀ b, D b → b < w0.heap.size := fun b hb => Nat.lt_of_lt_of_le (HD.out b hb) B0.out.2.2.2.1.size
  have hC := check_any x w0 _ _ D hI0 hD0
  rw [← HL.out] at hC
  -- the end with an error
  have hend : ∀ (c : Int) (w1 : World), Below w0.heap.size w0 w1 → encE x = c → c ≠ 0 → ∀ tmps : Array Value, tmps.size = 9 → tmps[2]? = some (.pointer (some ⟨w.heap.size + 1, 0, none⟩)) → tmps[3]? = some (.pointer (some ⟨w.heap.size + 1 + 1, 0, none⟩)) →
      bodyPostD Tryz.prog Tryz.f123 (fun e w' => Below w.heap.size w w' ∧ ∃ v, e = Ending.returned (Value.tuple #[v, Value.int IntKind.i64 (encE x)]) ∧ w'.ownsRow w.heap.size 5 1 v (encR x).length (vB (encR x))) (Exit.panic [{ v := .iface 23 (.int .i64 c), recovered := false }]) { tmps := tmps, defers := [{ target := Target.fn (Fn.func 149) #[Value.pointer (some { block := w.heap.size + 1, off := 0 }), Value.pointer (some { block := w.heap.size + 1 + 1, off := 0 })], args := #[] }] } w1 := by
    intro c w1 hb1 hE hc0 tmps ht0 ht2 ht3
    have hk1 : w1.heap[w.heap.size + 1]? = some (.cells #[.slice none 0 0] 22) := (hb1.block _ (by have := B0.out.2.2.2.2; omega)).trans B0.out.2.1
    have hk2 : w1.heap[w.heap.size + 1 + 1]? = some (.cells #[.int .i64 0] 23) := (hb1.block _ (by have := B0.out.2.2.2.2; omega)).trans B0.out.2.2.1
    have c1 : w1.cell? ⟨w.heap.size + 1, 0, none⟩ = some (.slice none 0 0) := (cell_of_block hk1 0).trans rfl
    have c2 : w1.cell? ⟨w.heap.size + 1 + 1, 0, none⟩ = some (.int .i64 0) := (cell_of_block hk2 0).trans rfl
    refine leaves_cons (f := 149) (args := #[.pointer (some ⟨w.heap.size + 1, 0, none⟩), .pointer (some ⟨w.heap.size + 1 + 1, 0, none⟩)]) (by simp) (by simp [go_sem]) ?_
    refine (catch29 ⟨w.heap.size + 1, 0, none⟩ ⟨w.heap.size + 1 + 1, 0, none⟩ _ _ c [] w1 c1 (unfrozen_of_block hk1 0) c2 (unfrozen_of_block hk2 0) (by simp) ⟨_, _, _, rfl⟩ ⟨_, rfl⟩).mono ?_
    rintro e u' w2 ⟨rfl, rfl, rfl⟩
    have d1 : ((w1.setCell ⟨w.heap.size + 1, 0, none⟩ (.slice none 0 0)).setCell ⟨w.heap.size + 1 + 1, 0, none⟩ (.int .i64 c)).cell? ⟨w.heap.size + 1, 0, none⟩ = some (.slice none 0 0) := by
      rw [World.cell?_setCell_far _ _ _ _ (by show w.heap.size + 1 + 1 ≠ w.heap.size + 1; omega)]; exact World.cell?_setCell_same' _ _ _ (by rw [c1]; rfl)
    have d2 : ((w1.setCell ⟨w.heap.size + 1, 0, none⟩ (.slice none 0 0)).setCell ⟨w.heap.size + 1 + 1, 0, none⟩ (.int .i64 c)).cell? ⟨w.heap.size + 1 + 1, 0, none⟩ = some (.int .i64 c) := by
      refine World.cell?_setCell_same' _ _ _ ?_
      rw [World.cell?_setCell_far _ _ _ _ (by show w.heap.size + 1 ≠ w.heap.size + 1 + 1; omega), c2]; rfl
    have hbw : Below w.heap.size w ((w1.setCell ⟨w.heap.size + 1, 0, none⟩ (.slice none 0 0)).setCell ⟨w.heap.size + 1 + 1, 0, none⟩ (.int .i64 c)) := by
      have hb2 : Below w.heap.size w w1 := B0.out.2.2.2.1.trans (hb1.mono B0.out.2.2.2.1.size)
      exact (hb2.setCell (by show w.heap.size ≤ w.heap.size + 1; omega) _).setCell (by show w.heap.size ≤ w.heap.size + 1 + 1; omega) _
    generalize (w1.setCell ⟨w.heap.size + 1, 0, none⟩ (.slice none 0 0)).setCell ⟨w.heap.size + 1 + 1, 0, none⟩ (.int .i64 c) = w2 at d1 d2 hbw
    simp [Leaves, settle, results, Tryz.results123, go_sem, ht2, ht3, d1, d2]
    refine ⟨hbw, _, ⟨rfl, hE.symm⟩, ?_⟩
    have : encR x = [] := by unfold encR; rw [if_neg (by rw [hE]; exact hc0)]
    rw [this]
    exact World.ownsRow_nil _ _ _ _
  have HEnd : Hid _ := hend
  clear hend
  refine Calls.mono hC ?_
  clear hC
  rintro e w1 ⟨hb1, he1, he2⟩
  cases hs : shp x with
  | false =>
    obtain rfl := he2 hs
    exact HEnd.out 1 w1 hb1 (by unfold encE; rw [if_pos hs]) (by decide) _ rfl rfl rfl
  | true =>
    obtain rfl := he1 hs
    clear he1 he2
    have hk0 : w1.heap[w.heap.size]? = some (.cells #[.bool l, .slice ab m cb, .slice ai n ci] 154) := (hb1.block _ (by have := B0.out.2.2.2.2; omega)).trans B0.out.1
    have c0 : w1.cell? ⟨w.heap.size, 0, none⟩ = some (.bool l) := (cell_of_block hk0 0).trans rfl
    have c1 : w1.cell? ⟨w.heap.size, 1, none⟩ = some (.slice ab m cb) := (cell_of_block hk0 1).trans rfl
    have c2 : w1.cell? ⟨w.heap.size, 2, none⟩ = some (.slice ai n ci) := (cell_of_block hk0 2).trans rfl
    have H1 : Hid (Below w0.heap.size w0 w1 ∧ shp x = true) := ⟨hb1, hs⟩
    have hA := appI_any x w1 w1.heap.size (.slice none 0 0) (.slice ab m cb) (.slice ai n ci) [] 0 (World.ownsRow_nil _ _ _ _) (hI0.mono (fun b hb => hb1.block b (hD0 b hb)) (fun b hb => ⟨Nat.lt_of_lt_of_le (hD0 b hb) hb1.size, by simp [Value.ownBlock]⟩)) (by simp) (Nat.le_refl _) (by decide)
    rw [← HL.out] at hA
    have HA : Hid _ := hA
    clear hA hI0 hD0 hb1 hs hk0
    go_wp2_with fail
    refine Calls.mono HA.out ?_
    rintro e w2 ⟨hg, he1, he2⟩
    have hb2 : Below w1.heap.size w1 w2 := ⟨hg.os, hg.tape, hg.output, hg.size, fun k hk => hg.block k hk (by simp [Value.ownBlock])⟩
    have hb02 : Below w0.heap.size w0 w2 := H1.out.1.trans (hb2.mono H1.out.1.size)
    by_cases hbad : Bad 0 [] x
    · obtain rfl := he1 hbad
      refine HEnd.out 3 w2 hb02 ?_ (by decide) _ rfl rfl rfl
      unfold encE
      rw [if_neg (by rw [H1.out.2]; simp), if_pos]
      rcases hbad with h | h
      · exact Or.inl (by simpa using h)
      · exact Or.inr (by simpa using h)
    · obtain ⟨v, rfl, ho, ha⟩ := he2 hbad
      have hE : encE x = 0 := by
        unfold encE
        rw [if_neg (by rw [H1.out.2]; simp), if_neg]
        rintro (h | h)
        · exact hbad (Or.inl (by simpa using h))
        · exact hbad (Or.inr (by simpa using h))
      have hR : encR x = enc x := by unfold encR; rw [if_pos hE]
      obtain ⟨av, cv, rfl⟩ := row_form ho
      rw [List.nil_append] at ho ⊢
      obtain ⟨L, hL⟩ : ∃ L, L = (enc x).length := ⟨_, rfl⟩
      have hk1 : w2.heap[w.heap.size + 1]? = some (.cells #[.slice none 0 0] 22) := (hb02.block _ (by have := B0.out.2.2.2.2; omega)).trans B0.out.2.1
      have hk2 : w2.heap[w.heap.size + 1 + 1]? = some (.cells #[.int .i64 0] 23) := (hb02.block _ (by have := B0.out.2.2.2.2; omega)).trans B0.out.2.2.1
      have c1 : w2.cell? ⟨w.heap.size + 1, 0, none⟩ = some (.slice none 0 0) := (cell_of_block hk1 0).trans rfl
      have c2 : w2.cell? ⟨w.heap.size + 1 + 1, 0, none⟩ = some (.int .i64 0) := (cell_of_block hk2 0).trans rfl
      have z1 := unfrozen_of_block hk1 0
      have z2 := unfrozen_of_block hk2 0
      have d2 : (w2.setCell ⟨w.heap.size + 1, 0, none⟩ (.slice av L cv)).cell? ⟨w.heap.size + 1 + 1, 0, none⟩ = some (.int .i64 0) := by
        rw [World.cell?_setCell_far _ _ _ _ (by show w.heap.size + 1 ≠ w.heap.size + 1 + 1; omega)]; exact c2
      have H2 : Hid (w2.ownsRow w1.heap.size 5 1 (.slice av L cv) (enc x).length (vB (enc x)) ∧ Below w0.heap.size w0 w2 ∧ encE x = 0 ∧ encR x = enc x) := ⟨by rw [hL]; exact ho, hb02, hE, hR⟩
      rw [← hL]
      clear hg he1 he2 hb2 hb02 hbad ho ha hE hR hL hk1 hk2
      go_wp2
      refine leaves_cons (f := 149) (args := #[.pointer (some ⟨w.heap.size + 1, 0, none⟩), .pointer (some ⟨w.heap.size + 1 + 1, 0, none⟩)]) (by simp) (by simp [go_sem]) ?_
      refine (idle29 _ _ _).mono ?_
      rintro e u' w3 ⟨rfl, rfl, rfl⟩
      have d3 : ((w2.setCell ⟨w.heap.size + 1, 0, none⟩ (.slice av L cv)).setCell ⟨w.heap.size + 1 + 1, 0, none⟩ (.int .i64 0)).cell? ⟨w.heap.size + 1, 0, none⟩ = some (.slice av L cv) := by
        rw [World.cell?_setCell_far _ _ _ _ (by show w.heap.size + 1 + 1 ≠ w.heap.size + 1; omega)]; exact World.cell?_setCell_same' _ _ _ (by rw [c1]; rfl)
      have d4 : ((w2.setCell ⟨w.heap.size + 1, 0, none⟩ (.slice av L cv)).setCell ⟨w.heap.size + 1 + 1, 0, none⟩ (.int .i64 0)).cell? ⟨w.heap.size + 1 + 1, 0, none⟩ = some (.int .i64 0) := World.cell?_setCell_same' _ _ _ (by rw [d2]; rfl)
      have hb3 : Below w.heap.size w ((w2.setCell ⟨w.heap.size + 1, 0, none⟩ (.slice av L cv)).setCell ⟨w.heap.size + 1 + 1, 0, none⟩ (.int .i64 0)) := ((B0.out.2.2.2.1.trans (H2.out.2.1.mono B0.out.2.2.2.1.size)).setCell (by show w.heap.size ≤ w.heap.size + 1; omega) _).setCell (by show w.heap.size ≤ w.heap.size + 1 + 1; omega) _
      have hw1 : w.heap.size + 3 ≤ w1.heap.size := by have := B0.out.2.2.2.2; have := H1.out.1.size; omega
      have ho3 : ((w2.setCell ⟨w.heap.size + 1, 0, none⟩ (.slice av L cv)).setCell ⟨w.heap.size + 1 + 1, 0, none⟩ (.int .i64 0)).ownsRow w.heap.size 5 1 (.slice av L cv) (enc x).length (vB (enc x)) := by
        refine ownsRow_heap (ownsRow_le H2.out.1 (by omega)) (fun b hb => ?_)
        have := (H2.out.1.lt b hb).1
        rw [Below.heap_setCell _ _ _ _ (by show b ≠ w.heap.size + 1 + 1; omega), Below.heap_setCell _ _ _ _ (by show b ≠ w.heap.size + 1; omega)]
      generalize (w2.setCell ⟨w.heap.size + 1, 0, none⟩ (.slice av L cv)).setCell ⟨w.heap.size + 1 + 1, 0, none⟩ (.int .i64 0) = w4 at d3 d4 hb3 ho3
      simp [Leaves, settle, results, Tryz.results123, go_sem, d3, d4]
      refine ⟨hb3, _, ⟨rfl, H2.out.2.2.1.symm⟩, ?_⟩
      rw [H2.out.2.2.2]
      exact ho3
end Go.Proofs.YtboeokmaepchgaaGreatDoor
/- rlp: read, but for lists. -/
namespace Go.Proofs.YtboeokmaepchgaaGreatDoor
open Go.RowKit Go.Maps Go.Joins Go.Shelf
set_option linter.unusedSimpArgs false
set_option linter.unusedVariables false
theorem BytD.of_own {w : World} {base : Nat} {D : Nat → Prop} {v : Value} {bs : List Int} (h : w.ownsRow base 5 1 v bs.length (vB bs)) (hD : ∀ b, base ≤ b → b < w.heap.size → D b) (hl : bs.length ≤ 140737488355328) : BytD w D v bs :=
  ⟨BytesV.of_own h, fun b hb => by have := h.lt b (dBlock_own hb); exact hD b this.1 this.2, hl⟩
theorem load31 {w : World} {b : Nat} {x y z : Value} (h : w.heap[b]? = some (.cells #[x, y, z] 154)) : (loadVar 154 ⟨b, 0, none⟩).run Tryz.prog w = .ok (.agg #[x, y, z]) w :=
  run_loadVar_row w b 154 154 #[x, y, z] (0, 0) _ h Tryz.underlying154 rfl (by kernel_rfl)
/-- Three cells are stored. -/
theorem set31 {w : World} {b : Nat} {x y z x' y' z' : Value} (h : w.heap[b]? = some (.cells #[x, y, z] 154)) : (((w.setCell ⟨b, 0, none⟩ x').setCell ⟨b, 1, none⟩ y').setCell ⟨b, 2, none⟩ z').heap[b]? = some (.cells #[x', y', z'] 154) :=
  heap_setCell_same _ b 2 _ 154 z' (heap_setCell_same _ b 1 _ 154 y' (heap_setCell_same _ b 0 _ 154 x' h))
theorem set31_other (w : World) (b k : Nat) (x' y' z' : Value) (h : k ≠ b) : (((w.setCell ⟨b, 0, none⟩ x').setCell ⟨b, 1, none⟩ y').setCell ⟨b, 2, none⟩ z').heap[k]? = w.heap[k]? := by
  rw [Below.heap_setCell _ _ _ _ h, Below.heap_setCell _ _ _ _ h, Below.heap_setCell _ _ _ _ h]
theorem set31_below {w0 w : World} {B b : Nat} (h : Below B w0 w) (hb : B ≤ b) (x' y' z' : Value) : Below B w0 (((w.setCell ⟨b, 0, none⟩ x').setCell ⟨b, 1, none⟩ y').setCell ⟨b, 2, none⟩ z') :=
  ((h.setCell (p := ⟨b, 0, none⟩) hb _).setCell (p := ⟨b, 1, none⟩) hb _).setCell (p := ⟨b, 2, none⟩) hb _
theorem set31_size (w : World) (b : Nat) (x' y' z' : Value) : (((w.setCell ⟨b, 0, none⟩ x').setCell ⟨b, 1, none⟩ y').setCell ⟨b, 2, none⟩ z').heap.size = w.heap.size := by simp
end Go.Proofs.YtboeokmaepchgaaGreatDoor
/- rlp: Own (the law's). -/
namespace Go.Proofs.YtboeokmaepchgaaGreatDoor
open Go.RowKit Go.Maps Go.Joins
set_option linter.unusedSimpArgs false
set_option linter.unusedVariables false
/-- No panic comes. -/
def noP (Q : Exit → Act → World → Prop) : Exit → Act → World → Prop
  | .panic _, _, _ => False
  | e, a, w => Q e a w
theorem wp_noP {P : Program} {c : Code} {Q : Exit → Act → World → Prop} {a : Act} {w : World} (h : c.wp P (noP Q) a w) : c.wp P Q a w := by
  refine wp_mono h ?_
  intro e a w hq
  cases e <;> first | exact hq | exact hq.elim
end Go.Proofs.YtboeokmaepchgaaGreatDoor
