/- RI, RJ, laid into one text. -/
import Derived.Test.YtmnlcpfehbpogaaRH
import Derived.Defers
import Derived.Recover
import Derived.Laws.Bits64b
/- rlp: Encode. -/
namespace Go.Proofs.Ytmnlcpfehbpogaa
open Go.RowKit Go.Maps Go.Joins
set_option linter.unusedSimpArgs false
set_option linter.unusedVariables false
set_option maxRecDepth 100000 in
set_option maxHeartbeats 2000000 in
theorem catch29 (p q : Addr) (v0 e0 : Value) (c : Int) (older : List PanicEntry) (w : World) (hc : w.cell? p = some v0) (hz : w.frozen? p = false) (hc' : w.cell? q = some e0) (hz' : w.frozen? q = false) (hne : p.block ≠ q.block) (hv0 : ∃ a n k, v0 = .slice a n k) (he0 : ∃ x, e0 = .int .i64 x) :
    CallsD Try.prog 29 #[.pointer (some p), .pointer (some q)] (.panicking ({ v := .iface 26 (.int .i64 c), recovered := false } :: older)) w fun e u' w' =>
      e = .returned (.tuple #[]) ∧ u' = .panicking ({ v := .iface 26 (.int .i64 c), recovered := true } :: older) ∧ w' = (w.setCell p (.slice none 0 0)).setCell q (.int .i64 c) := by
  obtain ⟨a, n, k, rfl⟩ := hv0
  obtain ⟨x, rfl⟩ := he0
  have hta : ∀ w : World, (Instr.typeAssert (.iface 26 (.int .i64 c)) 20 26 true).run Try.prog w = .ok (.tuple #[.int .i64 c, .bool true]) w := fun w => by kernel_rfl
  refine callsD_of_wpS Try.func29 rfl fun c₀ cs hu => ?_
  simp only [Try.ntmps29, List.size_toArray, List.length_cons, List.length_nil, Nat.reduceAdd, Nat.reduceSub, Array.replicate_succ, Array.replicate_zero, List.push_toArray, List.append_toArray, List.nil_append, List.cons_append]
  apply wpS_seq
  apply wpS_region
  simp [wpOpsS, go_sem, recoverD, hu, hta, Exit.thenS]
  have hq1 : (w.setCell p (.slice none 0 0)).cell? q = some (.int .i64 x) := by rw [World.cell?_setCell_far _ _ _ _ hne]; exact hc'
  have hq2 : (w.setCell p (.slice none 0 0)).frozen? q = false := by simpa using hz'
  refine wpS_of_wp ?_
  go_wp2
  exact ⟨rfl, _, rfl, _, results_none rfl _ _ _, rfl, rfl, rfl⟩
set_option maxRecDepth 100000 in
set_option maxHeartbeats 2000000 in
theorem idle29 (p q : Addr) (w : World) :
    CallsD Try.prog 29 #[.pointer (some p), .pointer (some q)] .returning w fun e u' w' => e = .returned (.tuple #[]) ∧ u' = .returning ∧ w' = w := by
  have hta : ∀ w : World, (Instr.typeAssert .nilIface 20 26 true).run Try.prog w = .ok (.tuple #[.int .i64 0, .bool false]) w := fun w => by kernel_rfl
  refine callsD_of_wpS Try.func29 rfl fun c₀ cs hu => ?_
  simp only [Try.ntmps29, List.size_toArray, List.length_cons, List.length_nil, Nat.reduceAdd, Nat.reduceSub, Array.replicate_succ, Array.replicate_zero, List.push_toArray, List.append_toArray, List.nil_append, List.cons_append]
  apply wpS_seq
  apply wpS_region
  simp [wpOpsS, go_sem, recoverD, hu, hta, Exit.thenS]
  refine wpS_of_wp ?_
  go_wp2
  exact ⟨rfl, c₀.mode, rfl, _, results_none rfl _ _ _, rfl, hu, rfl⟩
/-- Which error Encode tells. -/
def encE (x : Tr) : Int := if shp x = false then 1 else if 16 < dep x ∨ 65536 < (enc x).length then 3 else 0
def encR (x : Tr) : List Int := if encE x = 0 then enc x else []
set_option maxRecDepth 100000 in
set_option maxHeartbeats 8000000 in
/-- rlp.Encode -/
theorem encode_any (x : Tr) (w : World) (sb si : Value) (D : Nat → Prop) (h : ItV w D sb si x) (hD : ∀ b, D b → b < w.heap.size) :
    Calls Try.prog 8 #[.agg #[.bool x.l, sb, si]] w fun e w' => Below w.heap.size w w' ∧ ∃ v, e = .returned (.tuple #[v, .int .i64 (encE x)]) ∧ w'.ownsRow w.heap.size 5 1 v (encR x).length (vB (encR x)) := by
  have hmf : ∀ (fn : Fn) (first cap : Array Value) (w : World), (Instr.makeFunc fn first cap).run Try.prog w = .ok (.func fn first cap) w := fun _ _ _ _ => rfl
  obtain ⟨ab, cb, rfl⟩ := h.b.is.form
  obtain ⟨ai, ci, rfl, i1, i2, i3⟩ := h.xs.form
  have HI : Hid (ItV w D (.slice ab x.b.length cb) (.slice ai x.xs.length ci) x) := h
  obtain ⟨l, hl⟩ : ∃ l, l = x.l := ⟨_, rfl⟩
  obtain ⟨m, hm⟩ : ∃ m, m = x.b.length := ⟨_, rfl⟩
  obtain ⟨n, hn⟩ : ∃ n, n = x.xs.length := ⟨_, rfl⟩
  rw [← hm, ← hn] at HI
  rw [← hl, ← hm, ← hn]
  have HL : Hid (l = x.l) := hl
  have HD : Hid (∀ b, D b → b < w.heap.size) := hD
  clear h hD hl hm hn i1 i2 i3
  go_enter_defers Try.func8, Try.ntmps8
  go_wp2_with fail
  have hh1 : ∀ (A B C : Obj), (((w.alloc A).alloc B).alloc C).heap[w.heap.size]? = some A := fun A B C => by
    rw [heap_alloc_old _ _ (by simp; omega), heap_alloc_old _ _ (by simp)]; exact heap_alloc_new _ _
  have hh2 : ∀ (A B C : Obj), (((w.alloc A).alloc B).alloc C).heap[w.heap.size + 1]? = some B := fun A B C => by
    rw [heap_alloc_old _ _ (by simp)]; have := heap_alloc_new (w.alloc A) B; simpa using this
  have hh3 : ∀ (A B C : Obj), (((w.alloc A).alloc B).alloc C).heap[w.heap.size + 1 + 1]? = some C := fun A B C => by
    have := heap_alloc_new ((w.alloc A).alloc B) C; simpa using this
  have B0 : Hid ((((w.alloc (.cells #[.bool l, .slice ab m cb, .slice ai n ci] 31)).alloc (.cells #[.slice none 0 0] 22)).alloc (.cells #[.int .i64 0] 26)).heap[w.heap.size]? = some (.cells #[.bool l, .slice ab m cb, .slice ai n ci] 31) ∧ (((w.alloc (.cells #[.bool l, .slice ab m cb, .slice ai n ci] 31)).alloc (.cells #[.slice none 0 0] 22)).alloc (.cells #[.int .i64 0] 26)).heap[w.heap.size + 1]? = some (.cells #[.slice none 0 0] 22) ∧ (((w.alloc (.cells #[.bool l, .slice ab m cb, .slice ai n ci] 31)).alloc (.cells #[.slice none 0 0] 22)).alloc (.cells #[.int .i64 0] 26)).heap[w.heap.size + 1 + 1]? = some (.cells #[.int .i64 0] 26) ∧ Below w.heap.size w (((w.alloc (.cells #[.bool l, .slice ab m cb, .slice ai n ci] 31)).alloc (.cells #[.slice none 0 0] 22)).alloc (.cells #[.int .i64 0] 26)) ∧ w.heap.size + 3 ≤ (((w.alloc (.cells #[.bool l, .slice ab m cb, .slice ai n ci] 31)).alloc (.cells #[.slice none 0 0] 22)).alloc (.cells #[.int .i64 0] 26)).heap.size) := ⟨hh1 _ _ _, hh2 _ _ _, hh3 _ _ _, by go_grown, by simp⟩
  clear hh1 hh2 hh3
  generalize ((w.alloc (.cells #[.bool l, .slice ab m cb, .slice ai n ci] 31)).alloc (.cells #[.slice none 0 0] 22)).alloc (.cells #[.int .i64 0] 26) = w0 at B0 ⊢
  have hI0 : ItV w0 D (.slice ab m cb) (.slice ai n ci) x := HI.out.mono (fun b hb => B0.out.2.2.2.1.block b (HD.out b hb)) (fun _ h => h)
  have hD0 : ∀ b, D b → b < w0.heap.size := fun b hb => Nat.lt_of_lt_of_le (HD.out b hb) B0.out.2.2.2.1.size
  have hC := check_any x w0 _ _ D hI0 hD0
  rw [← HL.out] at hC
  -- the end with an error
  have hend : ∀ (c : Int) (w1 : World), Below w0.heap.size w0 w1 → encE x = c → c ≠ 0 → ∀ tmps : Array Value, tmps.size = 9 → tmps[2]? = some (.pointer (some ⟨w.heap.size + 1, 0, none⟩)) → tmps[3]? = some (.pointer (some ⟨w.heap.size + 1 + 1, 0, none⟩)) →
      bodyPostD Try.prog Try.f8 (fun e w' => Below w.heap.size w w' ∧ ∃ v, e = Ending.returned (Value.tuple #[v, Value.int IntKind.i64 (encE x)]) ∧ w'.ownsRow w.heap.size 5 1 v (encR x).length (vB (encR x))) (Exit.panic [{ v := .iface 26 (.int .i64 c), recovered := false }]) { tmps := tmps, defers := [{ target := Target.fn (Fn.func 29) #[Value.pointer (some { block := w.heap.size + 1, off := 0 }), Value.pointer (some { block := w.heap.size + 1 + 1, off := 0 })], args := #[] }] } w1 := by
    intro c w1 hb1 hE hc0 tmps ht0 ht2 ht3
    have hk1 : w1.heap[w.heap.size + 1]? = some (.cells #[.slice none 0 0] 22) := (hb1.block _ (by have := B0.out.2.2.2.2; omega)).trans B0.out.2.1
    have hk2 : w1.heap[w.heap.size + 1 + 1]? = some (.cells #[.int .i64 0] 26) := (hb1.block _ (by have := B0.out.2.2.2.2; omega)).trans B0.out.2.2.1
    have c1 : w1.cell? ⟨w.heap.size + 1, 0, none⟩ = some (.slice none 0 0) := (cell_of_block hk1 0).trans rfl
    have c2 : w1.cell? ⟨w.heap.size + 1 + 1, 0, none⟩ = some (.int .i64 0) := (cell_of_block hk2 0).trans rfl
    refine leaves_cons (f := 29) (args := #[.pointer (some ⟨w.heap.size + 1, 0, none⟩), .pointer (some ⟨w.heap.size + 1 + 1, 0, none⟩)]) (by simp) (by simp [go_sem]) ?_
    refine (catch29 ⟨w.heap.size + 1, 0, none⟩ ⟨w.heap.size + 1 + 1, 0, none⟩ _ _ c [] w1 c1 (unfrozen_of_block hk1 0) c2 (unfrozen_of_block hk2 0) (by simp) ⟨_, _, _, rfl⟩ ⟨_, rfl⟩).mono ?_
    rintro e u' w2 ⟨rfl, rfl, rfl⟩
    have d1 : ((w1.setCell ⟨w.heap.size + 1, 0, none⟩ (.slice none 0 0)).setCell ⟨w.heap.size + 1 + 1, 0, none⟩ (.int .i64 c)).cell? ⟨w.heap.size + 1, 0, none⟩ = some (.slice none 0 0) := by
      rw [World.cell?_setCell_far _ _ _ _ (by show w.heap.size + 1 + 1 ≠ w.heap.size + 1; omega)]; exact World.cell?_setCell_same' _ _ _ (by rw [c1]; rfl)
    have d2 : ((w1.setCell ⟨w.heap.size + 1, 0, none⟩ (.slice none 0 0)).setCell ⟨w.heap.size + 1 + 1, 0, none⟩ (.int .i64 c)).cell? ⟨w.heap.size + 1 + 1, 0, none⟩ = some (.int .i64 c) := by
      refine World.cell?_setCell_same' _ _ _ ?_
      rw [World.cell?_setCell_far _ _ _ _ (by show w.heap.size + 1 ≠ w.heap.size + 1 + 1; omega), c2]; rfl
    have hbw : Below w.heap.size w ((w1.setCell ⟨w.heap.size + 1, 0, none⟩ (.slice none 0 0)).setCell ⟨w.heap.size + 1 + 1, 0, none⟩ (.int .i64 c)) := by
      have hb2 : Below w.heap.size w w1 := B0.out.2.2.2.1.trans (hb1.mono B0.out.2.2.2.1.size)
      exact (hb2.setCell (by show w.heap.size ≤ w.heap.size + 1; omega) _).setCell (by show w.heap.size ≤ w.heap.size + 1 + 1; omega) _
    generalize (w1.setCell ⟨w.heap.size + 1, 0, none⟩ (.slice none 0 0)).setCell ⟨w.heap.size + 1 + 1, 0, none⟩ (.int .i64 c) = w2 at d1 d2 hbw
    simp [Leaves, settle, results, Try.results8, go_sem, ht2, ht3, d1, d2]
    refine ⟨hbw, _, ⟨rfl, hE.symm⟩, ?_⟩
    have : encR x = [] := by unfold encR; rw [if_neg (by rw [hE]; exact hc0)]
    rw [this]
    exact World.ownsRow_nil _ _ _ _
  have HEnd : Hid _ := hend
  clear hend
  refine Calls.mono hC ?_
  clear hC
  rintro e w1 ⟨hb1, he1, he2⟩
  cases hs : shp x with
  | false =>
    obtain rfl := he2 hs
    exact HEnd.out 1 w1 hb1 (by unfold encE; rw [if_pos hs]) (by decide) _ rfl rfl rfl
  | true =>
    obtain rfl := he1 hs
    clear he1 he2
    have hk0 : w1.heap[w.heap.size]? = some (.cells #[.bool l, .slice ab m cb, .slice ai n ci] 31) := (hb1.block _ (by have := B0.out.2.2.2.2; omega)).trans B0.out.1
    have c0 : w1.cell? ⟨w.heap.size, 0, none⟩ = some (.bool l) := (cell_of_block hk0 0).trans rfl
    have c1 : w1.cell? ⟨w.heap.size, 1, none⟩ = some (.slice ab m cb) := (cell_of_block hk0 1).trans rfl
    have c2 : w1.cell? ⟨w.heap.size, 2, none⟩ = some (.slice ai n ci) := (cell_of_block hk0 2).trans rfl
    have H1 : Hid (Below w0.heap.size w0 w1 ∧ shp x = true) := ⟨hb1, hs⟩
    have hA := appI_any x w1 w1.heap.size (.slice none 0 0) (.slice ab m cb) (.slice ai n ci) [] 0 (World.ownsRow_nil _ _ _ _) (hI0.mono (fun b hb => hb1.block b (hD0 b hb)) (fun b hb => ⟨Nat.lt_of_lt_of_le (hD0 b hb) hb1.size, by simp [Value.ownBlock]⟩)) (by simp) (Nat.le_refl _) (by decide)
    rw [← HL.out] at hA
    have HA : Hid _ := hA
    clear hA hI0 hD0 hb1 hs hk0
    go_wp2_with fail
    refine Calls.mono HA.out ?_
    rintro e w2 ⟨hg, he1, he2⟩
    have hb2 : Below w1.heap.size w1 w2 := ⟨hg.os, hg.tape, hg.output, hg.size, fun k hk => hg.block k hk (by simp [Value.ownBlock])⟩
    have hb02 : Below w0.heap.size w0 w2 := H1.out.1.trans (hb2.mono H1.out.1.size)
    by_cases hbad : Bad 0 [] x
    · obtain rfl := he1 hbad
      refine HEnd.out 3 w2 hb02 ?_ (by decide) _ rfl rfl rfl
      unfold encE
      rw [if_neg (by rw [H1.out.2]; simp), if_pos]
      rcases hbad with h | h
      · exact Or.inl (by simpa using h)
      · exact Or.inr (by simpa using h)
    · obtain ⟨v, rfl, ho, ha⟩ := he2 hbad
      have hE : encE x = 0 := by
        unfold encE
        rw [if_neg (by rw [H1.out.2]; simp), if_neg]
        rintro (h | h)
        · exact hbad (Or.inl (by simpa using h))
        · exact hbad (Or.inr (by simpa using h))
      have hR : encR x = enc x := by unfold encR; rw [if_pos hE]
      obtain ⟨av, cv, rfl⟩ := row_form ho
      rw [List.nil_append] at ho ⊢
      obtain ⟨L, hL⟩ : ∃ L, L = (enc x).length := ⟨_, rfl⟩
      have hk1 : w2.heap[w.heap.size + 1]? = some (.cells #[.slice none 0 0] 22) := (hb02.block _ (by have := B0.out.2.2.2.2; omega)).trans B0.out.2.1
      have hk2 : w2.heap[w.heap.size + 1 + 1]? = some (.cells #[.int .i64 0] 26) := (hb02.block _ (by have := B0.out.2.2.2.2; omega)).trans B0.out.2.2.1
      have c1 : w2.cell? ⟨w.heap.size + 1, 0, none⟩ = some (.slice none 0 0) := (cell_of_block hk1 0).trans rfl
      have c2 : w2.cell? ⟨w.heap.size + 1 + 1, 0, none⟩ = some (.int .i64 0) := (cell_of_block hk2 0).trans rfl
      have z1 := unfrozen_of_block hk1 0
      have z2 := unfrozen_of_block hk2 0
      have d2 : (w2.setCell ⟨w.heap.size + 1, 0, none⟩ (.slice av L cv)).cell? ⟨w.heap.size + 1 + 1, 0, none⟩ = some (.int .i64 0) := by
        rw [World.cell?_setCell_far _ _ _ _ (by show w.heap.size + 1 ≠ w.heap.size + 1 + 1; omega)]; exact c2
      have H2 : Hid (w2.ownsRow w1.heap.size 5 1 (.slice av L cv) (enc x).length (vB (enc x)) ∧ Below w0.heap.size w0 w2 ∧ encE x = 0 ∧ encR x = enc x) := ⟨by rw [hL]; exact ho, hb02, hE, hR⟩
      rw [← hL]
      clear hg he1 he2 hb2 hb02 hbad ho ha hE hR hL hk1 hk2
      go_wp2
      refine leaves_cons (f := 29) (args := #[.pointer (some ⟨w.heap.size + 1, 0, none⟩), .pointer (some ⟨w.heap.size + 1 + 1, 0, none⟩)]) (by simp) (by simp [go_sem]) ?_
      refine (idle29 _ _ _).mono ?_
      rintro e u' w3 ⟨rfl, rfl, rfl⟩
      have d3 : ((w2.setCell ⟨w.heap.size + 1, 0, none⟩ (.slice av L cv)).setCell ⟨w.heap.size + 1 + 1, 0, none⟩ (.int .i64 0)).cell? ⟨w.heap.size + 1, 0, none⟩ = some (.slice av L cv) := by
        rw [World.cell?_setCell_far _ _ _ _ (by show w.heap.size + 1 + 1 ≠ w.heap.size + 1; omega)]; exact World.cell?_setCell_same' _ _ _ (by rw [c1]; rfl)
      have d4 : ((w2.setCell ⟨w.heap.size + 1, 0, none⟩ (.slice av L cv)).setCell ⟨w.heap.size + 1 + 1, 0, none⟩ (.int .i64 0)).cell? ⟨w.heap.size + 1 + 1, 0, none⟩ = some (.int .i64 0) := World.cell?_setCell_same' _ _ _ (by rw [d2]; rfl)
      have hb3 : Below w.heap.size w ((w2.setCell ⟨w.heap.size + 1, 0, none⟩ (.slice av L cv)).setCell ⟨w.heap.size + 1 + 1, 0, none⟩ (.int .i64 0)) := ((B0.out.2.2.2.1.trans (H2.out.2.1.mono B0.out.2.2.2.1.size)).setCell (by show w.heap.size ≤ w.heap.size + 1; omega) _).setCell (by show w.heap.size ≤ w.heap.size + 1 + 1; omega) _
      have hw1 : w.heap.size + 3 ≤ w1.heap.size := by have := B0.out.2.2.2.2; have := H1.out.1.size; omega
      have ho3 : ((w2.setCell ⟨w.heap.size + 1, 0, none⟩ (.slice av L cv)).setCell ⟨w.heap.size + 1 + 1, 0, none⟩ (.int .i64 0)).ownsRow w.heap.size 5 1 (.slice av L cv) (enc x).length (vB (enc x)) := by
        refine ownsRow_heap (ownsRow_le H2.out.1 (by omega)) (fun b hb => ?_)
        have := (H2.out.1.lt b hb).1
        rw [Below.heap_setCell _ _ _ _ (by show b ≠ w.heap.size + 1 + 1; omega), Below.heap_setCell _ _ _ _ (by show b ≠ w.heap.size + 1; omega)]
      generalize (w2.setCell ⟨w.heap.size + 1, 0, none⟩ (.slice av L cv)).setCell ⟨w.heap.size + 1 + 1, 0, none⟩ (.int .i64 0) = w4 at d3 d4 hb3 ho3
      simp [Leaves, settle, results, Try.results8, go_sem, d3, d4]
      refine ⟨hb3, _, ⟨rfl, H2.out.2.2.1.symm⟩, ?_⟩
      rw [H2.out.2.2.2]
      exact ho3
end Go.Proofs.Ytmnlcpfehbpogaa
/- rlp: length, span. -/
namespace Go.Proofs.Ytmnlcpfehbpogaa
open Go.RowKit Go.Maps Go.Joins
set_option linter.unusedSimpArgs false
set_option linter.unusedVariables false
/-- The bytes that are read. -/
structure Src (w : World) (a : Option Addr) (cap : Nat) (bs : List Int) : Prop where
  is : BytesV w (.slice a bs.length cap) bs
  cp : bs.length ≤ cap
  mx : cap ≤ 9223372036854775807
  by' : Byt bs
  len : bs.length ≤ 65536
theorem Src.below {w w' : World} {a : Option Addr} {cap : Nat} {bs : List Int} (h : Src w a cap bs) (hb : Below w.heap.size w w') : Src w' a cap bs := ⟨h.is.below hb, h.cp, h.mx, h.by', h.len⟩
theorem Src.at {w : World} {a : Option Addr} {cap : Nat} {bs : List Int} (h : Src w a cap bs) {i : Nat} (hi : i < bs.length) : ∃ g o c, a = some ⟨g, o, none⟩ ∧ bs[i]? = some c ∧ w.cell? ⟨g, o + i, none⟩ = some (.int .u8 c) ∧ 0 ≤ c ∧ c < 256 ∧ (∀ j x, bs[j]? = some x → w.cell? ⟨g, o + j, none⟩ = some (.int .u8 x)) := by
  have hx : bs[i]? = some bs[i] := List.getElem?_eq_getElem hi
  obtain ⟨g, o, e, hc⟩ := h.is.at hx
  have hb := h.by' bs[i] (List.getElem_mem hi)
  refine ⟨g, o, bs[i], e, hx, hc, hb.1, hb.2, fun j x hj => ?_⟩
  obtain ⟨g', o', e', hc'⟩ := h.is.at hj
  rw [e] at e'
  injection e' with e'
  injection e' with e1 e2 _
  rw [e1, e2]
  exact hc'
theorem numB_take {l : List Int} {j : Nat} {c : Int} (h : l[j]? = some c) : numB (l.take (j + 1)) = numB (l.take j) * 256 + c.toNat := by
  rw [List.take_add_one, h]
  exact numB_snoc _ _
theorem or256 (y : Nat) (x : Int) (hy : y < 72057594037927936) (h0 : 0 ≤ x) (h1 : x < 256) : bits .or .u64 ((y : Int) * 256) x = ((y * 256 + x.toNat : Nat) : Int) := by
  obtain ⟨x, rfl⟩ := Int.eq_ofNat_of_zero_le h0
  have hx : x < 256 := by omega
  have e0 : ((y : Int) * 256) = ((y * 256 : Nat) : Int) := by simp
  have hsh : y * 2 ^ 8 ||| x = y * 2 ^ 8 + x := by rw [← Nat.shiftLeft_eq, ← Nat.shiftLeft_add_eq_or_of_lt (by omega)]
  rw [e0, bits_or_u64_nat _ _ (by omega) (by omega), show y * 256 = y * 2 ^ 8 from by omega, hsh]
  simp
/-- What a call that may give up tells. -/
def Tells {α : Type} (r : Except Int α) (V : α → Value) (e : Ending) : Prop :=
  match r with
  | .ok x => e = .returned (V x)
  | .error c => e = pan c
set_option maxRecDepth 100000 in
set_option maxHeartbeats 8000000 in
/-- rlp.length -/
theorem length_any {w : World} {a : Option Addr} {cap : Nat} {bs : List Int} (h : Src w a cap bs) (i told : Nat) (hi : i ≤ bs.length) (ht : told ≤ 63) :
    Calls Try.prog 67 #[.slice a bs.length cap, .int .i64 i, .int .i64 told] w fun e w' => w' = w ∧ Tells (szH (bs.drop i) told) (fun p => .tuple #[.int .i64 ((i + p.1 : Nat) : Int), .int .u64 (p.2 : Int)]) e := by
  have HS : Hid (Src w a cap bs) := h
  have hl := h.len
  have hcp := h.cp
  obtain ⟨N, hN⟩ : ∃ N, N = bs.length := ⟨_, rfl⟩
  rw [← hN] at hi hl hcp ⊢
  have HN : Hid (N = bs.length) := hN
  clear h hN
  by_cases h55 : told ≤ 55
  · have h55' : (told : Int) ≤ 55 := by omega
    have HE : Hid (szH (bs.drop i) told = .ok (0, told)) := by show _ = _; unfold szH; rw [if_pos h55]
    have hw : IntKind.u64.wrap (told : Int) = told := by rw [IntKind.wrap_u64]; omega
    go_enter Try.func67, Try.ntmps67
    go_wp2
    go_ret2
    rw [HE.out]
    exact ⟨rfl, rfl⟩
  · have h55' : ¬ (told : Int) ≤ 55 := by omega
    obtain ⟨k, hk⟩ : ∃ k, k = told - 55 := ⟨_, rfl⟩
    obtain ⟨E, hE⟩ : ∃ E, E = i + k := ⟨_, rfl⟩
    have hEi : (i : Int) + told - 55 = (E : Int) := by omega
    by_cases hend : N < E
    · have HE : Hid (szH (bs.drop i) told = .error 10) := by
        show _ = _
        unfold szH
        rw [if_neg h55, if_pos (by rw [List.length_drop, ← HN.out]; omega)]
      have hend' : (N : Int) < E := by omega
      clear hk hE
      go_enter Try.func67, Try.ntmps67
      go_wp2
      rw [HE.out]
      exact ⟨rfl, rfl, rfl⟩
    · have hend' : ¬ (N : Int) < E := by omega
      have hiN : i < N := by omega
      obtain ⟨g, o, c, rfl, hci, hcell, hc0, hc1, hall⟩ := HS.out.at (i := i) (by rw [← HN.out]; exact hiN)
      have hsl : ∀ w', (Instr.slice 22 (.slice (some ⟨g, o, none⟩) N cap) (some (.int .i64 i)) (some (.int .i64 E)) none).run Try.prog w' = .ok (.slice (some ⟨g, o + i, none⟩) k (cap - i)) w' := fun w' => by
        rw [slLH w' g o N cap i E i E rfl rfl (by omega) (by omega), if_neg (by omega), show E - i = k from by omega]
      obtain ⟨part, hpart⟩ : ∃ part, part = (bs.drop i).take k := ⟨_, rfl⟩
      have hpl : part.length = k := by rw [hpart, List.length_take, List.length_drop, ← HN.out]; omega
      have hpb : Byt part := by rw [hpart]; exact (HS.out.by'.drop i).take k
      have hpc : ∀ j x, part[j]? = some x → w.cell? ⟨g, o + i + j, none⟩ = some (.int .u8 x) := fun j x hx => by
        rw [hpart, List.getElem?_take] at hx
        split at hx
        · rw [List.getElem?_drop] at hx
          rw [Nat.add_assoc]
          exact hall _ _ hx
        · cases hx
      have HP : Hid (part = (bs.drop i).take k ∧ part.length = k ∧ Byt part ∧ (∀ j x, part[j]? = some x → w.cell? ⟨g, o + i + j, none⟩ = some (.int .u8 x)) ∧ k = told - 55 ∧ E = i + k ∧ k ≤ 8) := ⟨hpart, hpl, hpb, hpc, hk, hE, by omega⟩
      clear hpart hpl hpb hpc hall hk hE
      go_enter Try.func67, Try.ntmps67
      go_wp2_with fail
      go_loopw [9, 31] (fun n j wr => ∃ q : Nat, q ≤ k ∧ j = .int .i64 q ∧ n = .int .u64 (numB (part.take q) : Int) ∧ wr = w) (fun _ j _ => k - (intOf j).toNat)
      case atStart => exact ⟨0, Nat.zero_le _, rfl, rfl, rfl⟩
      case round =>
        obtain ⟨q, hq, rfl, rfl, rfl⟩ := hrel
        by_cases hqk : q < k
        · obtain ⟨x, hx⟩ : ∃ x, part[q]? = some x := ⟨_, List.getElem?_eq_getElem (by rw [HP.out.2.1]; exact hqk)⟩
          have hxb := HP.out.2.2.1 x (List.mem_of_getElem? hx)
          have hcx := HP.out.2.2.2.1 q x hx
          have hqk' : (q : Int) < k := by omega
          have hnum := numB_take hx
          have hnl := numB_lt (part.take q) (HP.out.2.2.1.take q)
          have hn7 : numB (part.take q) < 256 ^ 7 := by
            refine Nat.lt_of_lt_of_le hnl ?_
            rw [List.length_take]
            exact Nat.pow_le_pow_right (by decide) (by have := HP.out.2.2.2.2.2.2; omega)
          have e7 : (256 : Nat) ^ 7 = 72057594037927936 := by decide
          rw [e7] at hn7
          obtain ⟨y, hy⟩ : ∃ y, y = numB (part.take q) := ⟨_, rfl⟩
          rw [← hy] at hn7 hnum ⊢
          have HX : Hid (numB (part.take (q + 1)) = y * 256 + x.toNat ∧ 0 ≤ x ∧ x < 256) := ⟨hnum, hxb⟩
          have hx0 := hxb.1
          have hx1 := hxb.2
          clear hnl hy hnum hx hxb e7
          obtain ⟨z, hz⟩ : ∃ z, z = y * 256 + x.toNat := ⟨_, rfl⟩
          have hor := or256 y x hn7 hx0 hx1
          rw [← hz] at hor
          have HZ : Hid (z = y * 256 + x.toNat ∧ q < k) := ⟨hz, hqk⟩
          have hq8 : q < 8 := by have := HP.out.2.2.2.2.2.2; omega
          clear hz
          go_wp2
          refine ⟨⟨q + 1, ?_, ?_, ?_, trivial⟩, ?_⟩
          · have := HZ.out; omega
          · simp
          · rw [HX.out.1, ← HZ.out.1]
          · simp [intOf]
            have := HZ.out
            omega
        · obtain rfl : q = k := by omega
          have hpt : part.take q = part := List.take_of_length_le (by rw [HP.out.2.1]; exact Nat.le_refl _)
          rw [hpt]
          have hq' : ¬ (q : Int) < q := by omega
          have hnl : numB part < 18446744073709551616 := by
            have h1 := numB_lt part HP.out.2.2.1
            have h2 : (256 : Nat) ^ part.length ≤ 256 ^ 8 := Nat.pow_le_pow_right (by decide) (by rw [HP.out.2.1]; exact HP.out.2.2.2.2.2.2)
            have e8 : (256 : Nat) ^ 8 = 18446744073709551616 := by decide
            omega
          have hhd : (bs.drop i).headD 0 = c := by
            rw [List.headD_eq_head?_getD, List.head?_drop, hci]; rfl
          have hsz : szH (bs.drop i) told = if c = 0 ∨ numB part ≤ 55 then .error 11 else .ok (q, numB part) := by
            unfold szH
            rw [if_neg h55, if_neg (by rw [List.length_drop, ← HN.out]; have := HP.out.2.2.2.2; omega), hhd, ← HP.out.2.2.2.2.1, ← HP.out.1]
          have HZ : Hid _ := hsz
          clear hpt hhd hsz
          generalize numB part = y at *
          by_cases hc00 : c = 0
          · have hcc : (c == 0) = true := by simpa using hc00
            have HC : Hid (c = 0) := hc00
            clear hc00
            go_wp2
            rw [HZ.out, if_pos (Or.inl HC.out)]
            exact ⟨rfl, rfl, rfl⟩
          · have hcc : (c == 0) = false := by simpa using hc00
            by_cases hy55 : y ≤ 55
            · have hy' : (y : Int) ≤ 55 := by omega
              go_wp2
              rw [HZ.out, if_pos (Or.inr hy55)]
              exact ⟨rfl, rfl, rfl⟩
            · have hy' : ¬ (y : Int) ≤ 55 := by omega
              go_wp2
              go_ret2
              rw [HZ.out, if_neg (by rintro (h | h); exact hc00 h; exact hy55 h)]
              refine ⟨rfl, ?_⟩
              have hEE : (E : Int) = (i : Int) + (q : Int) := by have := HP.out.2.2.2.2.2.1; omega
              show Ending.returned (Value.tuple #[Value.int .i64 (E : Int), Value.int .u64 (y : Int)]) = Ending.returned (Value.tuple #[Value.int .i64 ((i : Int) + (q : Int)), Value.int .u64 (y : Int)])
              rw [hEE]
end Go.Proofs.Ytmnlcpfehbpogaa
