/- TI, TJ, TK, laid into one text. -/
import Derived.Test.YtboeokmaepchgaaGreatDoorM42
import Derived.Defers
import Derived.Recover
import Derived.Test.YtboeokmaepchgaaGreatDoorKcKJ
import Derived.Test.YtboeokmaepchgaaGreatDoorKcDE
import Derived.Test.YtboeokmaepchgaaGreatDoorM21
import Derived.Lib.SlBytesConst
import Derived.Laws.StructEq
/- trie: a nil tree. -/
namespace Go.Proofs.YtboeokmaepchgaaGreatDoor
open Go.RowKit Go.Maps Go.Joins Go.Shelf
set_option linter.unusedSimpArgs false
set_option linter.unusedVariables false
abbrev z32 : Array Value := Kc.vec 32 (Kc.byt fun _ => 0#8)
theorem results_cell_row2 {fn : Func} {p q : Tmp} {ty : TypeId} (h : fn.results = #[.cell p ty, .tmp q]) (tmps : Array Value) (w : World) (g : Nat) (cs : Array Value) (v : Value)
    (hp : tmps.getD p undef = .pointer (some ⟨g, 0, none⟩)) (hq : tmps.getD q undef = v) (hl : (loadVar ty ⟨g, 0, none⟩).run Tryz.prog w = .ok (.agg cs) w) :
    (results fn tmps).run Tryz.prog w = .ok (.tuple #[.agg cs, v]) w := by
  have hp' : tmps[p]?.getD undef = .pointer (some ⟨g, 0, none⟩) := by simpa using hp
  have hq' : tmps[q]?.getD undef = v := by simpa using hq
  simp [results, h, hp', hq', asAddr, hl]
theorem load33 {w : World} {b : Nat} {f : Nat → Value} (h : w.heap[b]? = some (.cells (Kc.vec 32 f) 33)) : (loadVar 33 ⟨b, 0, none⟩).run Tryz.prog w = .ok (.agg (Kc.vec 32 f)) w :=
  run_loadVar_row w b 33 33 (Kc.vec 32 f) (0, 0) _ h Tryz.underlying33 rfl (Kc.info29v _)
set_option maxRecDepth 100000 in
set_option maxHeartbeats 4000000 in
/-- Get of a nil tree -/
theorem get_nil {w : World} {a : Option Addr} {n cap : Nat} :
    Calls Tryz.prog 9 #[.pointer none, .slice a n cap] w fun e w' => e = .returned (.tuple #[.slice none 0 0, .bool false, .int .i64 2]) ∧ Below w.heap.size w w' := by
  have hB : Below w.heap.size w (((w.alloc (.cells #[.slice none 0 0] 22)).alloc (.cells #[.bool false] 4)).alloc (.cells #[.int .i64 2] 23)) := by go_grown
  go_enter_defers Tryz.func9, Tryz.ntmps9
  go_wp2
  simp [bodyPostD, Leaves, settle, results, Tryz.results9, go_sem]
  exact hB
set_option maxRecDepth 100000 in
set_option maxHeartbeats 4000000 in
/-- set of a nil tree -/
theorem set_nil {w : World} {a b : Option Addr} {n cap m dap : Nat} :
    Calls Tryz.prog 48 #[.pointer none, .slice a n cap, .slice b m dap] w fun e w' => e = .returned (.int .i64 2) ∧ Below w.heap.size w w' := by
  have hB : Below w.heap.size w (w.alloc (.cells #[.int .i64 2] 23)) := by go_grown
  go_enter_defers Tryz.func48, Tryz.ntmps48
  go_wp2
  simp [bodyPostD, Leaves, settle, results, Tryz.results48, go_sem]
  exact hB
set_option maxRecDepth 100000 in
set_option maxHeartbeats 4000000 in
theorem put_nil {w : World} {a b : Option Addr} {n cap m dap : Nat} :
    Calls Tryz.prog 13 #[.pointer none, .slice a n cap, .slice b m dap] w fun e w' => e = .returned (.int .i64 2) ∧ Below w.heap.size w w' := by
  go_enter Tryz.func13, Tryz.ntmps13
  go_wp2_with (first | (refine Calls.mono set_nil ?_; rintro e w1 ⟨rfl, hb1⟩))
  go_ret
  exact ⟨rfl, hb1⟩
set_option maxRecDepth 100000 in
set_option maxHeartbeats 4000000 in
theorem delete_nil {w : World} {a : Option Addr} {n cap : Nat} :
    Calls Tryz.prog 14 #[.pointer none, .slice a n cap] w fun e w' => e = .returned (.int .i64 2) ∧ Below w.heap.size w w' := by
  go_enter Tryz.func14, Tryz.ntmps14
  go_wp2_with (first | (refine Calls.mono set_nil ?_; rintro e w1 ⟨rfl, hb1⟩))
  go_ret
  exact ⟨rfl, hb1⟩
set_option maxRecDepth 100000 in
set_option maxHeartbeats 4000000 in
/-- All of a nil tree -/
theorem all_nil {w : World} :
    Calls Tryz.prog 10 #[.pointer none] w fun e w' => e = .returned (.tuple #[.slice none 0 0, .int .i64 2]) ∧ Below w.heap.size w w' := by
  have hB : Below w.heap.size w ((w.alloc (.cells #[.slice none 0 0] 29)).alloc (.cells #[.int .i64 2] 23)) := by go_grown
  go_enter_defers Tryz.func10, Tryz.ntmps10
  go_wp2
  simp [bodyPostD, Leaves, settle, results, Tryz.results10, go_sem]
  exact hB
set_option maxRecDepth 100000 in
set_option maxHeartbeats 4000000 in
/-- Root of a nil tree -/
theorem root_nil {w : World} :
    Calls Tryz.prog 11 #[.pointer none] w fun e w' => e = .returned (.tuple #[.agg z32, .slice none 0 0]) ∧ Below w.heap.size w w' := by
  go_enter Tryz.func11, Tryz.ntmps11
  go_wp2_with (first | (refine wpList_store_row rfl 33 _ _ rfl w.heap.size z32 rfl rfl 33 _ (heap_alloc_new _ _) (Kc.info29v _) rfl (Kc.one_byt _ _) ?_; rw [World.setRow_alloc_new]) | (refine wpList_build rfl 33 _ rfl (by kernel_rfl) ?_; generalize hG : (Program.built _ _ _).getD #[] = G; obtain rfl : G = z32 := by rw [← hG]; kernel_rfl))
  clear hG
  refine bodyPost_ret (results_cell_row2 rfl _ _ _ _ _ rfl rfl (load33 (heap_alloc_new _ _))) rfl ⟨rfl, by go_grown⟩
end Go.Proofs.YtboeokmaepchgaaGreatDoor
/- trie: encoding, Empty, Open of the empty root. -/
namespace Go.Proofs.YtboeokmaepchgaaGreatDoor
open Go.RowKit Go.Maps Go.Joins Go.Shelf
set_option linter.unusedSimpArgs false
set_option linter.unusedVariables false
theorem bytes_kc {w : World} {a : Option Addr} {cap : Nat} {bs : List Int} (h : BytesV w (.slice a bs.length cap) bs) (hb : Byt bs) (hc : bs.length ≤ cap) (hm : cap ≤ 9223372036854775807) (hl : bs.length ≤ 140737488351232) : Kc.Bytes w a bs.length cap (Kc.mB bs) := by
  cases bs with
  | nil => exact ⟨0, 0, fun h => absurd h (by simp), fun j hj => absurd hj (by simp), hc, hm, hl⟩
  | cons x r =>
    obtain ⟨g, o, e, _⟩ := h.at (k := 0) (x := x) rfl
    refine ⟨g, o, fun _ => e, fun j hj => ?_, hc, hm, hl⟩
    obtain ⟨y, hy⟩ : ∃ y, (x :: r)[j]? = some y := ⟨_, List.getElem?_eq_getElem hj⟩
    obtain ⟨g', o', e', kc⟩ := h.at hy
    rw [e] at e'
    cases e'
    have hyb := hb y (List.mem_of_getElem? hy)
    rw [Kc.I8_mB hy hyb.1 hyb.2]
    exact kc
/-- keccak.Sum of a list of bytes. -/
theorem sum_b {w : World} {a : Option Addr} {cap : Nat} {bs : List Int} (hp : Kc.PathIn w) (h : BytesV w (.slice a bs.length cap) bs) (hb : Byt bs) (hc : bs.length ≤ cap) (hm : cap ≤ 9223372036854775807) (hl : bs.length ≤ 140737488351232) :
    Calls Tryz.prog 55 #[.slice a bs.length cap] w fun e w' => e = .returned (.agg (Kc.vec 32 (Kc.byt (Kc.digest (Kc.mB bs) bs.length)))) ∧ Below w.heap.size w w' :=
  Kc.sum_any a bs.length cap (Kc.mB bs) w hp (bytes_kc h hb hc hm hl)
set_option maxRecDepth 100000 in
set_option maxHeartbeats 4000000 in
/-- trie.encoding -/
theorem encoding_any (x : Tr) (w : World) (sb si : Value) (D : Nat → Prop) (h : ItV w D sb si x) (hD : ∀ b, D b → b < w.heap.size) :
    Calls Tryz.prog 87 #[.agg #[.bool x.l, sb, si]] w fun e w' => Below w.heap.size w w' ∧ ∃ v, e = .returned v ∧ w'.ownsRow w.heap.size 5 1 v (encR x).length (vB (encR x)) := by
  have hb : Below w.heap.size w (w.alloc (.cells #[.bool x.l, sb, si] 154)) := by go_grown
  have HC : Hid _ := encode_any x (w.alloc (.cells #[.bool x.l, sb, si] 154)) sb si D (h.mono (fun b hb' => hb.block b (hD b hb')) (fun _ h => h)) (fun b hb' => by have := hD b hb'; simp; omega)
  obtain ⟨ab, cb, rfl⟩ := h.b.is.form
  obtain ⟨ai, ci, rfl, i1, i2, i3⟩ := h.xs.form
  obtain ⟨l, hl⟩ : ∃ l, l = x.l := ⟨_, rfl⟩
  obtain ⟨m, hm⟩ : ∃ m, m = x.b.length := ⟨_, rfl⟩
  obtain ⟨n, hn⟩ : ∃ n, n = x.xs.length := ⟨_, rfl⟩
  rw [← hl, ← hm, ← hn] at HC ⊢
  have HB : Hid (Below w.heap.size w (w.alloc (.cells #[.bool l, .slice ab m cb, .slice ai n ci] 154))) := by show Below _ _ _; go_grown
  obtain ⟨ec, hec⟩ : ∃ ec, ec = encE x := ⟨_, rfl⟩
  rw [← hec] at HC
  clear h hD hl hm hn hb i1 i2 i3 hec
  go_enter Tryz.func87, Tryz.ntmps87
  go_wp2_with fail
  refine Calls.mono HC.out ?_
  rintro e w1 ⟨hb1, v, rfl, ho⟩
  obtain ⟨a1, c1, rfl⟩ := row_form ho
  go_wp2
  go_ret
  exact ⟨HB.out.trans (hb1.mono HB.out.size), _, rfl, ownsRow_le ho HB.out.size⟩
/-- The root of no pairs. -/
abbrev emV : Array Value := Kc.vec 32 (Kc.byt (Kc.digest (Kc.mB Kc.eM) 1))
theorem str_nil {w : World} : Calls Tryz.prog 91 #[.slice none 0 0] w fun e w' => Below w.heap.size w w' ∧ ∃ sb, e = .returned (.agg #[.bool false, sb, .slice none 0 0]) ∧ ItV w' (fun b => w.heap.size ≤ b ∧ b < w'.heap.size) sb (.slice none 0 0) (.mk false [] []) := str_any (bs := []) (Or.inl ⟨rfl, rfl⟩) (by decide)
theorem enc_nil : encE (.mk false [] []) = 0 ∧ encR (.mk false [] []) = Kc.eM := by decide
set_option maxRecDepth 100000 in
set_option maxHeartbeats 4000000 in
/-- trie.Empty -/
theorem empty_any {w : World} (hp : Kc.PathIn w) : Calls Tryz.prog 49 #[] w fun e w' => e = .returned (.agg emV) ∧ Below w.heap.size w w' := by
  have HP : Hid (Kc.PathIn w ∧ 1 < w.heap.size) := ⟨hp, Kc.pathIn_pos hp⟩
  clear hp
  go_enter Tryz.func49, Tryz.ntmps49
  go_wp2_with fail
  rw [Kc.zero32']
  have hB0 : Below w.heap.size w (w.alloc (.cells (Kc.vec 32 (Kc.byt fun _ => 0#8)) 33)) := by go_grown
  have hR0 : (w.alloc (.cells (Kc.vec 32 (Kc.byt fun _ => 0#8)) 33)).rowIs w.heap.size 33 32 (Kc.byt fun _ => 0#8) := Kc.heap_row (heap_alloc_new _ _)
  generalize w.alloc (.cells (Kc.vec 32 (Kc.byt fun _ => 0#8)) 33) = W0 at hB0 hR0 ⊢
  refine Calls.mono (str_nil (w := W0)) ?_
  rintro e W1 ⟨hb1, sb, rfl, hit⟩
  have hB1 : Below w.heap.size w W1 := hB0.trans (hb1.mono hB0.size)
  have hR1 : W1.rowIs w.heap.size 33 32 (Kc.byt fun _ => 0#8) := hR0.of_block (hb1.block _ hR0.lt)
  have HC : Hid _ := encoding_any (.mk false [] []) W1 sb (.slice none 0 0) _ hit (fun b hb => hb.2)
  rw [enc_nil.2] at HC
  obtain ⟨ab, cb, rfl⟩ := hit.b.is.form
  have H1 : Hid (Below w.heap.size w W1 ∧ W1.rowIs w.heap.size 33 32 (Kc.byt fun _ => 0#8)) := ⟨hB1, hR1⟩
  clear hit hb1 hB0 hR0 hB1 hR1
  go_wp2_with fail
  refine Calls.mono HC.out ?_
  rintro e W2 ⟨hb2, v, rfl, ho⟩
  obtain ⟨a2, c2, rfl, q1, q2, q3, q4⟩ := row_cap ho
  have hB2 : Below w.heap.size w W2 := H1.out.1.trans (hb2.mono H1.out.1.size)
  have hR2 : W2.rowIs w.heap.size 33 32 (Kc.byt fun _ => 0#8) := H1.out.2.of_block (hb2.block _ H1.out.2.lt)
  have hP2 : Kc.PathIn W2 := HP.out.1.below hB2 HP.out.2
  have HS : Hid _ := sum_b hP2 (BytesV.of_own ho) (by unfold Byt Kc.eM; decide) q1 q2 (by decide)
  have H2 : Hid (Below w.heap.size w W2 ∧ W2.rowIs w.heap.size 33 32 (Kc.byt fun _ => 0#8)) := ⟨hB2, hR2⟩
  clear ho hb2 hB2 hR2 hP2 H1 HC q1 q2 q3 q4
  go_wp2_with fail
  refine Calls.mono HS.out ?_
  rintro e W3 ⟨rfl, hb3⟩
  have hr3 : W3.rowIs w.heap.size 33 32 (Kc.byt fun _ => 0#8) := H2.out.2.of_block (hb3.block _ H2.out.2.lt)
  go_wp2_with (refine wpList_store_row rfl 33 _ _ rfl w.heap.size _ rfl rfl 33 _ (Kc.row_heap hr3) (Kc.info29v _) (by simp) (Kc.one_byt _ _) ?_)
  refine bodyPost_ret (results_cell_row rfl _ _ _ _ _ _ _ rfl (setRow_heap _ _ _ _ _ _ (Kc.row_heap hr3)) Tryz.underlying33 rfl (Kc.info29v _)) rfl ⟨rfl, ?_⟩
  exact ((Kc.Only.refl _ _).setRow _).below (H2.out.1.trans (hb3.mono H2.out.1.size)) (Nat.le_refl _)
end Go.Proofs.YtboeokmaepchgaaGreatDoor
/- trie: Open of the empty root; set and Get of a tree of one leaf. -/
namespace Go.Proofs.YtboeokmaepchgaaGreatDoor
open Go.RowKit Go.Maps Go.Joins Go.Shelf
set_option linter.unusedSimpArgs false
set_option linter.unusedVariables false
theorem allocs_old : ∀ (objs : List Obj) (w : World) (i : Nat), i < w.heap.size → (objs.foldl World.alloc w).heap[i]? = w.heap[i]?
  | [], w, i, h => rfl
  | A :: r, w, i, h => (allocs_old r (w.alloc A) i (by simp; omega)).trans (heap_alloc_old w A h)
theorem allocs_heap : ∀ (objs : List Obj) (w : World) (k : Nat) (o : Obj), objs[k]? = some o → (objs.foldl World.alloc w).heap[w.heap.size + k]? = some o
  | [], w, k, o, h => by simp at h
  | A :: r, w, 0, o, h => by
    simp at h
    subst h
    exact (allocs_old r (w.alloc A) w.heap.size (by simp)).trans (heap_alloc_new w A)
  | A :: r, w, k + 1, o, h => by
    have := allocs_heap r (w.alloc A) k o (by simpa using h)
    have e : (w.alloc A).heap.size + k = w.heap.size + (k + 1) := by simp; omega
    rw [e] at this
    exact this
theorem allocs_size : ∀ (objs : List Obj) (w : World), (objs.foldl World.alloc w).heap.size = w.heap.size + objs.length
  | [], w => rfl
  | A :: r, w => by show (r.foldl World.alloc (w.alloc A)).heap.size = _; rw [allocs_size r]; simp; omega
theorem allocs_below : ∀ (objs : List Obj) (w : World), Below w.heap.size w (objs.foldl World.alloc w)
  | [], w => Below.refl _ _
  | A :: r, w => ((Below.refl _ w).alloc (Nat.le_refl _) A).trans ((allocs_below r (w.alloc A)).mono (by simp))
theorem eq_vec_same {P : Program} (d t e n : Nat) (ht : P.underlying t = some (.array n e)) (hs : ∀ w, (sizeOf e).run P w = .ok 1 w) (ha : ∀ w, (isAgg e).run P w = .ok false w) (f : Nat → Value)
    (hf : ∀ i, i < n → ∀ w, (Op.equalIn d e (f i) (f i)).run P w = .ok true w) (w : World) :
    (Op.equalIn (d + 1) t (.agg (Kc.vec n f)) (.agg (Kc.vec n f))).run P w = .ok true w := by
  rw [Op.equalIn]
  simp only [Sem.run_bind, run_underlying ht, Result.andThen_ok, hs, Std.Legacy.Range.forIn_eq_forIn_range']
  have hl : ∀ l : List Nat, (∀ i ∈ l, i < n) → (forIn (m := Sem) l ((none : Option Bool), ()) fun i __s => do
            let __do_lift ← part e (Kc.vec n f) (i * 1)
            let __do_lift_1 ← part e (Kc.vec n f) (i * 1)
            let __do_lift ← Op.equalIn d e __do_lift __do_lift_1
            if (!__do_lift) = true then pure (ForInStep.done (some false, ())) else pure (ForInStep.yield ((none : Option Bool), ()))).run P w = .ok (none, ()) w := by
    intro l
    induction l with
    | nil => intro _; simp
    | cons i l ih =>
      intro hi
      have h1 : i < n := hi i (by simp)
      have h2 := ih (fun j hj => hi j (by simp [hj]))
      have hp : (part e (Kc.vec n f) (i * 1)).run P w = .ok (f i) w := by
        simp [part, Sem.run_bind, ha, Kc.get_vec n f i h1]
      rw [List.forIn_cons]
      simp only [Sem.run_bind, hp, Result.andThen_ok, hf i h1, Bool.not_true, Bool.false_eq_true, if_false, Sem.run_pure]
      exact h2
  rw [hl _ (fun i hi => by simp at hi; omega)]
  simp
theorem eq_row {P : Program} (t e n : Nat) (ht : P.underlying t = some (.array n e)) (hs : ∀ w, (sizeOf e).run P w = .ok 1 w) (ha : ∀ w, (isAgg e).run P w = .ok false w) (k : IntKind) (he : P.underlying e = some (.int k)) (x : Nat → Int) (w : World) :
    (Op.equalIn 10000 t (.agg (Kc.vec n fun j => .int k (x j))) (.agg (Kc.vec n fun j => .int k (x j)))).run P w = .ok true w :=
  eq_vec_same 9999 t e n ht hs ha _ (fun i _ w => by rw [run_equalIn_int w 9998 e k k _ _ he]; simp) w
theorem eq33 (m : Nat → BitVec 8) (w : World) : (Op.equalIn 10000 33 (.agg (Kc.vec 32 (Kc.byt m))) (.agg (Kc.vec 32 (Kc.byt m)))).run Tryz.prog w = .ok true w :=
  eq_row 33 5 32 Tryz.underlying33 Tryz.sizeOf5 Tryz.isAgg5 .u8 Tryz.underlying5 (fun j => Kc.I8 (m j)) w
theorem empty_d {w : World} (D : Nat → BitVec 8) (hD : D = Kc.digest (Kc.mB Kc.eM) 1) (hp : Kc.PathIn w) : Calls Tryz.prog 49 #[] w fun e w' => e = .returned (.agg (Kc.vec 32 (Kc.byt D))) ∧ Below w.heap.size w w' := by
  subst hD
  exact empty_any hp
set_option maxRecDepth 100000 in
set_option maxHeartbeats 4000000 in
/-- trie.Open of the empty root. -/
theorem open_any {w : World} (D : Nat → BitVec 8) (hD : D = Kc.digest (Kc.mB Kc.eM) 1) (hp : Kc.PathIn w) : Calls Tryz.prog 50 #[.agg (Kc.vec 32 (Kc.byt D)), .nilFunc] w fun e w' => ∃ b, e = .returned (.pointer (some ⟨b, 0, none⟩)) ∧ w.heap.size ≤ b ∧ w'.heap[b]? = some (.cells #[.nilIface, .nilFunc] 78) ∧ Below w.heap.size w w' := by
  have HP : Hid (Kc.PathIn w ∧ 1 < w.heap.size) := ⟨hp, Kc.pathIn_pos hp⟩
  have HD : Hid (D = Kc.digest (Kc.mB Kc.eM) 1) := hD
  clear hp hD
  have hB : Below w.heap.size w ((w.alloc (.cells (Kc.vec 32 (Kc.byt D)) 33)).alloc (.cells #[.nilIface, .nilFunc] 78)) := by go_grown
  have hh0 := allocs_heap [Obj.cells (Kc.vec 32 (Kc.byt D)) 33, .cells #[.nilIface, .nilFunc] 78] w 0 _ rfl
  have hh1 := allocs_heap [Obj.cells (Kc.vec 32 (Kc.byt D)) 33, .cells #[.nilIface, .nilFunc] 78] w 1 _ rfl
  have H0 : Hid (((w.alloc (.cells (Kc.vec 32 (Kc.byt D)) 33)).alloc (.cells #[.nilIface, .nilFunc] 78)).heap[w.heap.size]? = some (.cells (Kc.vec 32 (Kc.byt D)) 33) ∧ ((w.alloc (.cells (Kc.vec 32 (Kc.byt D)) 33)).alloc (.cells #[.nilIface, .nilFunc] 78)).heap[w.heap.size + 1]? = some (.cells #[.nilIface, .nilFunc] 78) ∧ Below w.heap.size w ((w.alloc (.cells (Kc.vec 32 (Kc.byt D)) 33)).alloc (.cells #[.nilIface, .nilFunc] 78))) := ⟨hh0, hh1, hB⟩
  clear hB hh0 hh1
  go_enter Tryz.func50, Tryz.ntmps50
  go_wp2_with fail
  generalize (w.alloc (.cells (Kc.vec 32 (Kc.byt D)) 33)).alloc (.cells #[.nilIface, .nilFunc] 78) = W0 at H0 ⊢
  refine wp_noP ?_
  refine wp_region_held_drew (S := (fun w' : World => w'.heap[w.heap.size]? = some (.cells (Kc.vec 32 (Kc.byt D)) 33))) (by kernel_rfl) H0.out.1 (fun hHeld => ?_)
  refine wpAnyH_take (i := 0) (v := .agg (Kc.vec 32 (Kc.byt D))) rfl (by kernel_rfl) (by kernel_rfl) (by kernel_rfl) (fun _ _ _ h => h) (Or.inl ⟨by rfl, fun w9 hSw => ?_⟩) hHeld ?_
  · exact Kc.run_load_exec 33 _ rfl _ rfl (load33 hSw)
  simp only [List.getElem_toArray, List.getElem_cons_succ, List.getElem_cons_zero, Act.put, List.setIfInBounds_toArray, List.set_cons_zero, List.set_cons_succ]
  refine wpAnyH_ready (rs := [1]) (by kernel_rfl) (by simp) ?_
  refine AllReadyH.cons rfl (fun K hK => ?_) AllReadyH.nil
  have hC := empty_d (w := W0.drew) D HD.out (HP.out.1.below (B := w.heap.size) ⟨H0.out.2.2.os, H0.out.2.2.tape, H0.out.2.2.output, H0.out.2.2.size, H0.out.2.2.block⟩ HP.out.2)
  go_simp
  refine Calls.mono hC ?_
  clear hC
  rintro e W1 ⟨rfl, hb1⟩
  have hs1 : W0.drew.heap.size = W0.heap.size := rfl
  have H1 : Hid (W1.heap[w.heap.size + 1]? = some (.cells #[.nilIface, .nilFunc] 78) ∧ Below w.heap.size w W1) := ⟨(hb1.block _ (heap_lt (w := W0) H0.out.2.1)).trans H0.out.2.1, H0.out.2.2.trans (by have := hb1.mono (show w.heap.size ≤ W0.drew.heap.size from H0.out.2.2.size); exact ⟨this.os, this.tape, this.output, this.size, this.block⟩)⟩
  have hx1 : (fun w' : World => w'.heap[w.heap.size]? = some (.cells (Kc.vec 32 (Kc.byt D)) 33)) W1 := (hb1.block _ (heap_lt (w := W0) H0.out.1)).trans H0.out.1
  clear hb1 hs1 H0
  refine hK.out _ _ hx1 (fun hHeld => ?_)
  clear hK K
  try simp only [List.getElem_toArray, List.getElem_cons_succ, List.getElem_cons_zero, Act.put, List.setIfInBounds_toArray, List.set_cons_zero, List.set_cons_succ]
  refine wpAnyH_take (i := 2) (v := .bool false) rfl (by kernel_rfl) (by kernel_rfl) (by kernel_rfl) (fun _ _ _ h => h) (Or.inl ⟨by rfl, fun w9 hSw => ?_⟩) hHeld ?_
  · have he := eq33 D w9
    go_simp
  simp only [List.getElem_toArray, List.getElem_cons_succ, List.getElem_cons_zero, Act.put, List.setIfInBounds_toArray, List.set_cons_zero, List.set_cons_succ]
  refine wpAnyH_done (by kernel_rfl) ?_ _
  simp only [noP]
  clear hHeld hx1
  go_wp2
  go_ret
  exact ⟨_, rfl, by omega, H1.out.1, H1.out.2⟩
end Go.Proofs.YtboeokmaepchgaaGreatDoor
