/- disk: the document's drop. -/
import Derived.Test.YtllkpnlgemjgfaaRB
namespace Go.Proofs.Ytllkpnlgemjgfaa
open Go.RowKit Go.Maps Go.Joins
set_option linter.unusedSimpArgs false
set_option linter.unusedVariables false
theorem info64b : (Try.prog.info? 64).map (fun i => (i.zero, i.size, i.bytes)) = some (some (.agg #[.string ByteArray.empty, .slice none 0 0, .int .i64 0]), 3, 48) := by kernel_rfl
theorem info64c : ∃ i, Try.prog.info? 64 = some i ∧ i.zero = some (.agg #[.string ByteArray.empty, .slice none 0 0, .int .i64 0]) ∧ i.size = 3 ∧ i.bytes = 48 := by
  have := info64b
  cases h : Try.prog.info? 64 with
  | none => rw [h] at this; cases this
  | some i =>
    rw [h] at this
    simp at this
    exact ⟨i, rfl, this.1, this.2.1, this.2.2⟩
/-- The document's disk with another list. -/
def setA (R : RS) (ov : Value) (A : List RF) (ex : Option Nat) : RS := { R with lv := ov, A := A, own := fun b => if ov.ownBlock = some b then 2 else if ex = some b then 3 else R.own b }
theorem RefIs.setL {w w' : World} {br : Nat} {R : RS} (h : RefIs w br R) (ov : Value) (A : List RF) (ex : Option Nat) (hk : ∀ b, b < w.heap.size → b ≠ br → w'.heap[b]? = w.heap[b]?) (hs : w.heap.size ≤ w'.heap.size)
    (hd : w'.heap[br]? = some (.cells (rC (setA R ov A ex)) 40)) (hl : w'.ownsRow w.heap.size 64 3 ov A.length (rfL A)) (hex : ∀ b, ex = some b → b < w.heap.size ∧ (R.own b = 0 ∨ R.own b = 3))
    (hrow : ∀ f ∈ A, f ∈ R.A ∨ (w'.ownsRow 0 5 1 f.bv f.bs.length (vB f.bs) ∧ f.bv.ownBlock = ex ∧ f.nm.size ≤ 9223372036854775807)) : RefIs w' br (setA R ov A ex) := by
  have hlt := hl.lt
  have hold : ∀ b, R.own b ≠ 0 → R.own b ≠ 3 → (setA R ov A ex).own b = R.own b := fun b h0 h3 => by
    show (if _ then _ else if _ then _ else _) = _
    have := h.own_lt h0
    rw [if_neg (fun e => by have := (hlt b e).1; omega), if_neg (fun e => by rcases (hex b e).2 with h1 | h1 <;> contradiction)]
  have h3 : ∀ b, R.own b = 3 → (setA R ov A ex).own b = 3 := fun b h3 => by
    show (if _ then _ else if _ then _ else _) = _
    have := h.own_lt (b := b) (by rw [h3]; simp)
    rw [if_neg (fun e => by have := (hlt b e).1; omega)]
    split
    · rfl
    · exact h3
  have hk' : ∀ b, R.own b ≠ 0 → R.own b ≠ 1 → w'.heap[b]? = w.heap[b]? := fun b h0 h1 => hk b (h.own_lt h0) (fun e => h1 (by rw [e]; exact h.rd))
  refine ⟨hd, ?_, ownsRow_le hl (Nat.zero_le _), fun b hb => ?_, fun f hf => ?_, fun f hf b hb => ?_, fun f hf => ?_, ?_, fun b hb => ?_, fun b hb => ?_⟩
  · rw [hold br (by rw [h.rd]; simp) (by rw [h.rd]; simp)]; exact h.rd
  · have hb' : ov.ownBlock = some b := hb
    show (if _ then _ else _) = _
    rw [if_pos hb']
  · rcases hrow f hf with h1 | h1
    · exact ownsRow_heap (h.row f h1) (fun b hb => hk' b (by rw [h.rr f h1 b hb]; simp) (by rw [h.rr f h1 b hb]; simp))
    · exact h1.1
  · rcases hrow f hf with h1 | h1
    · exact h3 b (h.rr f h1 b hb)
    · rw [h1.2.1] at hb
      show (if _ then _ else if _ then _ else _) = _
      have := (hex b hb).1
      rw [if_neg (fun e => by have := (hlt b e).1; omega), if_pos hb]
  · rcases hrow f hf with h1 | h1
    · exact h.nm f h1
    · exact h1.2.2
  · exact ownsRow_heap h.plan (fun b hb => hk' b (by rw [h.rp b hb]; simp) (by rw [h.rp b hb]; simp))
  · have := h.rp b hb
    rw [hold _ (by rw [this]; simp) (by rw [this]; simp)]; exact this
  · show (if _ then _ else if _ then _ else _) = _
    rw [if_neg (fun e => by have := (hlt b e).2; omega), if_neg (fun e => by have := (hex b e).1; omega)]
    exact h.fresh b (by omega)
theorem rfL_append (a b : List RF) : rfL (a ++ b) = rfL a ++ rfL b := by simp [rfL]
theorem rfC_one (f : RF) (hv : ∃ a l c, f.bv = .slice a l c) : ∀ u ∈ rfC f, u.oneCell' = true := by
  obtain ⟨a, l, c, hv⟩ := hv
  intro u hu
  simp [rfC] at hu
  rcases hu with rfl | rfl | rfl
  · rfl
  · rw [hv]; rfl
  · rfl
/-- append(out, f): the file lies in a block of its own. -/
theorem wpList_append_f {w : World} {ops : Array Oper} {rest : List Oper} {o : Oper} {a : Act} {Q : Exit → Act → World → Prop} (hgd : o.guard = none) (s x : Operand)
    (ho : o.op = .call { callee := .builtin .append, args := #[s, x], argTypes := #[38, 38] }) (base : Nat)
    (v : Value) (A : List RF) (f : RF) (hv : ∃ a l c, f.bv = .slice a l c) (hs : a.eval s = v) (hown : w.ownsRow base 64 3 v A.length (rfL A)) (g : Nat) (hg : w.heap[g]? = some (.cells #[.string f.nm, f.bv, .int .i64 f.sf] 64)) (hx : a.eval x = .slice (some ⟨g, 0, none⟩) 1 1)
    (hl : A.length ≤ 1000) (hbase : base ≤ w.heap.size)
    (h : ∀ v' w', w'.ownsRow base 64 3 v' (A ++ [f]).length (rfL (A ++ [f])) → w.grownBy w' v.ownBlock → (v'.ownBlock = v.ownBlock ∨ v'.ownBlock = some w.heap.size) → wpList Try.prog ops Q rest (a.put o.dst v') w') : wpList Try.prog ops Q (o :: rest) a w := by
  obtain ⟨i0, hi, hz0, hz1, hz2⟩ := info64c
  refine wpList_append_own_at w hgd s x 38 ho base 64 i0 _ 3 48 Try.underlying38 hi hz0 hz1 hz2 rfl (by decide) v A.length (rfL A) hs hown ⟨g, 0, none⟩ 1 1 (rfC f) hx rfl (fun j u hu => ?_) (rfC_one f hv) (by unfold maxLen; omega) (by omega) hbase (fun v' w' a b _ d => h v' w' ?_ b d)
  · rw [Addr.add_lit, Nat.zero_add, cell_of_block hg]
    simpa [rfC] using hu
  · rw [List.length_append, rfL_append]
    have : rfL [f] = rfC f := by simp [rfL]
    rw [this]
    exact a
def dropR (nm : ByteArray) (A : List RF) : List RF := A.filter fun f => !decide (f.nm = nm)
theorem dropR_succ {nm : ByteArray} {A : List RF} {k : Nat} {f : RF} (hf : A[k]? = some f) : dropR nm (A.take (k + 1)) = dropR nm (A.take k) ++ (if f.nm = nm then [] else [f]) := by
  unfold dropR
  rw [List.take_add_one, hf, List.filter_append]
  congr 1
  by_cases e : f.nm = nm <;> simp [e]
theorem RefIs.form {w : World} {br : Nat} {R : RS} (h : RefIs w br R) {f : RF} (hf : f ∈ R.A) : ∃ a l c, f.bv = .slice a l c := by
  obtain ⟨a, c, e⟩ := row_form (h.row f hf)
  exact ⟨a, _, c, e⟩
set_option maxRecDepth 100000 in
set_option maxHeartbeats 8000000 in
/-- drop -/
theorem rdrop_any {w : World} {br : Nat} {R : RS} (h : RefIs w br R) (hl : R.A.length ≤ 1000) (nm : ByteArray) :
    Calls Try.prog 46 #[.pointer (some ⟨br, 0, none⟩), .string nm] w fun e w' => e = .returned (.tuple #[]) ∧ ∃ ov, RefIs w' br (setA R ov (dropR nm R.A) none) ∧ w.grownBy w' (some br) ∧ ∀ b, ov.ownBlock = some b → w.heap.size ≤ b := by
  have c3 : w.cell? ⟨br, 3, none⟩ = some R.lv := by rw [cell_of_block h.disk]; rfl
  have f3 : w.frozen? ⟨br, 3, none⟩ = false := unfrozen_of_block h.disk 3
  obtain ⟨a, cap, hlv⟩ := row_form h.list
  rw [hlv] at c3
  have HR : Hid (RefIs w br R) := h
  have hlt := h.lt
  clear h
  go_enter Try.func46, Try.ntmps46
  go_wp2
  go_loopw [4, 5] (fun o i wr => ∃ k : Nat, k ≤ R.A.length ∧ i = .int .i64 k ∧ wr.ownsRow w.heap.size 64 3 o (dropR nm (R.A.take k)).length (rfL (dropR nm (R.A.take k))) ∧ Below w.heap.size w wr) (fun _ i _ => R.A.length - (intOf i).toNat)
  case atStart => exact ⟨0, Nat.zero_le _, rfl, World.ownsRow_nil _ _ _ _, Below.refl _ _⟩
  case round =>
    obtain ⟨k, hk, rfl, hown, hb⟩ := hrel
    have cw : wr.cell? ⟨br, 3, none⟩ = some (.slice a R.A.length cap) := (hb.cell (p := ⟨br, 3, none⟩) hlt).trans c3
    obtain ⟨oa, ocap, hov⟩ := row_form hown
    subst hov
    by_cases hkl : k < R.A.length
    · obtain ⟨f, hf⟩ : ∃ f, R.A[k]? = some f := ⟨_, List.getElem?_eq_getElem hkl⟩
      have hfm : f ∈ R.A := List.mem_of_getElem? hf
      obtain ⟨g, cap', hv, _, hgl, _, hc⟩ := HR.out.cell hf
      have hc' : ∀ j v, (rfC f)[j]? = some v → wr.cell? ⟨g, k * 3 + j, none⟩ = some v := fun j v hj => (hb.cell (p := ⟨g, k * 3 + j, none⟩) hgl).trans (hc j v hj)
      have hc0 := hc' 0 (.string f.nm) rfl
      rw [Nat.add_zero] at hc0
      have hc1 := hc' 1 f.bv rfl
      have hc2 := hc' 2 (.int .i64 f.sf) rfl
      rw [hlv] at hv
      injection hv with hva _ _
      subst hva
      obtain ⟨ba, bl, bc, hbv⟩ := HR.out.form hfm
      rw [hbv] at hc1
      have hki : (k : Int) < R.A.length := by omega
      have HO : Hid (wr.ownsRow w.heap.size 64 3 (.slice oa (dropR nm (R.A.take k)).length ocap) (dropR nm (R.A.take k)).length (rfL (dropR nm (R.A.take k))) ∧ Below w.heap.size w wr) := ⟨hown, hb⟩
      clear hc hc' hown hb
      by_cases e : f.nm = nm
      · have hbq : (f.nm.toList == nm.toList) = true := by rw [eqS]; simpa using e
        go_wp2
        go_roundw
        case rel =>
          refine ⟨k + 1, by omega, by go_num, ?_, HO.out.2⟩
          rw [dropR_succ hf, if_pos e, List.append_nil]
          exact HO.out.1
        case measure => simp [intOf]; omega
      · have hbq : (f.nm.toList == nm.toList) = false := by rw [eqS]; simpa using e
        have hlen1 : (dropR nm (R.A.take k)).length ≤ 1000 := by
          have h1 := List.length_filter_le (fun f => !decide (f.nm = nm)) (R.A.take k)
          have h2 := List.length_take_le k R.A
          unfold dropR
          omega
        have hGN : (wr.alloc (.cells #[.string f.nm, .slice ba bl bc, .int .i64 f.sf] 64)).heap[wr.heap.size]? = some (.cells #[.string f.nm, f.bv, .int .i64 f.sf] 64) := by rw [hbv]; exact heap_alloc_new _ _
        have HO2 : Hid ((wr.alloc (.cells #[.string f.nm, .slice ba bl bc, .int .i64 f.sf] 64)).ownsRow w.heap.size 64 3 (.slice oa (dropR nm (R.A.take k)).length ocap) (dropR nm (R.A.take k)).length (rfL (dropR nm (R.A.take k))) ∧ Below w.heap.size w (wr.alloc (.cells #[.string f.nm, .slice ba bl bc, .int .i64 f.sf] 64)) ∧ (wr.alloc (.cells #[.string f.nm, .slice ba bl bc, .int .i64 f.sf] 64)).heap[wr.heap.size]? = some (.cells #[.string f.nm, f.bv, .int .i64 f.sf] 64)) := ⟨HO.out.1.alloc _, HO.out.2.alloc HO.out.2.size _, hGN⟩
        clear hGN
        go_wp2_with (first
          | (at_builtin
             refine wpList_append_f rfl _ _ rfl w.heap.size (.slice oa (dropR nm (R.A.take k)).length ocap) (dropR nm (R.A.take k)) f ⟨ba, bl, bc, hbv⟩ rfl HO2.out.1 wr.heap.size HO2.out.2.2 rfl hlen1 (by have := HO2.out.2.1.size; exact this) ?_
             intro v' w2 ho hg2 ha
             have H2 : Hid (w2.ownsRow w.heap.size 64 3 v' (dropR nm (R.A.take k) ++ [f]).length (rfL (dropR nm (R.A.take k) ++ [f])) ∧ Below w.heap.size w w2) := ⟨ho, HO2.out.2.1.grown hg2 HO2.out.2.1.size (fun j hj => (HO2.out.1.lt j hj).1)⟩
             clear ho hg2 ha)
          | go_in)
        go_roundw
        case rel =>
          refine ⟨k + 1, by omega, by go_num, ?_, H2.out.2⟩
          rw [dropR_succ hf, if_neg e]
          exact H2.out.1
        case measure => simp [intOf]; omega
    · have hki : decide ((k : Int) < R.A.length) = false := by simp; omega
      have cwf : wr.frozen? ⟨br, 3, none⟩ = false := by
        have := hb.block br hlt
        rw [World.frozen?_of_block this]
        exact f3
      obtain rfl : k = R.A.length := by omega
      rw [List.take_length] at *
      have HO : Hid (wr.ownsRow w.heap.size 64 3 (.slice oa (dropR nm R.A).length ocap) (dropR nm R.A).length (rfL (dropR nm R.A)) ∧ Below w.heap.size w wr) := ⟨hown, hb⟩
      clear hown hb
      go_wp2
      go_end0
      have hbr := (HO.out.2.block br hlt).trans HR.out.disk
      have hk : ∀ b, b < w.heap.size → b ≠ br → (wr.setCell ⟨br, 3, none⟩ (.slice oa (dropR nm R.A).length ocap)).heap[b]? = w.heap[b]? := fun b h1 h2 => (Below.heap_setCell _ _ _ _ h2).trans (HO.out.2.block b h1)
      have hs2 : w.heap.size ≤ (wr.setCell ⟨br, 3, none⟩ (.slice oa (dropR nm R.A).length ocap)).heap.size := by have := HO.out.2.size; simpa using this
      refine ⟨rfl, _, HR.out.setL (.slice oa (dropR nm R.A).length ocap) (dropR nm R.A) none hk hs2 ?_ ?_ (fun b hb => by cases hb) (fun f hf => Or.inl (List.mem_filter.1 hf).1), ⟨HO.out.2.os, HO.out.2.tape, HO.out.2.output, hs2, fun b h1 h2 => hk b h1 (fun e => h2 (by rw [e]))⟩, fun b hb => (HO.out.1.lt b hb).1⟩
      · rw [block_setCell hbr]
        simp [rC, setA]
      · refine ownsRow_heap HO.out.1 (fun b hb => Below.heap_setCell _ _ _ _ (fun e => ?_))
        have h1 := (HO.out.1.lt b hb).1
        have e' : b = br := e
        omega
end Go.Proofs.Ytllkpnlgemjgfaa
