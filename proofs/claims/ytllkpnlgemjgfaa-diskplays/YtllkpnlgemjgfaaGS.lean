/- PR, PS, PT, PU, laid into one text. -/
import Derived.Test.YtllkpnlgemjgfaaGR
import Derived.BigQuiet
import Derived.Test.YtllkpnlgemjgfaaPE
import Derived.Deep.AppendLies
import Derived.Test.YtllkpnlgemjgfaaPF
import Derived.Maps.Views
/- disk: the document's RightPlan. -/
namespace Go.Proofs.Ytllkpnlgemjgfaa
open Go.RowKit Go.Maps Go.Joins
set_option linter.unusedSimpArgs false
set_option linter.unusedVariables false
/-- Faults that lie in memory. -/
def FltV (w : World) (va : Option Addr) (ps : List (Int × Int)) : Prop := ∀ (j : Nat) (p : Int × Int), ps[j]? = some p → ∃ b o, va = some ⟨b, o, none⟩ ∧ w.cell? ⟨b, o + j * 2, none⟩ = some (.int .i64 p.1) ∧ w.cell? ⟨b, o + j * 2 + 1, none⟩ = some (.int .i64 p.2)
theorem FltV.below {w w' : World} {va : Option Addr} {ps : List (Int × Int)} (h : FltV w va ps) (hb : Below w.heap.size w w') : FltV w' va ps := fun j p hj => by
  obtain ⟨b, o, e, h1, h2⟩ := h j p hj
  exact ⟨b, o, e, (hb.cell (p := ⟨b, o + j * 2, none⟩) (cell_lt h1)).trans h1, (hb.cell (p := ⟨b, o + j * 2 + 1, none⟩) (cell_lt h2)).trans h2⟩
structure OkTo (ps : List (Int × Int)) (k : Nat) : Prop where
  each : ∀ (j : Nat) (p : Int × Int), j < k → ps[j]? = some p → 1 ≤ p.1 ∧ 1 ≤ p.2 ∧ p.2 ≤ 3
  two : ∀ (i j : Nat) (p q : Int × Int), i < j → j < k → ps[i]? = some p → ps[j]? = some q → p.1 ≠ q.1
def Right (ps : List (Int × Int)) : Prop := ps.length ≤ 64 ∧ OkTo ps ps.length
def RR (e : Ending) (ps : List (Int × Int)) : Prop := (e = .returned (.bool true) ∧ Right ps) ∨ (e = .returned (.bool false) ∧ ¬ Right ps)
set_option maxRecDepth 100000 in
set_option maxHeartbeats 8000000 in
theorem rright_any {w : World} (va : Option Addr) (vc : Nat) (ps : List (Int × Int)) (hv : FltV w va ps) :
    Calls Try.prog 47 #[.slice va ps.length vc] w fun e w' => RR e ps ∧ Below w.heap.size w w' := by
  by_cases h64 : 64 < ps.length
  · clear hv
    go_enter Try.func47, Try.ntmps47
    go_wp2
    go_ret
    exact ⟨Or.inr ⟨rfl, fun h => by have := h.1; omega⟩, Below.refl _ _⟩
  have HV : Hid (FltV w va ps) := hv
  clear hv
  go_enter Try.func47, Try.ntmps47
  go_wp2
  go_loopw [3] (fun i wr => ∃ k : Nat, k ≤ ps.length ∧ i = .int .i64 k ∧ OkTo ps k ∧ Below w.heap.size w wr) (fun i _ => ps.length - (intOf i).toNat)
  case atStart => exact ⟨0, Nat.zero_le _, rfl, ⟨fun j p hj => by omega, fun i j p q _ hj => by omega⟩, Below.refl _ _⟩
  case round =>
    obtain ⟨k, hk, rfl, hok, hb⟩ := hrel
    have HO : Hid (OkTo ps k ∧ Below w.heap.size w wr) := ⟨hok, hb⟩
    by_cases hkn : k < ps.length
    · obtain ⟨p, hp⟩ : ∃ p, ps[k]? = some p := ⟨_, List.getElem?_eq_getElem hkn⟩
      obtain ⟨g, o, rfl, c0, c1⟩ := (HV.out.below hb) k p hp
      have HP : Hid (ps[k]? = some p) := hp
      have hki : (k : Int) < ps.length := by omega
      clear hok hb hp
      by_cases h1 : p.1 < 1
      · go_wp2
        go_ret
        exact ⟨Or.inr ⟨rfl, fun h => by have := h.2.each k p hkn HP.out; omega⟩, HO.out.2⟩
      by_cases h2 : p.2 < 1
      · go_wp2
        go_ret
        exact ⟨Or.inr ⟨rfl, fun h => by have := h.2.each k p hkn HP.out; omega⟩, HO.out.2⟩
      by_cases h3 : 3 < p.2
      · go_wp2
        go_ret
        exact ⟨Or.inr ⟨rfl, fun h => by have := h.2.each k p hkn HP.out; omega⟩, HO.out.2⟩
      go_wp2
      go_loopw [4] (fun i w2 => ∃ m : Nat, m ≤ k ∧ i = .int .i64 m ∧ (∀ (j : Nat) (q : Int × Int), j < m → ps[j]? = some q → q.1 ≠ p.1) ∧ Below w.heap.size w w2) (fun i _ => k - (intOf i).toNat)
      case atStart => exact ⟨0, Nat.zero_le _, rfl, fun j q hj => by omega, HO.out.2⟩
      case round =>
        obtain ⟨m, hm, rfl, hno, hb2⟩ := hrel
        have HO2 : Hid ((∀ (j : Nat) (q : Int × Int), j < m → ps[j]? = some q → q.1 ≠ p.1) ∧ Below w.heap.size w wr) := ⟨hno, hb2⟩
        obtain ⟨g', o', hgo, d0, d1⟩ := (HV.out.below hb2) k p HP.out
        injection hgo with hgo
        injection hgo with e1 e2 _
        subst e1 e2
        by_cases hmk : m < k
        · obtain ⟨q, hq⟩ : ∃ q, ps[m]? = some q := ⟨_, List.getElem?_eq_getElem (by omega)⟩
          obtain ⟨g', o', hgo, q0, q1⟩ := (HV.out.below hb2) m q hq
          injection hgo with hgo
          injection hgo with e1 e2 _
          subst e1 e2
          have HQ : Hid (ps[m]? = some q) := hq
          have hmi : (m : Int) < k := by omega
          have hmn : (m : Int) < ps.length := by omega
          clear hno hb2 hq c0 c1
          by_cases heq : q.1 = p.1
          · have heq' : (q.1 == p.1) = true := by simpa using heq
            have HE : Hid (q.1 = p.1) := heq
            clear heq
            go_wp2
            go_quiet (fail)
            go_wp2
            go_ret
            refine ⟨Or.inr ⟨rfl, fun h => absurd HE.out (h.2.two m k q p hmk hkn HQ.out HP.out)⟩, HO2.out.2.os, HO2.out.2.tape, HO2.out.2.output, HO2.out.2.size, HO2.out.2.block⟩
          · have heq' : (q.1 == p.1) = false := by simpa using heq
            have HE : Hid (q.1 ≠ p.1) := heq
            clear heq
            go_wp2
            go_quiet (fail)
            go_wp2
            go_roundw
            case rel =>
              refine ⟨m + 1, by omega, by go_num, fun j r hj hr => ?_, HO2.out.2.os, HO2.out.2.tape, HO2.out.2.output, HO2.out.2.size, HO2.out.2.block⟩
              by_cases ej : j = m
              · subst ej
                rw [HQ.out] at hr
                injection hr with hr
                rw [← hr]
                exact HE.out
              · exact HO2.out.1 j r (by omega) hr
            case measure => simp [intOf]; omega
        · obtain rfl : m = k := by omega
          clear hno hb2 c0 c1
          go_wp2
          go_roundw
          case rel =>
            refine ⟨m + 1, by omega, by go_num, ⟨fun j r hj hr => ?_, fun i j r q hij hj hr hq => ?_⟩, HO2.out.2⟩
            · by_cases ej : j = m
              · subst ej
                rw [HP.out] at hr
                injection hr with hr
                rw [← hr]
                omega
              · exact HO.out.1.each j r (by omega) hr
            · by_cases ej : j = m
              · subst ej
                rw [HP.out] at hq
                injection hq with hq
                rw [← hq]
                exact HO2.out.1 i r hij hr
              · exact HO.out.1.two i j r q hij (by omega) hr hq
          case measure => simp [intOf]; omega
    · obtain rfl : k = ps.length := by omega
      clear hok hb hkn
      go_wp2
      go_ret
      exact ⟨Or.inl ⟨rfl, by omega, HO.out.1⟩, HO.out.2⟩
end Go.Proofs.Ytllkpnlgemjgfaa
/- disk: the document's Arm. -/
namespace Go.Proofs.Ytllkpnlgemjgfaa
open Go.RowKit Go.Maps Go.Joins
set_option linter.unusedSimpArgs false
set_option linter.unusedVariables false
theorem info82b : (Try.prog.info? 82).map (fun i => (i.zero, i.size, i.bytes)) = some (some (.agg #[.int .i64 0, .int .i64 0]), 2, 16) := by kernel_rfl
theorem info82c : ∃ i, Try.prog.info? 82 = some i ∧ i.zero = some (.agg #[.int .i64 0, .int .i64 0]) ∧ i.size = 2 ∧ i.bytes = 16 := by
  have := info82b
  cases h : Try.prog.info? 82 with
  | none => rw [h] at this; cases this
  | some i =>
    rw [h] at this
    simp at this
    exact ⟨i, rfl, this.1, this.2.1, this.2.2⟩
theorem plL_length (ps : List (Int × Int)) : (plL ps).length = ps.length * 2 := by
  induction ps with
  | nil => rfl
  | cons p ps ih =>
    have e : plL (p :: ps) = .int .i64 p.1 :: .int .i64 p.2 :: plL ps := rfl
    rw [e, List.length_cons, List.length_cons, List.length_cons, ih]
    omega
theorem plL_one (ps : List (Int × Int)) : ∀ u ∈ plL ps, u.oneCell' = true := by
  intro u hu
  unfold plL at hu
  obtain ⟨p, _, hp⟩ := List.mem_flatMap.1 hu
  simp at hp
  rcases hp with rfl | rfl <;> rfl
theorem flt_cells {w : World} {ad : Addr} {ps : List (Int × Int)} (h : FltV w (some ad) ps) (j : Nat) (u : Value) (hu : (plL ps)[j]? = some u) : w.cell? (ad.add j) = some u := by
  have hj := (List.getElem?_eq_some_iff.1 hu).1
  rw [plL_length] at hj
  obtain ⟨p, hp⟩ : ∃ p, ps[j / 2]? = some p := ⟨_, List.getElem?_eq_getElem (by omega)⟩
  obtain ⟨b', o, e, h0, h1⟩ := h _ p hp
  injection e with e
  subst e
  have hg := plL_get hp
  rw [Addr.add_lit]
  rcases Nat.mod_two_eq_zero_or_one j with hm | hm
  · have ej : j / 2 * 2 = j := by omega
    rw [ej] at hg h0
    rw [hg.1] at hu
    rw [h0]
    exact hu
  · have ej : j / 2 * 2 + 1 = j := by omega
    rw [ej] at hg
    rw [hg.2] at hu
    have : o + j / 2 * 2 + 1 = o + j := by omega
    rw [this] at h1
    rw [h1]
    exact hu
/-- A new plan. -/
def setP (R : RS) (v : Value) (ps : List (Int × Int)) : RS := { R with pv := v, plan := ps, frm := R.n, own := fun b => if v.ownBlock = some b then 4 else R.own b }
theorem rarm_end {w w1 w2 : World} {br ocap : Nat} {oa : Option Addr} {R : RS} {ps : List (Int × Int)} (hR1 : RefIs w1 br R) (hB0 : Below w.heap.size w w1) (ho : w2.ownsRow w1.heap.size 82 2 (.slice oa ps.length ocap) ps.length (plL ps)) (hB : Below w1.heap.size w1 w2) (hR : RefIs w2 br R) :
    RefIs ((w2.setCell ⟨br, 4, none⟩ (.slice oa ps.length ocap)).setCell ⟨br, 1, none⟩ (.int .i64 R.n)) br (setP R (.slice oa ps.length ocap) ps) ∧ RFr w ((w2.setCell ⟨br, 4, none⟩ (.slice oa ps.length ocap)).setCell ⟨br, 1, none⟩ (.int .i64 R.n)) R (setP R (.slice oa ps.length ocap) ps) := by
  have hlt1 := hR1.lt
  have hk : ∀ b, b ≠ br → ((w2.setCell ⟨br, 4, none⟩ (.slice oa ps.length ocap)).setCell ⟨br, 1, none⟩ (.int .i64 R.n)).heap[b]? = w2.heap[b]? := fun b hb => (Below.heap_setCell _ _ _ _ hb).trans (Below.heap_setCell _ _ _ _ hb)
  have hold : ∀ b, R.own b ≠ 0 → (setP R (.slice oa ps.length ocap) ps).own b = R.own b := fun b hb => if_neg (fun hc => by
    have h1 := (ho.lt b hc).1
    have h2 := hR1.own_lt hb
    omega)
  have hown : ∀ b, R.own b ≠ 0 → R.own b ≠ 1 → b ≠ br := fun b _ h1 e => h1 (by rw [e]; exact hR.rd)
  refine ⟨⟨?_, ?_, ?_, fun b hb => ?_, fun f hf => ?_, fun f hf b hb => ?_, hR.nm, ?_, fun b hb => if_pos hb, fun b hb => ?_⟩, ?_⟩
  · rw [block_setCell (block_setCell hR.disk _) _]
    simp [rC, setP]
  · rw [hold br (by rw [hR.rd]; simp)]
    exact hR.rd
  · exact ownsRow_heap hR.list (fun b hb => hk b (hown b (by rw [hR.rl b hb]; simp) (by rw [hR.rl b hb]; simp)))
  · rw [hold b (by rw [hR.rl b hb]; simp)]
    exact hR.rl b hb
  · exact ownsRow_heap (hR.row f hf) (fun b hb => hk b (hown b (by rw [hR.rr f hf b hb]; simp) (by rw [hR.rr f hf b hb]; simp)))
  · rw [hold b (by rw [hR.rr f hf b hb]; simp)]
    exact hR.rr f hf b hb
  · exact ownsRow_le (ownsRow_heap ho (fun b hb => hk b (fun e => by have := (ho.lt b hb).1; omega))) (Nat.zero_le _)
  · show (if (Value.slice oa ps.length ocap).ownBlock = some b then 4 else R.own b) = 0
    have hb' : w2.heap.size ≤ b := by simpa using hb
    rw [if_neg (fun hc => by have := (ho.lt b hc).2; omega)]
    exact hR.fresh b hb'
  · refine ⟨hB.os.trans hB0.os, hB.tape.trans hB0.tape, hB.output.trans hB0.output, by simpa using Nat.le_trans hB0.size hB.size, fun b h0 h1 => ?_, fun b h0 h1 => ?_⟩
    · exact (hk b (fun e => by rw [e, hR.rd] at h1; cases h1)).trans ((hB.block b (Nat.lt_of_lt_of_le h0 hB0.size)).trans (hB0.block b h0))
    · show (if (Value.slice oa ps.length ocap).ownBlock = some b then 4 else R.own b) = 0
      rw [if_neg (fun hc => by have := (ho.lt b hc).1; have := hB0.size; omega)]
      exact h1
set_option maxRecDepth 100000 in
set_option maxHeartbeats 8000000 in
theorem rarm_no {w : World} {br : Nat} (va : Option Addr) (vc : Nat) (ps : List (Int × Int)) (hv : FltV w va ps) (hn : ¬ Right ps) :
    Calls Try.prog 34 #[.pointer (some ⟨br, 0, none⟩), .slice va ps.length vc] w fun e w' => e = .returned (.int .i64 1) ∧ Below w.heap.size w w' := by
  have hr := rright_any va vc ps hv
  have HN : Hid (¬ Right ps) := hn
  clear hv hn
  go_enter Try.func34, Try.ntmps34
  go_wp2_with (first
    | (go_at_call 47
       refine Calls.mono hr ?_
       clear hr
       rintro e w1 ⟨hrr, hb⟩
       rcases hrr with ⟨_, h2⟩ | ⟨rfl, _⟩
       · exact absurd h2 HN.out)
    | go_in)
  go_ret
  exact ⟨rfl, hb⟩
set_option maxRecDepth 100000 in
set_option maxHeartbeats 8000000 in
theorem rarm_ok {w : World} {br : Nat} {R : RS} (h : RefIs w br R) (ad : Addr) (vc : Nat) (ps : List (Int × Int)) (hv : FltV w (some ad) ps) (hn : Right ps) :
    Calls Try.prog 34 #[.pointer (some ⟨br, 0, none⟩), .slice (some ad) ps.length vc] w fun e w' => e = .returned (.int .i64 0) ∧ ∃ v, RefIs w' br (setP R v ps) ∧ RFr w w' R (setP R v ps) := by
  have hr := rright_any (some ad) vc ps hv
  have HN : Hid (Right ps) := hn
  have HV : Hid (FltV w (some ad) ps) := hv
  have HR : Hid (RefIs w br R) := h
  have hlt := h.lt
  have h64 := hn.1
  clear hv hn h
  go_enter Try.func34, Try.ntmps34
  go_wp2_with (first
    | (go_at_call 47
       refine Calls.mono hr ?_
       clear hr
       rintro e w1 ⟨hrr, hb⟩
       rcases hrr with ⟨rfl, _⟩ | ⟨_, h2⟩
       rotate_left
       · exact absurd HN.out h2
       have HB : Hid (Below w.heap.size w w1) := hb
       have HR1 : Hid (RefIs w1 br R) := HR.out.below hb
       have hlt1 := HR1.out.lt
       clear hb)
    | (at_builtin
       obtain ⟨i0, hi, hz0, hz1, hz2⟩ := info82c
       refine wpList_append_own_at _ rfl _ _ 33 rfl w1.heap.size 82 i0 _ 2 16 Try.underlying33 hi hz0 hz1 hz2 rfl (by decide) (.slice (some ⟨w1.heap.size, 0, none⟩) 0 0) 0 [] rfl ⟨rfl, Or.inr ⟨w1.heap.size, 0, #[], by simp, Nat.le_refl _, by have := heap_alloc_new w1 (.cells #[] 82); simpa using this, Nat.le_refl _, by decide, rfl, rfl⟩⟩ ad ps.length vc (plL ps) rfl (plL_length ps) (fun j u hu => flt_cells ((HV.out.below HB.out).below (by go_grown)) j u hu) (plL_one ps) (by unfold maxLen; omega) (by omega) (by simp) ?_
       intro v' w2 ho hg _ ha
       rw [List.nil_append, Nat.zero_add] at ho
       have hB : Below w1.heap.size w1 w2 := ((Below.refl _ w1).alloc (Nat.le_refl _) _).grown hg (by simp) (fun jj hjj => by have h9 : w1.heap.size = jj := (by simpa [Value.ownBlock] using hjj); omega)
       obtain ⟨oa, ocap, hov⟩ := row_form ho
       subst hov
       have H2 : Hid (w2.ownsRow w1.heap.size 82 2 (.slice oa ps.length ocap) ps.length (plL ps) ∧ Below w1.heap.size w1 w2 ∧ RefIs w2 br R) := ⟨ho, hB, HR1.out.below hB⟩
       obtain ⟨pa, pc, hpv⟩ := row_form (HR1.out.below hB).plan
       have d4 : w2.cell? ⟨br, 4, none⟩ = some (.slice pa R.plan.length pc) := by rw [cell_of_block (HR1.out.below hB).disk]; show some R.pv = _; rw [hpv]
       have d2 : w2.cell? ⟨br, 2, none⟩ = some (.int .i64 R.n) := by rw [cell_of_block (HR1.out.below hB).disk]; rfl
       have d1 : w2.cell? ⟨br, 1, none⟩ = some (.int .i64 R.frm) := by rw [cell_of_block (HR1.out.below hB).disk]; rfl
       have f4 : w2.frozen? ⟨br, 4, none⟩ = false := unfrozen_of_block (HR1.out.below hB).disk 4
       have f1 : w2.frozen? ⟨br, 1, none⟩ = false := unfrozen_of_block (HR1.out.below hB).disk 1
       clear ho hg ha hB hpv)
    | go_in)
  go_ret
  exact ⟨rfl, .slice oa ps.length ocap, rarm_end HR1.out HB.out H2.out.1 H2.out.2.1 H2.out.2.2⟩
set_option maxRecDepth 100000 in
set_option maxHeartbeats 8000000 in
theorem rarm_nil {w : World} {br : Nat} {R : RS} (h : RefIs w br R) :
    Calls Try.prog 34 #[.pointer (some ⟨br, 0, none⟩), .slice none 0 0] w fun e w' => e = .returned (.int .i64 0) ∧ ∃ v, RefIs w' br (setP R v []) ∧ RFr w w' R (setP R v []) := by
  have hn : Right [] := ⟨by simp, ⟨fun j p hj => by simp at hj, fun i j p q _ hj => by simp at hj⟩⟩
  have hr := rright_any (w := w) none 0 [] (fun j p hj => by simp at hj)
  have HN : Hid (Right []) := hn
  have HR : Hid (RefIs w br R) := h
  have hlt := h.lt
  clear hn h
  go_enter Try.func34, Try.ntmps34
  go_wp2_with (first
    | (go_at_call 47
       refine Calls.mono hr ?_
       clear hr
       rintro e w1 ⟨hrr, hb⟩
       rcases hrr with ⟨rfl, _⟩ | ⟨_, h2⟩
       rotate_left
       · exact absurd HN.out h2
       have HB : Hid (Below w.heap.size w w1) := hb
       have HR1 : Hid (RefIs w1 br R) := HR.out.below hb
       clear hb)
    | (at_builtin
       obtain ⟨i0, hi, hz0, hz1, hz2⟩ := info82c
       have ho : (w1.alloc (.cells #[] 82)).ownsRow w1.heap.size 82 2 (.slice (some ⟨w1.heap.size, 0, none⟩) 0 0) 0 [] := ⟨rfl, Or.inr ⟨w1.heap.size, 0, #[], by simp, Nat.le_refl _, by have := heap_alloc_new w1 (.cells #[] 82); simpa using this, Nat.le_refl _, by decide, rfl, rfl⟩⟩
       have hB : Below w1.heap.size w1 (w1.alloc (.cells #[] 82)) := by go_grown
       have H2 : Hid ((w1.alloc (.cells #[] 82)).ownsRow w1.heap.size 82 2 (.slice (some ⟨w1.heap.size, 0, none⟩) 0 0) 0 [] ∧ Below w1.heap.size w1 (w1.alloc (.cells #[] 82)) ∧ RefIs (w1.alloc (.cells #[] 82)) br R) := ⟨ho, hB, HR1.out.below hB⟩
       refine wpList_append_own_none rfl _ _ 33 rfl w1.heap.size 82 i0 2 Try.underlying33 hi (.slice (some ⟨w1.heap.size, 0, none⟩) 0 0) 0 [] rfl H2.out.1 rfl ?_
       obtain ⟨pa, pc, hpv⟩ := row_form H2.out.2.2.plan
       have d4 : (w1.alloc (.cells #[] 82)).cell? ⟨br, 4, none⟩ = some (.slice pa R.plan.length pc) := by rw [cell_of_block H2.out.2.2.disk]; show some R.pv = _; rw [hpv]
       have d2 : (w1.alloc (.cells #[] 82)).cell? ⟨br, 2, none⟩ = some (.int .i64 R.n) := by rw [cell_of_block H2.out.2.2.disk]; rfl
       have d1 : (w1.alloc (.cells #[] 82)).cell? ⟨br, 1, none⟩ = some (.int .i64 R.frm) := by rw [cell_of_block H2.out.2.2.disk]; rfl
       have f4 : (w1.alloc (.cells #[] 82)).frozen? ⟨br, 4, none⟩ = false := unfrozen_of_block H2.out.2.2.disk 4
       have f1 : (w1.alloc (.cells #[] 82)).frozen? ⟨br, 1, none⟩ = false := unfrozen_of_block H2.out.2.2.disk 1
       generalize w1.alloc (.cells #[] 82) = w2 at H2 d4 d2 d1 f4 f1 ⊢
       clear ho hB hpv)
    | go_in)
  go_ret
  exact ⟨rfl, .slice (some ⟨w1.heap.size, 0, none⟩) 0 0, rarm_end (ps := []) HR1.out HB.out H2.out.1 H2.out.2.1 H2.out.2.2⟩
end Go.Proofs.Ytllkpnlgemjgfaa
/- disk: Plan; Arm. -/
namespace Go.Proofs.Ytllkpnlgemjgfaa
open Go.RowKit Go.Maps Go.Joins
set_option linter.unusedSimpArgs false
set_option linter.unusedVariables false
theorem info79b : (Try.prog.info? 79).map (fun i => (i.zero, i.size, i.bytes)) = some (some (.agg #[.int .i64 0, .int .i64 0]), 2, 16) := by kernel_rfl
theorem info79c : ∃ i, Try.prog.info? 79 = some i ∧ i.zero = some (.agg #[.int .i64 0, .int .i64 0]) ∧ i.size = 2 ∧ i.bytes = 16 := by
  have := info79b
  cases h : Try.prog.info? 79 with
  | none => rw [h] at this; cases this
  | some i =>
    rw [h] at this
    simp at this
    exact ⟨i, rfl, this.1, this.2.1, this.2.2⟩
theorem plL_append (a b : List (Int × Int)) : plL (a ++ b) = plL a ++ plL b := by simp [plL]
/-- append(out, Fault{..}): the fault lies in a block of its own. -/
theorem wpList_append_flt {w : World} {ops : Array Oper} {rest : List Oper} {o : Oper} {a : Act} {Q : Exit → Act → World → Prop} (hgd : o.guard = none) (s x : Operand)
    (ho : o.op = .call { callee := .builtin .append, args := #[s, x], argTypes := #[60, 60] }) (base : Nat)
    (v : Value) (A : List (Int × Int)) (p : Int × Int) (hs : a.eval s = v) (hown : w.ownsRow base 79 2 v A.length (plL A)) (g : Nat) (hg : w.heap[g]? = some (.cells #[.int .i64 p.1, .int .i64 p.2] 79)) (hx : a.eval x = .slice (some ⟨g, 0, none⟩) 1 1)
    (hl : (A.length + 1) * 16 ≤ 140737488355328) (hbase : base ≤ w.heap.size)
    (h : ∀ v' w', w'.ownsRow base 79 2 v' (A ++ [p]).length (plL (A ++ [p])) → w.grownBy w' v.ownBlock → (v'.ownBlock = v.ownBlock ∨ v'.ownBlock = some w.heap.size) → wpList Try.prog ops Q rest (a.put o.dst v') w') : wpList Try.prog ops Q (o :: rest) a w := by
  obtain ⟨i0, hi, hz0, hz1, hz2⟩ := info79c
  refine wpList_append_own_at w hgd s x 60 ho base 79 i0 _ 2 16 Try.underlying60 hi hz0 hz1 hz2 rfl (by decide) v A.length (plL A) hs hown ⟨g, 0, none⟩ 1 1 (plL [p]) hx rfl (fun j u hu => ?_) (plL_one [p]) (by unfold maxLen; omega) (by omega) hbase (fun v' w' a b _ d => h v' w' ?_ b d)
  · rw [Addr.add_lit, Nat.zero_add, cell_of_block hg]
    simpa [plL] using hu
  · rw [List.length_append, plL_append]
    exact a
theorem own_flt {w : World} {base : Nat} {oa : Option Addr} {n oc : Nat} {ps : List (Int × Int)} (h : w.ownsRow base 79 2 (.slice oa n oc) ps.length (plL ps)) : FltV w oa ps := by
  intro j p hj
  have hl := (List.getElem?_eq_some_iff.1 hj).1
  rcases h.2 with ⟨_, h0⟩ | ⟨g, cap, cur, e, _⟩
  · omega
  · injection e with e1 e2 e3
    subst e1
    have h0 := h.cells (g := g) rfl (j * 2) _ (plL_get hj).1
    have h1 := h.cells (g := g) rfl (j * 2 + 1) _ (plL_get hj).2
    rw [Addr.add_lit] at h0 h1
    exact ⟨g, 0, rfl, h0, by rw [← h1, Nat.add_assoc]⟩
set_option maxRecDepth 100000 in
set_option maxHeartbeats 8000000 in
theorem plan_any {w : World} (va : Option Addr) (vc : Nat) (ps : List (Int × Int)) (hv : FltV w va ps) (hl : ps.length * 16 ≤ 140737488351232) :
    Calls Try.prog 33 #[.slice va ps.length vc] w fun e w' => ∃ oa oc, e = .returned (.slice oa ps.length oc) ∧ FltV w' oa ps ∧ Below w.heap.size w w' := by
  have HV : Hid (FltV w va ps) := hv
  clear hv
  go_enter Try.func33, Try.ntmps33
  go_wp2
  go_loopw [3, 4] (fun o i wr => ∃ k : Nat, k ≤ ps.length ∧ i = .int .i64 k ∧ wr.ownsRow w.heap.size 79 2 o k (plL (ps.take k)) ∧ Below w.heap.size w wr) (fun _ i _ => ps.length - (intOf i).toNat)
  case atStart => exact ⟨0, Nat.zero_le _, rfl, World.ownsRow_nil _ _ _ _, Below.refl _ _⟩
  case round =>
    obtain ⟨k, hk, rfl, hown, hb⟩ := hrel
    obtain ⟨oa, ocap, hov⟩ := row_form hown
    subst hov
    by_cases hkl : k < ps.length
    · obtain ⟨p, hp⟩ : ∃ p, ps[k]? = some p := ⟨_, List.getElem?_eq_getElem hkl⟩
      obtain ⟨g, o, rfl, c0, c1⟩ := HV.out k p hp
      have hg0 : g < w.heap.size := cell_lt c0
      have c0 := (hb.cell (p := ⟨g, o + k * 2, none⟩) (cell_lt c0)).trans c0
      have c1 := (hb.cell (p := ⟨g, o + k * 2 + 1, none⟩) (cell_lt c1)).trans c1
      have hki : (k : Int) < ps.length := by omega
      have HO : Hid (wr.ownsRow w.heap.size 79 2 (.slice oa k ocap) k (plL (ps.take k)) ∧ Below w.heap.size w wr ∧ ps[k]? = some p) := ⟨hown, hb, hp⟩
      clear hown hb hp
      go_wp2_with fail
      refine wp_region_held_drew (S := fun w' => w'.cell? ⟨g, o + k * 2, none⟩ = some (.int .i64 p.1) ∧ w'.cell? ⟨g, o + k * 2 + 1, none⟩ = some (.int .i64 p.2)) (by kernel_rfl) ⟨c0, c1⟩ (fun hHeld => ?_)
      refine wpAnyH_take (i := 0) (v := .slice oa k ocap) rfl (by kernel_rfl) (by kernel_rfl) (by kernel_rfl) (fun _ _ _ h => h) (Or.inl ⟨by rfl, fun w9 hSw => ?_⟩) hHeld ?_
      · go_simp
      simp only [List.getElem_toArray, List.getElem_cons_succ, List.getElem_cons_zero, Act.put, List.setIfInBounds_toArray, List.set_cons_zero, List.set_cons_succ]
      refine wpAnyH_take (i := 1) (v := .slice (some ⟨g, o, none⟩) ps.length vc) rfl (by kernel_rfl) (by kernel_rfl) (by kernel_rfl) (fun _ _ _ h => h) (Or.inl ⟨by rfl, fun w9 hSw => ?_⟩) hHeld ?_
      · go_simp
      simp only [List.getElem_toArray, List.getElem_cons_succ, List.getElem_cons_zero, Act.put, List.setIfInBounds_toArray, List.set_cons_zero, List.set_cons_succ]
      refine wpAnyH_take (i := 2) (v := .int .i64 k) rfl (by kernel_rfl) (by kernel_rfl) (by kernel_rfl) (fun _ _ _ h => h) (Or.inl ⟨by rfl, fun w9 hSw => ?_⟩) hHeld ?_
      · go_simp
      simp only [List.getElem_toArray, List.getElem_cons_succ, List.getElem_cons_zero, Act.put, List.setIfInBounds_toArray, List.set_cons_zero, List.set_cons_succ]
      refine wpAnyH_take (i := 3) (v := .pointer (some ⟨g, o + k * 2, none⟩)) rfl (by kernel_rfl) (by kernel_rfl) (by kernel_rfl) (fun _ _ _ h => h) (Or.inl ⟨by rfl, fun w9 hSw => ?_⟩) hHeld ?_
      · go_simp
      simp only [List.getElem_toArray, List.getElem_cons_succ, List.getElem_cons_zero, Act.put, List.setIfInBounds_toArray, List.set_cons_zero, List.set_cons_succ]
      refine wpAnyH_take (i := 4) (v := .pointer (some ⟨g, o + k * 2, none⟩)) rfl (by kernel_rfl) (by kernel_rfl) (by kernel_rfl) (fun _ _ _ h => h) (Or.inl ⟨by rfl, fun w9 hSw => ?_⟩) hHeld ?_
      · go_simp
      simp only [List.getElem_toArray, List.getElem_cons_succ, List.getElem_cons_zero, Act.put, List.setIfInBounds_toArray, List.set_cons_zero, List.set_cons_succ]
      refine wpAnyH_take (i := 5) (v := .int .i64 p.1) rfl (by kernel_rfl) (by kernel_rfl) (by kernel_rfl) (fun _ _ _ h => h) (Or.inl ⟨by rfl, fun w9 hSw => ?_⟩) hHeld ?_
      · have hc := hSw.1
        go_simp
      simp only [List.getElem_toArray, List.getElem_cons_succ, List.getElem_cons_zero, Act.put, List.setIfInBounds_toArray, List.set_cons_zero, List.set_cons_succ]
      refine wpAnyH_take (i := 6) (v := .slice (some ⟨g, o, none⟩) ps.length vc) rfl (by kernel_rfl) (by kernel_rfl) (by kernel_rfl) (fun _ _ _ h => h) (Or.inl ⟨by rfl, fun w9 hSw => ?_⟩) hHeld ?_
      · go_simp
      simp only [List.getElem_toArray, List.getElem_cons_succ, List.getElem_cons_zero, Act.put, List.setIfInBounds_toArray, List.set_cons_zero, List.set_cons_succ]
      refine wpAnyH_take (i := 7) (v := .int .i64 k) rfl (by kernel_rfl) (by kernel_rfl) (by kernel_rfl) (fun _ _ _ h => h) (Or.inl ⟨by rfl, fun w9 hSw => ?_⟩) hHeld ?_
      · go_simp
      simp only [List.getElem_toArray, List.getElem_cons_succ, List.getElem_cons_zero, Act.put, List.setIfInBounds_toArray, List.set_cons_zero, List.set_cons_succ]
      refine wpAnyH_take (i := 8) (v := .pointer (some ⟨g, o + k * 2, none⟩)) rfl (by kernel_rfl) (by kernel_rfl) (by kernel_rfl) (fun _ _ _ h => h) (Or.inl ⟨by rfl, fun w9 hSw => ?_⟩) hHeld ?_
      · go_simp
      simp only [List.getElem_toArray, List.getElem_cons_succ, List.getElem_cons_zero, Act.put, List.setIfInBounds_toArray, List.set_cons_zero, List.set_cons_succ]
      refine wpAnyH_take (i := 9) (v := .pointer (some ⟨g, o + k * 2 + 1, none⟩)) rfl (by kernel_rfl) (by kernel_rfl) (by kernel_rfl) (fun _ _ _ h => h) (Or.inl ⟨by rfl, fun w9 hSw => ?_⟩) hHeld ?_
      · go_simp
      simp only [List.getElem_toArray, List.getElem_cons_succ, List.getElem_cons_zero, Act.put, List.setIfInBounds_toArray, List.set_cons_zero, List.set_cons_succ]
      refine wpAnyH_take (i := 10) (v := .int .i64 p.2) rfl (by kernel_rfl) (by kernel_rfl) (by kernel_rfl) (fun _ _ _ h => h) (Or.inl ⟨by rfl, fun w9 hSw => ?_⟩) hHeld ?_
      · have hc := hSw.2
        go_simp
      simp only [List.getElem_toArray, List.getElem_cons_succ, List.getElem_cons_zero, Act.put, List.setIfInBounds_toArray, List.set_cons_zero, List.set_cons_succ]
      refine wpAnyH_take (i := 11) (v := .agg #[.int .i64 p.1, .int .i64 p.2]) rfl (by kernel_rfl) (by kernel_rfl) (by kernel_rfl) (fun _ _ _ h => h) (Or.inl ⟨by rfl, fun w9 hSw => ?_⟩) hHeld ?_
      · go_simp
      simp only [List.getElem_toArray, List.getElem_cons_succ, List.getElem_cons_zero, Act.put, List.setIfInBounds_toArray, List.set_cons_zero, List.set_cons_succ]
      refine wpAnyH_ready (rs := [12]) (by kernel_rfl) (by simp) ?_
      refine AllReadyH.cons rfl (fun K hK => ?_) AllReadyH.nil
      have hO2 : wr.drew.ownsRow w.heap.size 79 2 (.slice oa k ocap) k (plL (ps.take k)) ∧ Below w.heap.size w wr.drew := ⟨HO.out.1, HO.out.2.1.os, HO.out.2.1.tape, HO.out.2.1.output, HO.out.2.1.size, HO.out.2.1.block⟩
      generalize wr.drew = w1 at hHeld hO2 ⊢
      have hO3 : (w1.alloc (.cells #[.int .i64 p.1, .int .i64 p.2] 79)).ownsRow w.heap.size 79 2 (.slice oa k ocap) k (plL (ps.take k)) ∧ Below w.heap.size w (w1.alloc (.cells #[.int .i64 p.1, .int .i64 p.2] 79)) ∧ (w1.alloc (.cells #[.int .i64 p.1, .int .i64 p.2] 79)).heap[w1.heap.size]? = some (.cells #[.int .i64 p.1, .int .i64 p.2] 79) := ⟨hO2.1.alloc _, hO2.2.alloc hO2.2.size _, heap_alloc_new _ _⟩
      have hS3 : (w1.alloc (.cells #[.int .i64 p.1, .int .i64 p.2] 79)).cell? ⟨g, o + k * 2, none⟩ = some (.int .i64 p.1) ∧ (w1.alloc (.cells #[.int .i64 p.1, .int .i64 p.2] 79)).cell? ⟨g, o + k * 2 + 1, none⟩ = some (.int .i64 p.2) := ⟨(Below.cell (p := ⟨g, o + k * 2, none⟩) (by go_grown) (cell_lt hHeld.1)).trans hHeld.1, (Below.cell (p := ⟨g, o + k * 2 + 1, none⟩) (by go_grown) (cell_lt hHeld.2)).trans hHeld.2⟩
      have HO2 : Hid _ := hO3
      clear hO2 hO3 hHeld
      go_simp
      refine hK.out _ _ hS3 (fun hHeld => ?_)
      clear hK K
      try simp only [List.getElem_toArray, List.getElem_cons_succ, List.getElem_cons_zero, Act.put, List.setIfInBounds_toArray, List.set_cons_zero, List.set_cons_succ]
      refine wpAnyH_ready (rs := [13]) (by kernel_rfl) (by simp) ?_
      refine AllReadyH.cons rfl (fun K hK => ?_) AllReadyH.nil
      generalize w1.alloc (.cells #[.int .i64 p.1, .int .i64 p.2] 79) = w2 at HO2 hHeld hS3 ⊢
      obtain ⟨i0, hi, hz0, hz1, hz2⟩ := info79c
      refine step_append_lies w2 (by rfl) _ _ 60 (by rfl) w.heap.size 79 i0 _ 2 16 Try.underlying60 hi hz0 hz1 hz2 rfl (by decide) (.slice oa k ocap) k (plL (ps.take k)) (by rfl) HO2.out.1 ⟨w1.heap.size, 0, none⟩ 1 1 (plL [p]) (by rfl) rfl (fun j u hu => by rw [Addr.add_lit, Nat.zero_add, cell_of_block HO2.out.2.2]; simpa [plL] using hu) (plL_one [p]) (by omega) (by unfold maxLen; omega) (by omega) HO2.out.2.1.size w2.heap.size rfl ?_
      intro g2 cap2 w3 ho hg2 ha2 hlt2
      have H2 : Hid (w3.ownsRow w.heap.size 79 2 (.slice (some ⟨g2, 0, none⟩) (k + 1) cap2) (k + 1) (plL (ps.take k) ++ plL [p]) ∧ Below w.heap.size w w3) := ⟨ho, HO2.out.2.1.grown hg2 HO2.out.2.1.size (fun j hj => (HO2.out.1.lt j hj).1)⟩
      have hne : ∀ b, (Value.slice oa k ocap).ownBlock = some b → w.heap.size ≤ b := fun b hb => (HO2.out.1.lt b hb).1
      have hgl : g < w.heap.size := hg0
      have hS4 : w3.cell? ⟨g, o + k * 2, none⟩ = some (.int .i64 p.1) ∧ w3.cell? ⟨g, o + k * 2 + 1, none⟩ = some (.int .i64 p.2) := ⟨(World.cell?_of_block (a := ⟨g, o + k * 2, none⟩) (hg2.block g (Nat.lt_of_lt_of_le hgl HO2.out.2.1.size) (fun e => by have := hne g e.symm; omega))).trans hHeld.1, (World.cell?_of_block (a := ⟨g, o + k * 2 + 1, none⟩) (hg2.block g (Nat.lt_of_lt_of_le hgl HO2.out.2.1.size) (fun e => by have := hne g e.symm; omega))).trans hHeld.2⟩
      clear ho hg2 ha2 hHeld
      refine hK.out _ _ hS4 (fun hHeld => ?_)
      clear hK K
      try simp only [List.getElem_toArray, List.getElem_cons_succ, List.getElem_cons_zero, Act.put, List.setIfInBounds_toArray, List.set_cons_zero, List.set_cons_succ]
      refine wpAnyH_take (i := 14) (v := .slice (some ⟨g2, 0, none⟩) (k + 1) cap2) rfl (by kernel_rfl) (by kernel_rfl) (by kernel_rfl) (fun _ _ _ h => h) (Or.inl ⟨by rfl, fun w9 hSw => ?_⟩) hHeld ?_
      · go_simp
      simp only [List.getElem_toArray, List.getElem_cons_succ, List.getElem_cons_zero, Act.put, List.setIfInBounds_toArray, List.set_cons_zero, List.set_cons_succ]
      refine wpAnyH_done (by kernel_rfl) ?_ _
      go_wp2
      go_roundw
      case rel =>
        refine ⟨k + 1, by omega, by go_num, ?_, H2.out.2⟩
        have e : ps.take (k + 1) = ps.take k ++ [p] := by rw [List.take_add_one, HO.out.2.2]; rfl
        rw [e, plL_append]
        exact H2.out.1
      case measure => simp [intOf]; omega
    · have hki : decide ((k : Int) < ps.length) = false := by simp; omega
      obtain rfl : k = ps.length := by omega
      rw [List.take_length] at *
      have HO : Hid (wr.ownsRow w.heap.size 79 2 (.slice oa ps.length ocap) ps.length (plL ps) ∧ Below w.heap.size w wr) := ⟨hown, hb⟩
      clear hown hb
      go_wp2
      go_ret
      exact ⟨oa, ocap, rfl, own_flt HO.out.1, HO.out.2⟩
end Go.Proofs.Ytllkpnlgemjgfaa
/- disk: Arm. -/
namespace Go.Proofs.Ytllkpnlgemjgfaa
open Go.RowKit Go.Maps Go.Joins
set_option linter.unusedSimpArgs false
set_option linter.unusedVariables false
def hasP (l : List (Int × Int)) (x : Int) : Bool := l.any (fun p => p.1 == x)
/-- The program's map of a plan. -/
structure PlD (D : DataW Unit) (l : List (Int × Int)) : Prop where
  map : IsMap D
  kind : ∀ x, D.atKey (.int .i64 x) (.lit (.int .i64 0)) = .lit (.int .i64 (pK l x))
  has : ∀ x, Maps.has D (.int .i64 x) = hasP l x
theorem PlD.nil : PlD (.map []) [] := ⟨isMap_empty, fun _ => rfl, fun _ => rfl⟩
theorem pK_snoc {l : List (Int × Int)} {p : Int × Int} (h : hasP l p.1 = false) (x : Int) : pK (l ++ [p]) x = if x = p.1 then p.2 else pK l x := by
  unfold pK
  rw [List.find?_append]
  by_cases e : x = p.1
  · subst e
    have : l.find? (fun q => q.1 == p.1) = none := by
      rw [List.find?_eq_none]
      intro q hq
      unfold hasP at h
      rw [List.any_eq_false] at h
      simpa using h q hq
    rw [this]
    simp
  · rw [if_neg e]
    have : [p].find? (fun q => q.1 == x) = none := by
      rw [List.find?_eq_none]
      intro q hq
      simp at hq
      subst hq
      simpa using fun h => e h.symm
    rw [this, Option.or_none]
theorem PlD.put {D : DataW Unit} {l : List (Int × Int)} (h : PlD D l) {p : Int × Int} (hn : hasP l p.1 = false) : PlD (D.put (.int .i64 p.1) (.lit (.int .i64 p.2))) (l ++ [p]) := by
  have hk : WideAt.IsKeyLit (.int .i64 p.1) := trivial
  refine ⟨(?_ : IsMap _), fun x => ?_, fun x => ?_⟩
  · obtain ⟨es, rfl⟩ := h.map
    exact ⟨_, rfl⟩
  · rw [pK_snoc hn]
    by_cases e : x = p.1
    · subst e
      rw [atKey_put_same h.map hk, if_pos rfl]
    · rw [atKey_put_other (fun hc => e (by injection hc)), h.kind, if_neg e]
  · unfold hasP
    rw [List.any_append]
    by_cases e : x = p.1
    · subst e
      rw [has_put_same h.map hk]
      simp
    · rw [has_put_other (fun hc => e (by injection hc)), h.has]
      have : [p].any (fun q => q.1 == x) = false := by simpa using fun h => e h.symm
      rw [this, Bool.or_false]
      rfl
theorem hasP_take {ps : List (Int × Int)} {k : Nat} {x : Int} : hasP (ps.take k) x = true ↔ ∃ (j : Nat) (q : Int × Int), j < k ∧ ps[j]? = some q ∧ q.1 = x := by
  unfold hasP
  rw [List.any_eq_true]
  constructor
  · rintro ⟨q, hq, he⟩
    obtain ⟨j, hj⟩ := List.mem_iff_getElem?.1 hq
    rw [List.getElem?_take] at hj
    split at hj
    · exact ⟨j, q, by assumption, hj, by simpa using he⟩
    · cases hj
  · rintro ⟨j, q, hj, hq, he⟩
    exact ⟨q, List.mem_iff_getElem?.2 ⟨j, by rw [List.getElem?_take, if_pos hj]; exact hq⟩, by simpa using he⟩
/-- A disk with a new plan. -/
def armS (S : DS) (b : Nat) (ps : List (Int × Int)) : DS := { S with armed := S.steps, pl := some b, plan := fun x => pK ps x, role := fun x => if x = b then .plan else S.role x }
theorem arm_end {w wr : World} {bd : Nat} {S : DS} {D : DataW Unit} {n : Nat} {ps : List (Int × Int)} (h : DiskIs w bd S) (hB : Below w.heap.size w wr) (hm : wr.ownsMap (H := Unit) Try.prog 3 (plainElem Try.prog 3) w.heap.size n D) (hD : PlD D ps) :
    DiskIs ((wr.setCell ⟨bd, 5, none⟩ (.map (some w.heap.size))).setCell ⟨bd, 4, none⟩ (.int .i64 S.steps)) bd (armS S w.heap.size ps) ∧ Fr w ((wr.setCell ⟨bd, 5, none⟩ (.map (some w.heap.size))).setCell ⟨bd, 4, none⟩ (.int .i64 S.steps)) S (armS S w.heap.size ps) := by
  have hlt := h.lt
  have hmlt := hm.lt
  have hw := h.below hB
  have hk : ∀ b, b ≠ bd → ((wr.setCell ⟨bd, 5, none⟩ (.map (some w.heap.size))).setCell ⟨bd, 4, none⟩ (.int .i64 S.steps)).heap[b]? = wr.heap[b]? := fun b hb => (Below.heap_setCell _ _ _ _ hb).trans (Below.heap_setCell _ _ _ _ hb)
  have hold : ∀ b, S.role b ≠ .none → (armS S w.heap.size ps).role b = S.role b := fun b hb => if_neg (fun hc => by
    have h2 := h.role_lt hb
    omega)
  have hne : ∀ b, S.role b ≠ .none → S.role b ≠ .disk → b ≠ bd := fun b _ h1 e => h1 (by rw [e]; exact h.rd)
  refine ⟨⟨?_, ?_, ?_, ?_, ?_, fun b hb => ?_, fun p hp => ?_, fun p hp => ?_, fun p hp => ?_, fun p hp b hb => ?_, fun b hb => ?_⟩, ?_⟩
  · rw [block_setCell (block_setCell hw.disk _) _]
    simp [dC, armS]
  · rw [hold bd (by rw [h.rd]; simp)]
    exact h.rd
  · exact ownsMap_heap hw.files (hk S.bm (hne S.bm (by rw [h.rm]; simp) (by rw [h.rm]; simp)))
  · show (armS S w.heap.size ps).role S.bm = .map
    rw [hold _ (by rw [h.rm]; simp)]
    exact h.rm
  · exact ⟨n, D, ownsMap_heap hm (hk _ (by omega)), fun x _ => hD.kind x⟩
  · injection hb with hb
    subst hb
    exact if_pos rfl
  · exact (hk _ (hne _ (by rw [h.rf p hp]; simp) (by rw [h.rf p hp]; simp))).trans (hw.file p hp)
  · show (armS S w.heap.size ps).role p.2 = .file p.1
    rw [hold _ (by rw [h.rf p hp]; simp)]
    exact h.rf p hp
  · exact ownsRow_heap (hw.row p hp) (fun b hb => hk b (hne _ (by rw [h.rr p hp b hb]; simp) (by rw [h.rr p hp b hb]; simp)))
  · show (armS S w.heap.size ps).role b = .bytes p.1
    rw [hold _ (by rw [h.rr p hp b hb]; simp)]
    exact h.rr p hp b hb
  · have hb' : wr.heap.size ≤ b := by simpa using hb
    show (if b = w.heap.size then Role.plan else S.role b) = .none
    rw [if_neg (by omega)]
    exact hw.fresh b hb'
  · refine ⟨hB.os, hB.tape, hB.output, by simpa using hB.size, fun b h0 h1 => ?_, fun b h0 h1 => ?_⟩
    · exact (hk b (fun e => by rw [e, h.rd] at h1; cases h1)).trans (hB.block b h0)
    · show (if b = w.heap.size then Role.plan else S.role b) = .none
      rw [if_neg (by omega)]
      exact h1
/-- Numbers as they are. -/
def FW (ps : List (Int × Int)) : Prop := ∀ p ∈ ps, (Lit.int .i64 p.1).wf = true ∧ (Lit.int .i64 p.2).wf = true
def ArmR (w : World) (bd : Nat) (S : DS) (ps : List (Int × Int)) (e : Ending) (w' : World) : Prop := (Right ps ∧ e = .returned (.int .i64 0) ∧ ∃ b, DiskIs w' bd (armS S b ps) ∧ Fr w w' S (armS S b ps)) ∨ (¬ Right ps ∧ e = .returned (.int .i64 1) ∧ Below w.heap.size w w')
set_option maxRecDepth 100000 in
set_option maxHeartbeats 8000000 in
theorem arm_any {w : World} {bd : Nat} {S : DS} (h : DiskIs w bd S) (va : Option Addr) (vc : Nat) (ps : List (Int × Int)) (hv : FltV w va ps) (hw : FW ps) :
    Calls Try.prog 26 #[.pointer (some ⟨bd, 0, none⟩), .slice va ps.length vc] w fun e w' => ArmR w bd S ps e w' := by
  by_cases h64 : 64 < ps.length
  · clear hv
    go_enter Try.func26, Try.ntmps26
    go_wp2
    go_ret
    exact Or.inr ⟨fun h => by have := h.1; omega, rfl, Below.refl _ _⟩
  have HV : Hid (FltV w va ps ∧ FW ps ∧ DiskIs w bd S) := ⟨hv, hw, h⟩
  have hlt := h.lt
  clear hv hw h
  have hm := fun w => run_makeMap (P := Try.prog) 57 w
  go_enter Try.func26, Try.ntmps26
  go_wp2
  go_loopw [18] (fun i wr => ∃ (k : Nat) (D : DataW Unit), k ≤ ps.length ∧ i = .int .i64 k ∧ OkTo ps k ∧ wr.ownsMap (H := Unit) Try.prog 3 (plainElem Try.prog 3) w.heap.size k D ∧ PlD D (ps.take k) ∧ Below w.heap.size w wr) (fun i _ => ps.length - (intOf i).toNat)
  case atStart => exact ⟨0, .map [], Nat.zero_le _, rfl, ⟨fun j p hj => by omega, fun i j p q _ hj => by omega⟩, World.ownsMap_made w Try.prog 3 _, PlD.nil, by go_grown⟩
  case round =>
    obtain ⟨k, D, hk, rfl, hok, hown, hpl, hb⟩ := hrel
    have HO : Hid (OkTo ps k ∧ wr.ownsMap (H := Unit) Try.prog 3 (plainElem Try.prog 3) w.heap.size k D ∧ PlD D (ps.take k) ∧ Below w.heap.size w wr) := ⟨hok, hown, hpl, hb⟩
    by_cases hkn : k < ps.length
    · obtain ⟨p, hp⟩ : ∃ p, ps[k]? = some p := ⟨_, List.getElem?_eq_getElem hkn⟩
      obtain ⟨g, o, rfl, c0, c1⟩ := (HV.out.1.below hb) k p hp
      have HP : Hid (ps[k]? = some p) := hp
      have hwp := HV.out.2.1 p (List.mem_of_getElem? hp)
      have hki : (k : Int) < ps.length := by omega
      obtain ⟨v, qs, hrun, hvv⟩ := (hown.alloc (.cells #[.int .i64 p.1, .int .i64 p.2] 79)).look_ok law3 Try.underlying57 (zero3 _) (zd := .lit (.int .i64 0)) (zp := []) (plainElem_int Try.underlying3 (by decide)) (keyOf_int_mk Try.underlying3 hwp.1)
      obtain ⟨c, rfl, _, _⟩ := plainElem_int_inv Try.underlying3 hvv
      rw [hpl.has] at hrun
      have HW : Hid ((Lit.int .i64 p.1).wf = true ∧ (Lit.int .i64 p.2).wf = true) := hwp
      clear hok hb hp hown hpl hwp hvv
      cases hh : hasP (ps.take k) p.1 with
      | true =>
        rw [hh] at hrun
        have HH : Hid (hasP (ps.take k) p.1 = true) := hh
        clear hh
        go_wp2
        go_ret
        refine Or.inr ⟨fun h => ?_, rfl, HO.out.2.2.2.alloc HO.out.2.2.2.size _⟩
        obtain ⟨j, q, hj, hq, he⟩ := hasP_take.1 HH.out
        exact absurd he (h.2.two j k q p hj hkn hq HP.out)
      | false =>
        rw [hh] at hrun
        have HH : Hid (hasP (ps.take k) p.1 = false) := hh
        clear hh
        by_cases h1 : p.1 < 1
        · go_wp2
          go_ret
          exact Or.inr ⟨fun h => by have := h.2.each k p hkn HP.out; omega, rfl, HO.out.2.2.2.alloc HO.out.2.2.2.size _⟩
        by_cases h2 : p.2 < 1
        · go_wp2
          go_ret
          exact Or.inr ⟨fun h => by have := h.2.each k p hkn HP.out; omega, rfl, HO.out.2.2.2.alloc HO.out.2.2.2.size _⟩
        by_cases h3 : 3 < p.2
        · go_wp2
          go_ret
          exact Or.inr ⟨fun h => by have := h.2.each k p hkn HP.out; omega, rfl, HO.out.2.2.2.alloc HO.out.2.2.2.size _⟩
        have HO2 : Hid ((wr.alloc (.cells #[.int .i64 p.1, .int .i64 p.2] 79)).ownsMap (H := Unit) Try.prog 3 (plainElem Try.prog 3) w.heap.size k D) := HO.out.2.1.alloc _
        go_wp2_with (first
          | (at_mapUpdate
             refine wpList_mapUpdate_own _ rfl _ _ _ 57 rfl 3 3 law3 Try.underlying57 (plainElem Try.prog 3) w.heap.size k D rfl HO2.out (by unfold maxLen; omega) _ _ _ rfl rfl (keyOf_int_mk Try.underlying3 HW.out.1) (.lit (.int .i64 p.2)) [] (plainElem_int Try.underlying3 HW.out.2) ?_
             intro w4 hown4 hg4
             have H4 : Hid (w4.ownsMap (H := Unit) Try.prog 3 (plainElem Try.prog 3) w.heap.size (k + 1) (D.put (.int .i64 p.1) (.lit (.int .i64 p.2))) ∧ Below w.heap.size w w4) := ⟨hown4, (HO.out.2.2.2.alloc HO.out.2.2.2.size _).grown hg4 (by have := HO.out.2.2.2.size; simp; omega) (fun j hj => by injection hj with hj; omega)⟩
             clear hown4 hg4)
          | go_in)
        go_roundw
        case rel =>
          have e : ps.take (k + 1) = ps.take k ++ [p] := by rw [List.take_add_one, HP.out]; rfl
          refine ⟨k + 1, _, by omega, by go_num, ⟨fun j r hj hr => ?_, fun i j r q hij hj hr hq => ?_⟩, H4.out.1, ?_, H4.out.2⟩
          · by_cases ej : j = k
            · subst ej
              rw [HP.out] at hr
              injection hr with hr
              rw [← hr]
              omega
            · exact HO.out.1.each j r (by omega) hr
          · by_cases ej : j = k
            · subst ej
              rw [HP.out] at hq
              injection hq with hq
              rw [← hq]
              intro he
              have := hasP_take.2 ⟨i, r, hij, hr, he⟩
              rw [HH.out] at this
              cases this
            · exact HO.out.1.two i j r q hij (by omega) hr hq
          · rw [e]
            exact HO.out.2.2.1.put HH.out
        case measure => simp [intOf]; omega
    · obtain rfl : k = ps.length := by omega
      clear hok hb hkn hown hpl
      have hd := (HV.out.2.2.below HO.out.2.2.2).disk
      have e3 : wr.cell? ⟨bd, 3, none⟩ = some (.int .i64 S.steps) := by rw [cell_of_block hd]; rfl
      have e4 : wr.cell? ⟨bd, 4, none⟩ = some (.int .i64 S.armed) := by rw [cell_of_block hd]; rfl
      have e5 : wr.cell? ⟨bd, 5, none⟩ = some (.map S.pl) := by rw [cell_of_block hd]; rfl
      have f4 : wr.frozen? ⟨bd, 4, none⟩ = false := unfrozen_of_block hd 4
      have f5 : wr.frozen? ⟨bd, 5, none⟩ = false := unfrozen_of_block hd 5
      clear hd
      go_wp2
      go_ret
      have hpl := HO.out.2.2.1
      rw [List.take_length] at hpl
      exact Or.inl ⟨⟨by omega, HO.out.1⟩, rfl, w.heap.size, arm_end HV.out.2.2 HO.out.2.2.2 HO.out.2.1 hpl⟩
end Go.Proofs.Ytllkpnlgemjgfaa
