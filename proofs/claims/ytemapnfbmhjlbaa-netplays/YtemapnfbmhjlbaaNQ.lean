/- net: Take, Copy. -/
import Derived.Test.YtemapnfbmhjlbaaNP
import Derived.Test.YtemapnfbmhjlbaaNE
namespace Go.Proofs.Ytemapnfbmhjlbaa
open Go.RowKit Go.Maps Go.Joins
set_option linter.unusedSimpArgs false
set_option linter.unusedVariables false
abbrev PA := Int × Int × Int × List Int
def nTake (A : NA) (id : Int) : Int × PA × NA := match A.fl.find? (fun q => q.1 == id) with
  | none => (33, (0, 0, 0, []), A)
  | some q => (0, q, { A with fl := A.fl.eraseP (fun q => q.1 == id) })
def nCopy (A : NA) (id : Int) : Int × NA := match A.fl.find? (fun q => q.1 == id) with
  | none => (33, A)
  | some q => if 4096 ≤ A.fl.length then (3, A) else (0, nPut A q.2.1 q.2.2.1 q.2.2.2)
/-- What Take tells. -/
def TkR (w : World) (b : Nat) (N : NS) (R : Int × PA × NA) (e : Ending) (w' : World) : Prop :=
  ∃ (q : PK) (N' : NS), e = .returned (.tuple #[.agg #[.int .i64 q.id, .int .i64 q.fr, .int .i64 q.to, q.dv], .int .i64 R.1]) ∧ pkA q = R.2.1 ∧ NetIs w' b N' ∧ NFr w w' N N' ∧ absN N' = R.2.2 ∧ BytesV w' q.dv q.bs ∧ ∀ x, dBlock q.dv q.bs.length = some x → N'.own x = 0 ∧ ∃ p ∈ N.fl, dBlock p.dv p.bs.length = some x
theorem find_no {l : List PK} {id : Int} (h : ∀ p ∈ l, p.id ≠ id) : (l.map pkA).find? (fun q => q.1 == id) = none := by
  rw [List.find?_eq_none]
  intro q hq
  obtain ⟨p, hp, rfl⟩ := List.mem_map.1 hq
  have := h p hp
  simpa [pkA] using this
theorem rise_tail {p : PK} {l : List PK} (h : Rise (p :: l)) : Rise l := fun i j a c ha hc hij => h (i + 1) (j + 1) a c (by simpa using ha) (by simpa using hc) (by omega)
theorem find_yes : ∀ {l : List PK} {id : Int} {i : Nat} {p : PK}, Rise l → l[i]? = some p → p.id = id → (l.map pkA).find? (fun q => q.1 == id) = some (pkA p) ∧ (l.map pkA).eraseP (fun q => q.1 == id) = (l.take i ++ l.drop (i + 1)).map pkA
  | [], id, i, p, hr, hp, he => by simp at hp
  | q :: l, id, 0, p, hr, hp, he => by
    simp at hp
    subst hp
    have h1 : ((pkA q).1 == id) = true := by simpa [pkA] using he
    constructor
    · rw [List.map_cons, List.find?_cons, h1]
    · rw [List.map_cons, List.eraseP_cons, h1]
      simp
  | q :: l, id, i + 1, p, hr, hp, he => by
    have hp' : l[i]? = some p := by simpa using hp
    have h1 : ((pkA q).1 == id) = false := by
      have := hr 0 (i + 1) q p rfl hp (by omega)
      have h2 : ¬ q.id = id := by omega
      simpa [pkA] using h2
    obtain ⟨h2, h3⟩ := find_yes (rise_tail hr) hp' he
    constructor
    · rw [List.map_cons, List.find?_cons, h1]
      exact h2
    · rw [List.map_cons, List.eraseP_cons, h1]
      show pkA q :: (l.map pkA).eraseP _ = _
      rw [h3]
      simp
theorem take_nil (w : World) (x : Int) : Calls Try.prog 13 #[.pointer none, .int .i64 x] w fun e w' => e = .returned (.tuple #[.agg #[.int .i64 0, .int .i64 0, .int .i64 0, .slice none 0 0], .int .i64 2]) ∧ Below w.heap.size w w' := by
  go_enter Try.func13, Try.ntmps13
  go_wp2
  go_returns
  exact ⟨rfl, (Below.refl _ w).alloc (Nat.le_refl _) _⟩
theorem NetIs.but {w w' : World} {b r : Nat} {N : NS} (h : NetIs w b N) (hk : ∀ x, x ≠ r → w'.heap[x]? = w.heap[x]?) (hs : w.heap.size ≤ w'.heap.size) (ho : N.own r = 0) (hd : ∀ p ∈ N.fl, ∀ x, dBlock p.dv p.bs.length = some x → x ≠ r) : NetIs w' b N where
  net := (hk b (fun e => by rw [← e, h.rn] at ho; cases ho)).trans h.net
  rn := h.rn
  ck := fun g hg => (hk g (fun e => by rw [← e, h.rc g hg] at ho; cases ho)).trans (h.ck g hg)
  rc := h.rc
  c0 := h.c0
  fl := ownsRow_heap h.fl (fun g hg => hk g (fun e => by rw [← e, h.rf g hg] at ho; cases ho))
  rf := h.rf
  tm := ownsRow_heap h.tm (fun g hg => hk g (fun e => by rw [← e, h.rt g hg] at ho; cases ho))
  rt := h.rt
  data := fun p hp => (h.data p hp).kept (fun x hx => hk x (hd p hp x hx))
  rd := h.rd
  fresh := fun g hg => h.fresh g (Nat.le_trans hs hg)
theorem place_no {w : World} {b : Nat} {N : NS} (h : NetIs w b N) (ho : NOk N) (hr : Rise N.fl) (id : Int) (hn : ∀ p ∈ N.fl, p.id ≠ id) :
    Calls Try.prog 33 #[.pointer (some ⟨b, 0, none⟩), .int .i64 id] w fun e w' => ∃ (i : Nat), e = .returned (.tuple #[.int .i64 i, .bool false]) ∧ Below w.heap.size w w' := by
  refine (place_any h ho hr id).mono ?_
  rintro e w' ⟨i, f, rfl, h1, h2, h3⟩
  cases f with
  | false => exact ⟨i, rfl, h3⟩
  | true =>
    obtain ⟨p, hp, he⟩ := h2.1 rfl
    exact absurd he (hn p (List.mem_of_getElem? hp))
theorem place_yes {w : World} {b : Nat} {N : NS} (h : NetIs w b N) (ho : NOk N) (hr : Rise N.fl) {id : Int} {i : Nat} {p : PK} (hp : N.fl[i]? = some p) (he : p.id = id) :
    Calls Try.prog 33 #[.pointer (some ⟨b, 0, none⟩), .int .i64 id] w fun e w' => e = .returned (.tuple #[.int .i64 i, .bool true]) ∧ Below w.heap.size w w' := by
  refine (place_any h ho hr id).mono ?_
  rintro e w' ⟨j, f, rfl, h1, h2, h3⟩
  cases f with
  | false => exact absurd he (h2.2 rfl p (List.mem_of_getElem? hp))
  | true =>
    obtain ⟨q, hq, he2⟩ := h2.1 rfl
    have : j = i := by
      rcases Nat.lt_trichotomy i j with h | h | h
      · have := hr i j p q hp hq h; omega
      · exact h.symm
      · have := hr j i q p hq hp h; omega
    subst this
    exact ⟨rfl, h3⟩
/-- A result's cell that is still nothing. -/
def nilW (w : World) : World := w.alloc (.cells #[.int .i64 0, .int .i64 0, .int .i64 0, .slice none 0 0] 35)
theorem nilW_below (w : World) : Below w.heap.size w (nilW w) := (Below.refl _ w).alloc (Nat.le_refl _) _
theorem nilW_at (w : World) : (nilW w).heap[w.heap.size]? = some (.cells #[.int .i64 0, .int .i64 0, .int .i64 0, .slice none 0 0] 35) := heap_alloc_new _ _
theorem nilW_size (w : World) : (nilW w).heap.size = w.heap.size + 1 := by unfold nilW; simp
theorem cells4 {w : World} {g : Nat} {a b c d : Value} {t : TypeId} (h : w.heap[g]? = some (.cells #[a, b, c, d] t)) : w.cell? ⟨g, 0, none⟩ = some a ∧ w.cell? ⟨g, 1, none⟩ = some b ∧ w.cell? ⟨g, 2, none⟩ = some c ∧ w.cell? ⟨g, 3, none⟩ = some d ∧ w.frozen? ⟨g, 0, none⟩ = false ∧ w.frozen? ⟨g, 1, none⟩ = false ∧ w.frozen? ⟨g, 2, none⟩ = false ∧ w.frozen? ⟨g, 3, none⟩ = false := by
  refine ⟨?_, ?_, ?_, ?_, unfrozen_of_block h 0, unfrozen_of_block h 1, unfrozen_of_block h 2, unfrozen_of_block h 3⟩ <;> (rw [cell_of_block h]; rfl)
/-- One block alone has turned. -/
structure Poke (w w' : World) (g : Nat) : Prop where
  os : w'.os = w.os
  tape : w'.tape = w.tape
  output : w'.output = w.output
  size : w'.heap.size = w.heap.size
  block : ∀ x, x ≠ g → w'.heap[x]? = w.heap[x]?
theorem Poke.below {w0 w w' : World} {g : Nat} (h : Poke w w' g) (hb : Below w0.heap.size w0 w) (hg : w0.heap.size ≤ g) : Below w0.heap.size w0 w' :=
  ⟨h.os.trans hb.os, h.tape.trans hb.tape, h.output.trans hb.output, by rw [h.size]; exact hb.size, fun k hk => (h.block k (by omega)).trans (hb.block k hk)⟩
/-- A structure of four cells is stored. -/
theorem wpList_store4 {ops : Array Oper} {rest : List Oper} {o : Oper} {a : Act} {w : World} {Q : Exit → Act → World → Prop} (hgd : o.guard = none) (x y : Operand) (ho : o.op = .store 35 x y)
    (g : Nat) (a0 a1 a2 : Int) (v : Value) (hv : v.oneCell' = true) (hx : a.eval x = .pointer (some ⟨g, 0, none⟩)) (hy : a.eval y = .agg #[.int .i64 a0, .int .i64 a1, .int .i64 a2, v]) (b0 b1 b2 b3 : Value) (hg : w.heap[g]? = some (.cells #[b0, b1, b2, b3] 35))
    (h : ∀ w', Hid (w'.heap[g]? = some (.cells #[.int .i64 a0, .int .i64 a1, .int .i64 a2, v] 35)) → Hid (Poke w w' g) → wpList Try.prog ops Q rest (a.put o.dst undef) w') : wpList Try.prog ops Q (o :: rest) a w :=
  wpList_store_row hgd 35 x y ho g _ hx hy 35 _ hg (by kernel_rfl) rfl (by simp only [Array.all_eq_true_iff_forall_mem, List.mem_toArray, List.mem_cons, List.not_mem_nil, or_false]; rintro u (rfl | rfl | rfl | rfl) <;> first | rfl | exact hv) (h _ (setRow_heap w g _ _ 35 _ hg) ⟨rfl, rfl, rfl, by simp [World.setRow], fun k hk => setRow_other w g k _ hk⟩)
set_option maxRecDepth 100000 in
set_option maxHeartbeats 8000000 in
theorem take_no {w : World} {b : Nat} {N : NS} (h : NetIs w b N) (ho : NOk N) (hr : Rise N.fl) (id : Int) (hn : ∀ p ∈ N.fl, p.id ≠ id) :
    Calls Try.prog 13 #[.pointer (some ⟨b, 0, none⟩), .int .i64 id] w fun e w' => e = .returned (.tuple #[.agg #[.int .i64 0, .int .i64 0, .int .i64 0, .slice none 0 0], .int .i64 33]) ∧ Below w.heap.size w w' := by
  have hb := h.lt
  have hnot : ∀ (x : Bool) (w : World), (Op.unary .not (.bool x)).run Try.prog w = .ok (.bool (!x)) w := fun _ _ => rfl
  have HP : Hid _ := place_no (h.below (nilW_below w)) ho hr id hn
  unfold nilW at HP
  clear h ho hr hn
  go_enter Try.func13, Try.ntmps13
  go_wp2_with (first
    | (go_at_call 33
       refine Calls.mono HP.out ?_
       rintro e w1 ⟨i, rfl, q1⟩
       have HB : Hid (Below w.heap.size w w1 ∧ w1.heap[w.heap.size]? = some (.cells #[.int .i64 0, .int .i64 0, .int .i64 0, .slice none 0 0] 35)) := ⟨(nilW_below w).trans (q1.mono (by simp)), (q1.block w.heap.size (by simp)).trans (nilW_at w)⟩
       clear q1 HP)
    | (refine wpList_store4 rfl _ _ rfl w.heap.size 0 0 0 (.slice none 0 0) rfl rfl rfl _ _ _ _ HB.out.2 ?_
       intro w2 hc hk
       have HE : Hid (Below w.heap.size w w2) := hk.out.below HB.out.1 (Nat.le_refl _)
       obtain ⟨k0, k1, k2, k3, _⟩ := cells4 hc.out
       clear hc hk HB))
  refine bodyPost_ret (v := .tuple #[.agg #[.int .i64 0, .int .i64 0, .int .i64 0, .slice none 0 0], .int .i64 33]) (by simp [results, Try.results13, go_sem, k0, k1, k2, k3]) rfl ?_
  exact ⟨rfl, HE.out⟩
theorem rise_del {l : List PK} (h : Rise l) (i : Nat) : Rise (l.take i ++ l.drop (i + 1)) := by
  have hat : ∀ k p, (l.take i ++ l.drop (i + 1))[k]? = some p → l[if k < i then k else k + 1]? = some p := fun k p hp => by
    by_cases hk : k < i
    · rw [if_pos hk]
      by_cases hl : k < l.length
      · rw [List.getElem?_append_left (by rw [List.length_take]; omega), List.getElem?_take_of_lt hk] at hp
        exact hp
      · exfalso
        have := (List.getElem?_eq_some_iff.1 hp).1
        simp only [List.length_append, List.length_take, List.length_drop] at this
        omega
    · rw [if_neg hk]
      by_cases hl : i ≤ l.length
      · rw [List.getElem?_append_right (by rw [List.length_take]; omega), List.getElem?_drop, List.length_take, Nat.min_eq_left hl] at hp
        rw [← hp]
        congr 1
        omega
      · exfalso
        have := (List.getElem?_eq_some_iff.1 hp).1
        simp only [List.length_append, List.length_take, List.length_drop] at this
        omega
  intro x y p q hp hq hxy
  refine h _ _ p q (hat x p hp) (hat y q hq) ?_
  split <;> split <;> omega
set_option maxRecDepth 100000 in
set_option maxHeartbeats 8000000 in
theorem take_yes {w : World} {b : Nat} {N : NS} (h : NetIs w b N) (ho : NOk N) (hr : Rise N.fl) {id : Int} {i : Nat} {p : PK} (hp : N.fl[i]? = some p) (he : p.id = id) :
    Calls Try.prog 13 #[.pointer (some ⟨b, 0, none⟩), .int .i64 id] w fun e w' => ∃ v, e = .returned (.tuple #[.agg #[.int .i64 p.id, .int .i64 p.fr, .int .i64 p.to, p.dv], .int .i64 0]) ∧ NetIs w' b (setF N v (N.fl.take i ++ N.fl.drop (i + 1))) ∧ NFr w w' N (setF N v (N.fl.take i ++ N.fl.drop (i + 1))) ∧ v.ownBlock = N.fv.ownBlock := by
  have hb := h.lt
  have hnot : ∀ (x : Bool) (w : World), (Op.unary .not (.bool x)).run Try.prog w = .ok (.bool (!x)) w := fun _ _ => rfl
  have HP : Hid _ := place_yes (h.below (nilW_below w)) ho hr hp he
  unfold nilW at HP
  obtain ⟨dva, dvc, hdv⟩ := (h.data p (List.mem_of_getElem? hp)).form
  obtain ⟨x0, fr, to, dv, bs⟩ := p
  simp only at he hdv
  subst he
  have hil := (List.getElem?_eq_some_iff.1 hp).1
  obtain ⟨g, fc, hfv, hnz⟩ : ∃ g fc, N.fv = .slice (some ⟨g, 0, none⟩) N.fl.length fc ∧ N.fl.length ≤ fc := by
    rcases h.fl.2 with ⟨_, h0⟩ | ⟨g, cap, cur, e, _, _, h1, _⟩
    · omega
    · exact ⟨g, cap, e, h1⟩
  obtain ⟨n, hn⟩ : ∃ n, n = N.fl.length := ⟨_, rfl⟩
  obtain ⟨j, hj⟩ : ∃ j, j = i + 1 := ⟨_, rfl⟩
  have hj1 : (i : Int) + 1 = (j : Int) := by omega
  have hin : i < n := by omega
  have hn1 : n ≤ 4096 := by have := ho.fl; omega
  have HS : Hid (NetIs w b N ∧ NOk N ∧ N.fl[i]? = some ⟨x0, fr, to, dv, bs⟩ ∧ N.fv = .slice (some ⟨g, 0, none⟩) n fc ∧ n = N.fl.length ∧ j = i + 1 ∧ i < n ∧ n ≤ 4096) := ⟨h, ho, hp, by rw [hn]; exact hfv, hn, hj, hin, hn1⟩
  clear h ho hr hp hfv hnz hn hj hil
  go_enter Try.func13, Try.ntmps13
  go_wp2_with (first
    | (go_at_call 33
       refine Calls.mono HP.out ?_
       rintro e w1 ⟨rfl, q1⟩
       have HB : Hid (Below w.heap.size w w1 ∧ w1.heap[w.heap.size]? = some (.cells #[.int .i64 0, .int .i64 0, .int .i64 0, .slice none 0 0] 35) ∧ w.heap.size < w1.heap.size) := ⟨(nilW_below w).trans (q1.mono (by simp)), (q1.block w.heap.size (by simp)).trans (nilW_at w), by have := q1.size; simp at this; omega⟩
       have hN1 := HS.out.1.below HB.out.1
       have c6 : w1.cell? ⟨b, 6, none⟩ = some (.slice (some ⟨g, 0, none⟩) n fc) := hN1.cells.2.2.2.2.2.2.1.trans (by rw [HS.out.2.2.2.1])
       have hrow := hN1.fl
       rw [HS.out.2.2.2.1] at hrow
       obtain ⟨g', o', e1, c0, c1, c2, c3⟩ := (PkV.of hrow).at_ i _ HS.out.2.2.1
       injection e1 with e1
       injection e1 with e1 e2 _
       subst e1
       subst e2
       simp only [Nat.zero_add] at c0 c1 c2 c3
       have hbw := hN1.lt
       obtain ⟨W2, hW2⟩ : ∃ W2, W2 = w1.alloc (.cells #[.int .i64 x0, .int .i64 fr, .int .i64 to, .slice dva bs.length dvc] 35) := ⟨_, rfl⟩
       have hB2 : Below w1.heap.size w1 W2 := by rw [hW2]; exact (Below.refl _ w1).alloc (Nat.le_refl _) _
       have hN2 := hN1.below hB2
       have hrow2 := hN2.fl
       rw [HS.out.2.2.2.1, ← HS.out.2.2.2.2.1] at hrow2
       have hdel := delP_any (w := W2) (.slice (some ⟨g, 0, none⟩) n fc) (pkL N.fl) n i j (by have := HS.out; omega) (by have := HS.out; omega) hrow2 (pkL_one N.fl hN2.data) (by omega)
       rw [hW2] at hdel
       have HD : Hid _ := hdel
       have HW2 : Hid (W2 = w1.alloc (.cells #[.int .i64 x0, .int .i64 fr, .int .i64 to, .slice dva bs.length dvc] 35) ∧ NetIs W2 b N ∧ Below w.heap.size w W2 ∧ W2.heap[w1.heap.size]? = some (.cells #[.int .i64 x0, .int .i64 fr, .int .i64 to, .slice dva bs.length dvc] 35) ∧ W2.heap[w.heap.size]? = some (.cells #[.int .i64 0, .int .i64 0, .int .i64 0, .slice none 0 0] 35)) := ⟨hW2, hN2, HB.out.1.trans (hB2.mono HB.out.1.size), by rw [hW2]; exact heap_alloc_new _ _, (hB2.block _ HB.out.2.2).trans HB.out.2.1⟩
       clear q1 HP hN1 hrow hrow2 hdel hW2 hB2 hN2
       subst hdv))
  refine Calls.mono HD.out ?_
  rintro e w3 ⟨v3, rfl, o3, ob3, g3⟩
  rw [← HW2.out.1] at g3
  obtain ⟨va, vc, rfl⟩ := row_form o3
  have hob : (Value.slice va (n - (j - i)) vc).ownBlock = N.fv.ownBlock := by rw [ob3, HS.out.2.2.2.1]
  have hll : (N.fl.take i ++ N.fl.drop (i + 1)).length = n - (j - i) := by have := HS.out; simp only [List.length_append, List.length_take, List.length_drop]; omega
  have hmem : ∀ p, p ∈ N.fl.take i ++ N.fl.drop (i + 1) → p ∈ N.fl := fun p hp => by
    rcases List.mem_append.1 hp with hp | hp
    · exact List.mem_of_mem_take hp
    · exact List.mem_of_mem_drop hp
  have hend := setF_end (v := .slice va (n - (j - i)) vc) (l := N.fl.take i ++ N.fl.drop (i + 1)) HW2.out.2.1 (by rw [HS.out.2.2.2.1]; exact g3) (by rw [hll, pkL_append, pkL_take, pkL_drop, ← HS.out.2.2.2.2.2.1]; exact o3) (Or.inl hob) (fun p hp => HW2.out.2.1.data p (hmem p hp)) (fun p hp => HW2.out.2.1.rd p (hmem p hp))
  have hblk : ∀ x, N.own x ≠ 3 → x < W2.heap.size → w3.heap[x]? = W2.heap[x]? := fun x h3 hx => g3.block x hx (fun e => h3 (HW2.out.2.1.rf x (by rw [HS.out.2.2.2.1]; exact e.symm)))
  have hb3 : w3.heap[b]? = some (.cells (nC N) 82) := (hblk b (by rw [HW2.out.2.1.rn]; decide) HW2.out.2.1.lt).trans HW2.out.2.1.net
  have d6 : w3.cell? ⟨b, 6, none⟩ = some (.slice (some ⟨g, 0, none⟩) n fc) := by rw [cell_of_block hb3]; show some N.fv = _; rw [HS.out.2.2.2.1]
  have z6 : w3.frozen? ⟨b, 6, none⟩ = false := unfrozen_of_block hb3 6
  have hfr := HS.out.1.fresh
  have hs3 : w3.heap[w1.heap.size]? = some (.cells #[.int .i64 x0, .int .i64 fr, .int .i64 to, .slice dva bs.length dvc] 35) := (hblk _ (by rw [hfr _ (by have := HB.out; omega)]; decide) (heap_lt HW2.out.2.2.2.1)).trans HW2.out.2.2.2.1
  have hr3 : w3.heap[w.heap.size]? = some (.cells #[.int .i64 0, .int .i64 0, .int .i64 0, .slice none 0 0] 35) := (hblk _ (by rw [hfr _ (Nat.le_refl _)]; decide) (heap_lt HW2.out.2.2.2.2)).trans HW2.out.2.2.2.2
  have hr4 : (w3.setCell ⟨b, 6, none⟩ (.slice va (n - (j - i)) vc)).heap[w.heap.size]? = some (.cells #[.int .i64 0, .int .i64 0, .int .i64 0, .slice none 0 0] 35) := (Below.heap_setCell _ _ _ _ (fun e => by have e' : w.heap.size = b := e; omega)).trans hr3
  obtain ⟨k0, k1, k2, k3, _⟩ := cells4 hs3
  have hbs : b ≠ w1.heap.size := by omega
  have HE : Hid (NetIs (w3.setCell ⟨b, 6, none⟩ (.slice va (n - (j - i)) vc)) b (setF N (.slice va (n - (j - i)) vc) (N.fl.take i ++ N.fl.drop (i + 1))) ∧ NFq w (w3.setCell ⟨b, 6, none⟩ (.slice va (n - (j - i)) vc)) N (setF N (.slice va (n - (j - i)) vc) (N.fl.take i ++ N.fl.drop (i + 1))) ∧ (Value.slice va (n - (j - i)) vc).ownBlock = N.fv.ownBlock ∧ (∀ p ∈ N.fl.take i ++ N.fl.drop (i + 1), p ∈ N.fl)) := ⟨hend.1, (NFr.below HW2.out.2.2.1).toNFq.trans hend.2, hob, hmem⟩
  have HR4 : Hid ((w3.setCell ⟨b, 6, none⟩ (.slice va (n - (j - i)) vc)).heap[w.heap.size]? = some (.cells #[.int .i64 0, .int .i64 0, .int .i64 0, .slice none 0 0] 35)) := hr4
  clear o3 ob3 g3 hob hll hmem hend hblk hb3 hfr hs3 hr3 hr4 HD c0 c1 c2 c3 c6
  generalize n - (j - i) = m at *
  go_wp2_with (first
    | (refine wpList_store4 rfl _ _ rfl w.heap.size x0 fr to (.slice dva bs.length dvc) rfl rfl rfl _ _ _ _ HR4.out ?_
       intro w5 hc hk
       obtain ⟨l0, l1, l2, l3, _⟩ := cells4 hc.out
       have HK : Hid (Poke (w3.setCell ⟨b, 6, none⟩ (.slice va m vc)) w5 w.heap.size) := hk
       clear hc hk HR4))
  refine bodyPost_ret (v := .tuple #[.agg #[.int .i64 x0, .int .i64 fr, .int .i64 to, .slice dva bs.length dvc], .int .i64 0]) (by simp [results, Try.results13, go_sem, l0, l1, l2, l3]) rfl ?_
  have hk := HK.out
  have ho : (setF N (.slice va m vc) (N.fl.take i ++ N.fl.drop (i + 1))).own w.heap.size = 0 := by
    show (if (Value.slice va m vc).ownBlock = some w.heap.size then 3 else N.own w.heap.size) = 0
    rw [if_neg (fun e => by rw [HE.out.2.2.1] at e; have := (HS.out.1.fl.lt _ e).2; omega)]
    exact HS.out.1.fresh _ (Nat.le_refl _)
  refine ⟨.slice va m vc, rfl, HE.out.1.but hk.block (by rw [hk.size]; exact Nat.le_refl _) ho (fun p hp x hx => ?_), ⟨⟨hk.os.trans HE.out.2.1.os, hk.tape.trans HE.out.2.1.tape, hk.output.trans HE.out.2.1.output, by rw [hk.size]; exact HE.out.2.1.size, fun x hx h0 => (hk.block x (by omega)).trans (HE.out.2.1.block x hx h0), HE.out.2.1.own⟩, fun p hp x hx => Or.inl ⟨p, HE.out.2.2.2 p hp, hx⟩⟩, HE.out.2.2.1⟩
  have := dBlock_lt (HS.out.1.data p (HE.out.2.2.2 p hp)) hx
  omega
end Go.Proofs.Ytemapnfbmhjlbaa
