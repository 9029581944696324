/- UA, WdY5, laid into one text. -/
import Derived.Test.YtmnlcpfehbpogaaTG
import Derived.Test.YtmnlcpfehbpogaaM31
import Derived.Test.YtmnlcpfehbpogaaM6
import Derived.Laws.IdiomStrings
/- rlp: which items are numbers. -/
namespace Go.Proofs.Ytmnlcpfehbpogaa
open Go.RowKit Go.Maps Go.Joins
set_option linter.unusedSimpArgs false
set_option linter.unusedVariables false
theorem num_inj {a0 a1 a2 a3 b0 b1 b2 b3 : Int} (h : Wd.L4 a0 a1 a2 a3) (k : Wd.L4 b0 b1 b2 b3) (e : Wd.num a0 a1 a2 a3 = Wd.num b0 b1 b2 b3) : a0 = b0 ∧ a1 = b1 ∧ a2 = b2 ∧ a3 = b3 := by
  obtain ⟨⟨_, _⟩, ⟨_, _⟩, ⟨_, _⟩, ⟨_, _⟩⟩ := h
  obtain ⟨⟨_, _⟩, ⟨_, _⟩, ⟨_, _⟩, ⟨_, _⟩⟩ := k
  unfold Wd.num at e; omega
theorem num_ex (n : Int) (h0 : 0 ≤ n) (h : n < Wd.T256) : ∃ a0 a1 a2 a3, Wd.L4 a0 a1 a2 a3 ∧ Wd.num a0 a1 a2 a3 = n := by
  unfold Wd.T256 at h
  refine ⟨n % 18446744073709551616, n / 18446744073709551616 % 18446744073709551616, n / 340282366920938463463374607431768211456 % 18446744073709551616, n / 6277101735386680763835789423207666416102355444464034512896, ⟨⟨?_, ?_⟩, ⟨?_, ?_⟩, ⟨?_, ?_⟩, ⟨?_, ?_⟩⟩, ?_⟩
  all_goals (try unfold Wd.num)
  all_goals omega
/-- The error of an item that is to be a number, and the number. -/
def wrdE (x : Tr) (most : Nat) : Int := if x.l then 1 else if most < x.b.length then 3 else if x.b.headD 1 = 0 then 11 else 0
def wrdN (x : Tr) (most : Nat) : Nat := if wrdE x most = 0 then numB x.b else 0
theorem wrdE_mk (bs : List Int) (xs : List Tr) (most : Nat) : wrdE (.mk false bs xs) most = if most < bs.length then 3 else if bs.headD 1 = 0 then 11 else 0 := rfl
theorem valB_rev : ∀ (k : Nat) (bs : List Int), bs.length = k → Byt bs → Wd.valB bs.reverse = (numB bs : Nat) := by
  intro k
  induction k with
  | zero =>
    intro bs h _
    obtain rfl := List.eq_nil_of_length_eq_zero h
    rfl
  | succ k ih =>
    intro bs h hb
    obtain ⟨r, c, rfl⟩ : ∃ r c, bs = r ++ [c] := by
      have hne : bs ≠ [] := by intro e; subst e; simp at h
      exact ⟨bs.dropLast, bs.getLast hne, (List.dropLast_concat_getLast hne).symm⟩
    have hc := hb c (by simp)
    rw [numB_snoc, List.reverse_append]
    show Wd.valB (c :: r.reverse) = _
    simp only [Wd.valB]
    rw [ih r (by simpa using h) (fun x hx => hb x (by simp [hx]))]
    omega
theorem byt_rev {bs : List Int} (h : Byt bs) : Wd.Byt bs.reverse := fun k => by
  by_cases hk : k < bs.reverse.length
  · have : bs.reverse.getD k 0 = bs.reverse[k] := by simp [List.getD, List.getElem?_eq_getElem hk]
    rw [this]
    exact h _ (List.mem_reverse.1 (List.getElem_mem hk))
  · have : bs.reverse.getD k 0 = 0 := by simp [List.getD, List.getElem?_eq_none (by omega : bs.reverse.length ≤ k)]
    rw [this]
    omega
theorem isU_of {w : World} {a : Option Addr} {cap : Nat} {bs : List Int} (h : BytesV w (.slice a bs.length cap) bs) : Wd.IsV w (.slice a bs.length cap) bs.reverse := by
  refine ⟨a, cap, by rw [List.length_reverse], fun k hk => ?_⟩
  rw [List.length_reverse] at hk
  obtain ⟨x, hx⟩ : ∃ x, bs[bs.length - 1 - k]? = some x := ⟨_, List.getElem?_eq_getElem (by omega)⟩
  obtain ⟨g, o, e, hcell⟩ := h.at hx
  refine ⟨g, o, e, cell_lt hcell, ?_⟩
  rw [List.length_reverse, hcell]
  have : bs.reverse.getD k 0 = x := by
    rw [List.getD_eq_getElem?_getD, List.getElem?_reverse (by omega), hx]
    rfl
  rw [this]
theorem load50 {w : World} {b : Nat} {x y z u : Value} (h : w.heap[b]? = some (.cells #[x, y, z, u] 50)) : (loadVar 50 ⟨b, 0, none⟩).run Try.prog w = .ok (.agg #[x, y, z, u]) w :=
  run_loadVar_row w b 50 50 #[x, y, z, u] (0, 0) _ h Try.underlying50 rfl (by kernel_rfl)
abbrev set4 (w : World) (b : Nat) (x y z u : Value) : World := (((w.setCell ⟨b, 0, none⟩ x).setCell ⟨b, 1, none⟩ y).setCell ⟨b, 2, none⟩ z).setCell ⟨b, 3, none⟩ u
theorem set50 {w : World} {b : Nat} {x y z u x' y' z' u' : Value} (h : w.heap[b]? = some (.cells #[x, y, z, u] 50)) : (set4 w b x' y' z' u').heap[b]? = some (.cells #[x', y', z', u'] 50) :=
  heap_setCell_same _ b 3 _ 50 u' (heap_setCell_same _ b 2 _ 50 z' (heap_setCell_same _ b 1 _ 50 y' (heap_setCell_same _ b 0 _ 50 x' h)))
theorem set4_below {w0 w : World} {B b : Nat} (h : Below B w0 w) (hb : B ≤ b) (x y z u : Value) : Below B w0 (set4 w b x y z u) :=
  (((h.setCell (p := ⟨b, 0, none⟩) hb _).setCell (p := ⟨b, 1, none⟩) hb _).setCell (p := ⟨b, 2, none⟩) hb _).setCell (p := ⟨b, 3, none⟩) hb _
/-- An item's bytes: where they lie. -/
structure ItB (w : World) (a : Option Addr) (cap : Nat) (bs : List Int) : Prop where
  is : BytesV w (.slice a bs.length cap) bs
  by' : Byt bs
  len : bs.length ≤ 140737488355328
theorem ItB.below {w w' : World} {a : Option Addr} {cap : Nat} {bs : List Int} (h : ItB w a cap bs) (hb : Below w.heap.size w w') : ItB w' a cap bs := ⟨h.is.below hb, h.by', h.len⟩
theorem res40 (w3 : World) (b : Nat) (x y z u c : Value) (tmps : Array Value) (h : w3.heap[b]? = some (.cells #[x, y, z, u] 50)) (h4 : tmps[4]? = some (.pointer (some ⟨b, 0, none⟩))) (h5 : tmps[5]? = some c) :
    (results Try.f40 tmps).run Try.prog w3 = .ok (.tuple #[.agg #[x, y, z, u], c]) w3 := by
  have hl := load50 h
  simp [results, Try.results40, asAddr, h4, h5, hl]
set_option maxRecDepth 100000 in
set_option maxHeartbeats 8000000 in
theorem number_any {w : World} {l : Bool} {a : Option Addr} {cap : Nat} {bs : List Int} {xs : List Tr} {si : Value} (h : ItB w a cap bs) (hsi : ∃ a l c, si = .slice a l c) (most : Nat) (hmost : most ≤ 32) (r0 r1 r2 r3 : Int) (hr : Wd.L4 r0 r1 r2 r3) (hn : Wd.num r0 r1 r2 r3 = (wrdN (.mk l bs xs) most : Nat)) :
    Calls Try.prog 40 #[.agg #[.bool l, .slice a bs.length cap, si], .int .i64 most] w fun e w' => Below w.heap.size w w' ∧ e = .returned (.tuple #[Wd.W4 r0 r1 r2 r3, .int .i64 (wrdE (.mk l bs xs) most)]) := by
  obtain ⟨si0, si1, si2, rfl⟩ := hsi
  have hb : Below w.heap.size w ((w.alloc (.cells #[.bool l, .slice a bs.length cap, .slice si0 si1 si2] 31)).alloc (.cells #[.int .u64 0, .int .u64 0, .int .u64 0, .int .u64 0] 50)) := by go_grown
  have hk := allocs_heap [Obj.cells #[.bool l, .slice a bs.length cap, .slice si0 si1 si2] 31, .cells #[.int .u64 0, .int .u64 0, .int .u64 0, .int .u64 0] 50] w
  have HB : Hid (Below w.heap.size w ((w.alloc (.cells #[.bool l, .slice a bs.length cap, .slice si0 si1 si2] 31)).alloc (.cells #[.int .u64 0, .int .u64 0, .int .u64 0, .int .u64 0] 50)) ∧ ((w.alloc (.cells #[.bool l, .slice a bs.length cap, .slice si0 si1 si2] 31)).alloc (.cells #[.int .u64 0, .int .u64 0, .int .u64 0, .int .u64 0] 50)).heap[w.heap.size + 1]? = some (.cells #[.int .u64 0, .int .u64 0, .int .u64 0, .int .u64 0] 50)) := ⟨hb, hk 1 _ rfl⟩
  have h2 := h.below hb
  have hlen := h.len
  have hz : ∀ c, wrdE (.mk l bs xs) most = c → c ≠ 0 → r0 = 0 ∧ r1 = 0 ∧ r2 = 0 ∧ r3 = 0 := fun c hc h0 => num_inj hr ⟨⟨by omega, by omega⟩, ⟨by omega, by omega⟩, ⟨by omega, by omega⟩, ⟨by omega, by omega⟩⟩ (hn.trans (by unfold wrdN; rw [if_neg (by rw [hc]; exact h0)]; rfl))
  have HZ : Hid _ := hz
  obtain ⟨E, hE⟩ : ∃ E, E = wrdE (.mk l bs xs) most := ⟨_, rfl⟩
  rw [← hE]
  have HE : Hid (E = wrdE (.mk l bs xs) most) := hE
  have HR : Hid (Wd.L4 r0 r1 r2 r3 ∧ Wd.num r0 r1 r2 r3 = (wrdN (.mk l bs xs) most : Nat)) := ⟨hr, hn⟩
  obtain ⟨N, hN⟩ : ∃ N, N = bs.length := ⟨_, rfl⟩
  have H2 : Hid (ItB ((w.alloc (.cells #[.bool l, .slice a bs.length cap, .slice si0 si1 si2] 31)).alloc (.cells #[.int .u64 0, .int .u64 0, .int .u64 0, .int .u64 0] 50)) a cap bs) := h2
  rw [← hN] at H2 HB hlen ⊢
  have HNb : Hid (N = bs.length) := hN
  clear hb hk h h2 hz hE hr hn hN
  cases l with
  | true =>
    have e1 : E = 1 := HE.out.trans (by simp [wrdE, Tr.l])
    obtain ⟨rfl, rfl, rfl, rfl⟩ := HZ.out 1 (HE.out.symm.trans e1) (by decide)
    clear HZ HE HR H2
    subst e1
    go_enter Try.func40, Try.ntmps40
    go_wp2
    exact ⟨rfl, _, res40 _ _ _ _ _ _ _ _ HB.out.2 rfl rfl, HB.out.1, rfl⟩
  | false =>
    by_cases hbig : most < N
    · have e1 : E = 3 := HE.out.trans (by rw [wrdE_mk]; rw [if_pos (by rw [← HNb.out]; exact hbig)])
      obtain ⟨rfl, rfl, rfl, rfl⟩ := HZ.out 3 (HE.out.symm.trans e1) (by decide)
      have hbi : (most : Int) < N := by omega
      clear HZ HE HR H2
      subst e1
      go_enter Try.func40, Try.ntmps40
      go_wp2
      exact ⟨rfl, _, res40 _ _ _ _ _ _ _ _ HB.out.2 rfl rfl, HB.out.1, rfl⟩
    · have hbi : ¬ (most : Int) < N := by omega
      have hNN : ¬ most < bs.length := by rw [← HNb.out]; exact hbig
      have hcase : (∃ c, 0 < N ∧ bs[0]? = some c ∧ c = 0) ∨ (((∃ c, 0 < N ∧ bs[0]? = some c ∧ c ≠ 0) ∨ N = 0) ∧ ¬ bs.headD 1 = 0) := by
        cases hbs : bs with
        | nil => exact Or.inr ⟨Or.inr (by rw [HNb.out, hbs]; rfl), by simp⟩
        | cons c r =>
          have hp : 0 < N := by rw [HNb.out, hbs]; simp
          by_cases h0 : c = 0
          · exact Or.inl ⟨c, hp, rfl, h0⟩
          · exact Or.inr ⟨Or.inl ⟨c, hp, rfl, h0⟩, by simpa using h0⟩
      rcases hcase with ⟨c, hp, hc, h0⟩ | ⟨hcase, hh⟩
      · have e1 : E = 11 := HE.out.trans (by
          rw [wrdE_mk]
          rw [if_neg hNN, if_pos (by cases bs with | nil => cases hc | cons y r => simp at hc; simp [hc, h0])])
        obtain ⟨rfl, rfl, rfl, rfl⟩ := HZ.out 11 (HE.out.symm.trans e1) (by decide)
        obtain ⟨g, o, ha, hcell⟩ := H2.out.is.at hc
        subst ha
        rw [h0, Nat.add_zero] at hcell
        have hpi : (0 : Int) < N := by omega
        clear HZ HE HR H2 hNN hc h0 HNb
        subst e1
        go_enter Try.func40, Try.ntmps40
        go_wp2
        exact ⟨rfl, _, res40 _ _ _ _ _ _ _ _ HB.out.2 rfl rfl, HB.out.1, rfl⟩
      · have e1 : E = 0 := HE.out.trans (by
          rw [wrdE_mk]
          rw [if_neg hNN, if_neg hh])
        have hC := Wd.readv_any _ _ _ (isU_of H2.out.is) (by rw [List.length_reverse]; omega) (byt_rev H2.out.by')
        have hv : Wd.valB bs.reverse = Wd.num r0 r1 r2 r3 := by
          rw [HR.out.2, valB_rev _ bs rfl H2.out.by']
          unfold wrdN
          rw [if_pos (by rw [← HE.out]; exact e1)]
          rfl
        rw [hv, ← HNb.out] at hC
        have HC : Hid _ := hC
        have HL : Hid (Wd.L4 r0 r1 r2 r3) := HR.out.1
        have hc2 : ∀ c, bs[0]? = some c → ∃ g o, a = some ⟨g, o, none⟩ ∧ ((w.alloc (.cells #[.bool false, .slice a N cap, .slice si0 si1 si2] 31)).alloc (.cells #[.int .u64 0, .int .u64 0, .int .u64 0, .int .u64 0] 50)).cell? ⟨g, o, none⟩ = some (.int .u8 c) := fun c hc => by
          obtain ⟨g, o, ha, hcell⟩ := H2.out.is.at hc
          exact ⟨g, o, ha, by rw [Nat.add_zero] at hcell; exact hcell⟩
        clear hC hv HR hh hNN HZ HE H2 HNb
        subst e1
        rcases hcase with ⟨c, hp, hc, h0⟩ | hz
        · obtain ⟨g, o, rfl, hcell⟩ := hc2 c hc
          have hpi : (0 : Int) < N := by omega
          have hci : (c == 0) = false := by simpa using h0
          clear hc2 hc h0
          go_enter Try.func40, Try.ntmps40
          go_wp2_with fail
          refine Calls.mono HC.out ?_
          rintro e w1 ⟨q0, q1, q2, q3, rfl, hq, hqn, hb1⟩
          obtain ⟨rfl, rfl, rfl, rfl⟩ := num_inj hq HL.out hqn.out
          have k1 := (hb1.block (w.heap.size + 1) (heap_lt HB.out.2)).trans HB.out.2
          have a0 : w1.cell? ⟨w.heap.size + 1, 0, none⟩ = some (.int .u64 0) := (cell_of_block k1 0).trans rfl
          have a1 : w1.cell? ⟨w.heap.size + 1, 1, none⟩ = some (.int .u64 0) := (cell_of_block k1 1).trans rfl
          have a2 : w1.cell? ⟨w.heap.size + 1, 2, none⟩ = some (.int .u64 0) := (cell_of_block k1 2).trans rfl
          have a3 : w1.cell? ⟨w.heap.size + 1, 3, none⟩ = some (.int .u64 0) := (cell_of_block k1 3).trans rfl
          have az := fun k => unfrozen_of_block k1 k
          have HK : Hid (w1.heap[w.heap.size + 1]? = some (.cells #[.int .u64 0, .int .u64 0, .int .u64 0, .int .u64 0] 50) ∧ Below w.heap.size w w1) := ⟨k1, HB.out.1.trans (hb1.mono HB.out.1.size)⟩
          clear hb1 k1 hqn hq HC
          go_wp2
          refine ⟨rfl, _, res40 _ _ _ _ _ _ _ _ (set50 HK.out.1) rfl rfl, ?_, rfl⟩
          exact set4_below HK.out.2 (Nat.le_succ _) _ _ _ _
        · have hpi : ¬ (0 : Int) < N := by omega
          clear hc2 hz
          go_enter Try.func40, Try.ntmps40
          go_wp2_with fail
          refine Calls.mono HC.out ?_
          rintro e w1 ⟨q0, q1, q2, q3, rfl, hq, hqn, hb1⟩
          obtain ⟨rfl, rfl, rfl, rfl⟩ := num_inj hq HL.out hqn.out
          have k1 := (hb1.block (w.heap.size + 1) (heap_lt HB.out.2)).trans HB.out.2
          have a0 : w1.cell? ⟨w.heap.size + 1, 0, none⟩ = some (.int .u64 0) := (cell_of_block k1 0).trans rfl
          have a1 : w1.cell? ⟨w.heap.size + 1, 1, none⟩ = some (.int .u64 0) := (cell_of_block k1 1).trans rfl
          have a2 : w1.cell? ⟨w.heap.size + 1, 2, none⟩ = some (.int .u64 0) := (cell_of_block k1 2).trans rfl
          have a3 : w1.cell? ⟨w.heap.size + 1, 3, none⟩ = some (.int .u64 0) := (cell_of_block k1 3).trans rfl
          have az := fun k => unfrozen_of_block k1 k
          have HK : Hid (w1.heap[w.heap.size + 1]? = some (.cells #[.int .u64 0, .int .u64 0, .int .u64 0, .int .u64 0] 50) ∧ Below w.heap.size w w1) := ⟨k1, HB.out.1.trans (hb1.mono HB.out.1.size)⟩
          clear hb1 k1 hqn hq HC
          go_wp2
          refine ⟨rfl, _, res40 _ _ _ _ _ _ _ _ (set50 HK.out.1) rfl rfl, ?_, rfl⟩
          exact set4_below HK.out.2 (Nat.le_succ _) _ _ _ _
theorem res22 (w3 : World) (b : Nat) (x y z u c : Value) (tmps : Array Value) (h : w3.heap[b]? = some (.cells #[x, y, z, u] 50)) (h4 : tmps[4]? = some (.pointer (some ⟨b, 0, none⟩))) (h5 : tmps[5]? = some c) :
    (results Try.f22 tmps).run Try.prog w3 = .ok (.tuple #[.agg #[x, y, z, u], c]) w3 := by
  have hl := load50 h
  simp [results, Try.results22, asAddr, h4, h5, hl]
set_option maxRecDepth 100000 in
set_option maxHeartbeats 8000000 in
theorem rword_any {w : World} {l : Bool} {a : Option Addr} {cap : Nat} {bs : List Int} {xs : List Tr} {si : Value} (h : ItB w a cap bs) (hsi : ∃ a l c, si = .slice a l c) (most : Nat) (hmost : most ≤ 32) (r0 r1 r2 r3 : Int) (hr : Wd.L4 r0 r1 r2 r3) (hn : Wd.num r0 r1 r2 r3 = (wrdN (.mk l bs xs) most : Nat)) :
    Calls Try.prog 22 #[.agg #[.bool l, .slice a bs.length cap, si], .int .i64 most] w fun e w' => Below w.heap.size w w' ∧ e = .returned (.tuple #[Wd.W4 r0 r1 r2 r3, .int .i64 (wrdE (.mk l bs xs) most)]) := by
  obtain ⟨si0, si1, si2, rfl⟩ := hsi
  have hb : Below w.heap.size w ((w.alloc (.cells #[.bool l, .slice a bs.length cap, .slice si0 si1 si2] 25)).alloc (.cells #[.int .u64 0, .int .u64 0, .int .u64 0, .int .u64 0] 50)) := by go_grown
  have hk := allocs_heap [Obj.cells #[.bool l, .slice a bs.length cap, .slice si0 si1 si2] 25, .cells #[.int .u64 0, .int .u64 0, .int .u64 0, .int .u64 0] 50] w
  have HB : Hid (Below w.heap.size w ((w.alloc (.cells #[.bool l, .slice a bs.length cap, .slice si0 si1 si2] 25)).alloc (.cells #[.int .u64 0, .int .u64 0, .int .u64 0, .int .u64 0] 50)) ∧ ((w.alloc (.cells #[.bool l, .slice a bs.length cap, .slice si0 si1 si2] 25)).alloc (.cells #[.int .u64 0, .int .u64 0, .int .u64 0, .int .u64 0] 50)).heap[w.heap.size + 1]? = some (.cells #[.int .u64 0, .int .u64 0, .int .u64 0, .int .u64 0] 50)) := ⟨hb, hk 1 _ rfl⟩
  have h2 := h.below hb
  have hlen := h.len
  have hz : ∀ c, wrdE (.mk l bs xs) most = c → c ≠ 0 → r0 = 0 ∧ r1 = 0 ∧ r2 = 0 ∧ r3 = 0 := fun c hc h0 => num_inj hr ⟨⟨by omega, by omega⟩, ⟨by omega, by omega⟩, ⟨by omega, by omega⟩, ⟨by omega, by omega⟩⟩ (hn.trans (by unfold wrdN; rw [if_neg (by rw [hc]; exact h0)]; rfl))
  have HZ : Hid _ := hz
  obtain ⟨E, hE⟩ : ∃ E, E = wrdE (.mk l bs xs) most := ⟨_, rfl⟩
  rw [← hE]
  have HE : Hid (E = wrdE (.mk l bs xs) most) := hE
  have HR : Hid (Wd.L4 r0 r1 r2 r3 ∧ Wd.num r0 r1 r2 r3 = (wrdN (.mk l bs xs) most : Nat)) := ⟨hr, hn⟩
  obtain ⟨N, hN⟩ : ∃ N, N = bs.length := ⟨_, rfl⟩
  have H2 : Hid (ItB ((w.alloc (.cells #[.bool l, .slice a bs.length cap, .slice si0 si1 si2] 25)).alloc (.cells #[.int .u64 0, .int .u64 0, .int .u64 0, .int .u64 0] 50)) a cap bs) := h2
  rw [← hN] at H2 HB hlen ⊢
  have HNb : Hid (N = bs.length) := hN
  clear hb hk h h2 hz hE hr hn hN
  cases l with
  | true =>
    have e1 : E = 1 := HE.out.trans (by simp [wrdE, Tr.l])
    obtain ⟨rfl, rfl, rfl, rfl⟩ := HZ.out 1 (HE.out.symm.trans e1) (by decide)
    clear HZ HE HR H2
    subst e1
    go_enter Try.func22, Try.ntmps22
    go_wp2
    exact ⟨rfl, _, res22 _ _ _ _ _ _ _ _ HB.out.2 rfl rfl, HB.out.1, rfl⟩
  | false =>
    by_cases hbig : most < N
    · have e1 : E = 3 := HE.out.trans (by rw [wrdE_mk]; rw [if_pos (by rw [← HNb.out]; exact hbig)])
      obtain ⟨rfl, rfl, rfl, rfl⟩ := HZ.out 3 (HE.out.symm.trans e1) (by decide)
      have hbi : (most : Int) < N := by omega
      clear HZ HE HR H2
      subst e1
      go_enter Try.func22, Try.ntmps22
      go_wp2
      exact ⟨rfl, _, res22 _ _ _ _ _ _ _ _ HB.out.2 rfl rfl, HB.out.1, rfl⟩
    · have hbi : ¬ (most : Int) < N := by omega
      have hNN : ¬ most < bs.length := by rw [← HNb.out]; exact hbig
      have hcase : (∃ c, 0 < N ∧ bs[0]? = some c ∧ c = 0) ∨ (((∃ c, 0 < N ∧ bs[0]? = some c ∧ c ≠ 0) ∨ N = 0) ∧ ¬ bs.headD 1 = 0) := by
        cases hbs : bs with
        | nil => exact Or.inr ⟨Or.inr (by rw [HNb.out, hbs]; rfl), by simp⟩
        | cons c r =>
          have hp : 0 < N := by rw [HNb.out, hbs]; simp
          by_cases h0 : c = 0
          · exact Or.inl ⟨c, hp, rfl, h0⟩
          · exact Or.inr ⟨Or.inl ⟨c, hp, rfl, h0⟩, by simpa using h0⟩
      rcases hcase with ⟨c, hp, hc, h0⟩ | ⟨hcase, hh⟩
      · have e1 : E = 11 := HE.out.trans (by
          rw [wrdE_mk]
          rw [if_neg hNN, if_pos (by cases bs with | nil => cases hc | cons y r => simp at hc; simp [hc, h0])])
        obtain ⟨rfl, rfl, rfl, rfl⟩ := HZ.out 11 (HE.out.symm.trans e1) (by decide)
        obtain ⟨g, o, ha, hcell⟩ := H2.out.is.at hc
        subst ha
        rw [h0, Nat.add_zero] at hcell
        have hpi : (0 : Int) < N := by omega
        clear HZ HE HR H2 hNN hc h0 HNb
        subst e1
        go_enter Try.func22, Try.ntmps22
        go_wp2
        exact ⟨rfl, _, res22 _ _ _ _ _ _ _ _ HB.out.2 rfl rfl, HB.out.1, rfl⟩
      · have e1 : E = 0 := HE.out.trans (by
          rw [wrdE_mk]
          rw [if_neg hNN, if_neg hh])
        have hC := Wd.readrefv_any _ _ _ (isU_of H2.out.is) (by rw [List.length_reverse]; omega) (byt_rev H2.out.by')
        have hv : Wd.valB bs.reverse = Wd.num r0 r1 r2 r3 := by
          rw [HR.out.2, valB_rev _ bs rfl H2.out.by']
          unfold wrdN
          rw [if_pos (by rw [← HE.out]; exact e1)]
          rfl
        rw [hv, ← HNb.out] at hC
        have HC : Hid _ := hC
        have HL : Hid (Wd.L4 r0 r1 r2 r3) := HR.out.1
        have hc2 : ∀ c, bs[0]? = some c → ∃ g o, a = some ⟨g, o, none⟩ ∧ ((w.alloc (.cells #[.bool false, .slice a N cap, .slice si0 si1 si2] 25)).alloc (.cells #[.int .u64 0, .int .u64 0, .int .u64 0, .int .u64 0] 50)).cell? ⟨g, o, none⟩ = some (.int .u8 c) := fun c hc => by
          obtain ⟨g, o, ha, hcell⟩ := H2.out.is.at hc
          exact ⟨g, o, ha, by rw [Nat.add_zero] at hcell; exact hcell⟩
        clear hC hv HR hh hNN HZ HE H2 HNb
        subst e1
        rcases hcase with ⟨c, hp, hc, h0⟩ | hz
        · obtain ⟨g, o, rfl, hcell⟩ := hc2 c hc
          have hpi : (0 : Int) < N := by omega
          have hci : (c == 0) = false := by simpa using h0
          clear hc2 hc h0
          go_enter Try.func22, Try.ntmps22
          go_wp2_with fail
          refine Calls.mono HC.out ?_
          rintro e w1 ⟨q0, q1, q2, q3, rfl, hq, hqn, hb1⟩
          obtain ⟨rfl, rfl, rfl, rfl⟩ := num_inj hq HL.out hqn.out
          have k1 := (hb1.block (w.heap.size + 1) (heap_lt HB.out.2)).trans HB.out.2
          have a0 : w1.cell? ⟨w.heap.size + 1, 0, none⟩ = some (.int .u64 0) := (cell_of_block k1 0).trans rfl
          have a1 : w1.cell? ⟨w.heap.size + 1, 1, none⟩ = some (.int .u64 0) := (cell_of_block k1 1).trans rfl
          have a2 : w1.cell? ⟨w.heap.size + 1, 2, none⟩ = some (.int .u64 0) := (cell_of_block k1 2).trans rfl
          have a3 : w1.cell? ⟨w.heap.size + 1, 3, none⟩ = some (.int .u64 0) := (cell_of_block k1 3).trans rfl
          have az := fun k => unfrozen_of_block k1 k
          have HK : Hid (w1.heap[w.heap.size + 1]? = some (.cells #[.int .u64 0, .int .u64 0, .int .u64 0, .int .u64 0] 50) ∧ Below w.heap.size w w1) := ⟨k1, HB.out.1.trans (hb1.mono HB.out.1.size)⟩
          clear hb1 k1 hqn hq HC
          go_wp2
          refine ⟨rfl, _, res22 _ _ _ _ _ _ _ _ (set50 HK.out.1) rfl rfl, ?_, rfl⟩
          exact set4_below HK.out.2 (Nat.le_succ _) _ _ _ _
        · have hpi : ¬ (0 : Int) < N := by omega
          clear hc2 hz
          go_enter Try.func22, Try.ntmps22
          go_wp2_with fail
          refine Calls.mono HC.out ?_
          rintro e w1 ⟨q0, q1, q2, q3, rfl, hq, hqn, hb1⟩
          obtain ⟨rfl, rfl, rfl, rfl⟩ := num_inj hq HL.out hqn.out
          have k1 := (hb1.block (w.heap.size + 1) (heap_lt HB.out.2)).trans HB.out.2
          have a0 : w1.cell? ⟨w.heap.size + 1, 0, none⟩ = some (.int .u64 0) := (cell_of_block k1 0).trans rfl
          have a1 : w1.cell? ⟨w.heap.size + 1, 1, none⟩ = some (.int .u64 0) := (cell_of_block k1 1).trans rfl
          have a2 : w1.cell? ⟨w.heap.size + 1, 2, none⟩ = some (.int .u64 0) := (cell_of_block k1 2).trans rfl
          have a3 : w1.cell? ⟨w.heap.size + 1, 3, none⟩ = some (.int .u64 0) := (cell_of_block k1 3).trans rfl
          have az := fun k => unfrozen_of_block k1 k
          have HK : Hid (w1.heap[w.heap.size + 1]? = some (.cells #[.int .u64 0, .int .u64 0, .int .u64 0, .int .u64 0] 50) ∧ Below w.heap.size w w1) := ⟨k1, HB.out.1.trans (hb1.mono HB.out.1.size)⟩
          clear hb1 k1 hqn hq HC
          go_wp2
          refine ⟨rfl, _, res22 _ _ _ _ _ _ _ _ (set50 HK.out.1) rfl rfl, ?_, rfl⟩
          exact set4_below HK.out.2 (Nat.le_succ _) _ _ _ _
end Go.Proofs.Ytmnlcpfehbpogaa
/- Walks over bytes: when two lists of them are the same. -/
namespace Go.Proofs.Ytmnlcpfehbpogaa.Wd
open Go.RowKit
set_option linter.unusedSimpArgs false
set_option linter.unusedVariables false
/-- A slice of bytes that lies in memory. -/
def IsY (w : World) (v : Value) (l : List UInt8) : Prop :=
  ∃ b o cap, v = .slice (some ⟨b, o, none⟩) l.length cap ∧ b < w.heap.size ∧ ∀ j (hj : j < l.length), w.cell? ⟨b, o + j, none⟩ = some (.int .u8 (l[j].toNat : Int))
theorem IsY.below {w w' : World} {v : Value} {l : List UInt8} (h : IsY w v l) (hb : Below w.heap.size w w') : IsY w' v l := by
  obtain ⟨b, o, cap, rfl, hlt, hc⟩ := h
  exact ⟨b, o, cap, rfl, Nat.lt_of_lt_of_le hlt hb.size, fun j hj => (hb.cell (p := ⟨b, o + j, none⟩) hlt).trans (hc j hj)⟩
/-- The last n bytes of a number, the highest first. -/
def bytesL (X : Int) (n : Nat) : List UInt8 := (List.range n).map fun j => UInt8.ofNat (X / 256 ^ (n - 1 - j) % 256).toNat
theorem isY_row {w : World} {b m o n cap : Nat} {X : Int} {f : Nat → Value} (h : w.rowIs b 5 m f) (ho : o + n ≤ m) (hf : ∀ j, j < n → f (o + j) = .int .u8 (X / 256 ^ (n - 1 - j) % 256)) : IsY w (.slice (some ⟨b, o, none⟩) n cap) (bytesL X n) := by
  have hl : (bytesL X n).length = n := by simp [bytesL]
  refine ⟨b, o, cap, by rw [hl], World.rowIs.lt h, fun j hj => ?_⟩
  rw [hl] at hj
  rw [World.rowIs.cell h (i := o + j) (by omega), hf j hj]
  have e : (bytesL X n)[j]'(by rw [hl]; exact hj) = UInt8.ofNat (X / 256 ^ (n - 1 - j) % 256).toNat := by simp [bytesL]
  rw [e]
  congr 2
  simp only [UInt8.toNat_ofNat']
  omega
set_option maxRecDepth 100000 in
set_option maxHeartbeats 4000000 in
/-- conclaveref01.Short -/
theorem shortref_any (a0 a1 a2 a3 : Int) (ha : L4 a0 a1 a2 a3) (w : World) :
    Calls Try.prog 44 #[W4 a0 a1 a2 a3] w fun e w' => ∃ (l : Nat), l ≤ 32 ∧ Hid (lenN (num a0 a1 a2 a3) l) ∧ ∃ (v : Value), e = .returned v ∧ (∃ a c, v = .slice a l c) ∧ IsY w' v (bytesL (num a0 a1 a2 a3) l) ∧ Below w.heap.size w w' := by
  have HA : Hid _ := ha
  clear ha
  unfold W4
  go_enter Try.func44, Try.ntmps44
  go_wp2_with fail
  have KW : Hid (Blk (w.alloc (.cells #[.int .u64 a0, .int .u64 a1, .int .u64 a2, .int .u64 a3] 50)) w.heap.size a0 a1 a2 a3) := by refine ⟨by simp, ?_, ?_, ?_, ?_, fun k => ?_⟩ <;> simp [go_sem]
  have hB : Below w.heap.size w (w.alloc (.cells #[.int .u64 a0, .int .u64 a1, .int .u64 a2, .int .u64 a3] 50)) := by go_grown
  generalize (w.alloc (.cells #[.int .u64 a0, .int .u64 a1, .int .u64 a2, .int .u64 a3] 50)) = w0 at *
  refine (of_top a0 a1 a2 a3 HA.out _).mono ?_
  rintro e w1 ⟨v, d, rfl, hN, HT, hw⟩
  have KW : Hid _ := Blk.below KW.out hw
  have hB : Below w.heap.size w w1 := hB.trans (hw.mono hB.size)
  clear hw
  obtain ⟨aa, ca, rfl, hca⟩ := hN.shape
  have hl : d.length ≤ 32 := HT.out.2.1
  have HL : Hid _ := lenN_top HT.out
  clear hN HT
  generalize d.length = l at *
  obtain ⟨zW, W0_, W1_, W2_, W3_, fW⟩ := KW.out
  go_wp2_with fail
  refine (bytesref_any a0 a1 a2 a3 HA.out _).mono ?_
  rintro e w2 ⟨b, rfl, hb, hrow, hw⟩
  have hB : Below w.heap.size w w2 := hB.trans (hw.mono hB.size)
  have HRow : Hid _ := hrow
  clear hw zW W0_ W1_ W2_ W3_ fW KW hrow
  obtain ⟨o, ho⟩ : ∃ o : Nat, o + l = 32 := ⟨32 - l, by omega⟩
  have hIo : (32 : Int) - (l : Int) = (o : Int) := by omega
  have ho32 : (o : Int) ≤ 32 := by omega
  have HO : Hid _ := ho
  have HL32 : Hid _ := hl
  clear ho hl hca
  go_wp2
  all_goals go_ret
  all_goals have hol : 32 - o = l := by have := HO.out; omega
  all_goals refine ⟨l, by (have := HL32.out; have := HO.out; omega), HL, _, rfl, ?_, ?_, hB⟩
  · show ∃ a c, Value.slice (some ⟨b, 0, none⟩) 0 0 = .slice a l c
    rw [show l = 0 from by omega]
    exact ⟨_, _, rfl⟩
  · show IsY w2 (Value.slice (some ⟨b, 0, none⟩) 0 0) _
    rw [show l = 0 from by omega]
    exact isY_row HRow.out (by omega) (fun j hj => absurd hj (by omega))
  · show ∃ a c, Value.slice (some ⟨b, o, none⟩) (32 - o) (32 - o) = .slice a l c
    rw [hol]
    exact ⟨_, _, rfl⟩
  · show IsY w2 (Value.slice (some ⟨b, o, none⟩) (32 - o) (32 - o)) _
    rw [hol]
    exact isY_row HRow.out (by have := HO.out; omega) (fun j hj => by
      have := HO.out
      show Value.int .u8 _ = _
      rw [show 31 - (o + j) = l - 1 - j from by omega])
end Go.Proofs.Ytmnlcpfehbpogaa.Wd
