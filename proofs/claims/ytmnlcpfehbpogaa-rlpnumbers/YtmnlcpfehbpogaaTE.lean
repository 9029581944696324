/- rlp: the document's first of lists. -/
import Derived.Test.YtmnlcpfehbpogaaTD
namespace Go.Proofs.Ytmnlcpfehbpogaa
open Go.RowKit Go.Maps Go.Joins
set_option linter.unusedSimpArgs false
set_option linter.unusedVariables false
/-- append of an item that lies in a block of its own, in a region of its own order. -/
theorem wpList_append_itR {w : World} {ops : Array Oper} {rest : List Oper} {o : Oper} {a : Act} {Q : Exit → Act → World → Prop} (hgd : o.guard = none) (s x : Operand)
    (ho : o.op = .call { callee := .builtin .append, args := #[s, x], argTypes := #[23, 23] }) {base : Nat} {v : Value} {A : List IC} (f : IC) (hb : ∃ a l c, f.sb = .slice a l c) (hi : ∃ a l c, f.si = .slice a l c) (hs : a.eval s = v) (hown : w.ownsRow base 25 3 v A.length (icL A)) (g : Nat) (hx : a.eval x = .slice (some ⟨g, 0, none⟩) 1 1) (hg : w.heap[g]? = some (.cells #[.bool f.x.l, f.sb, f.si] 25)) (hl : (A.length + 1) * 56 ≤ 140737488355328) (hbase : base ≤ w.heap.size)
    (h : ∀ v' w', w'.ownsRow base 25 3 v' (A.length + 1) (icL (A ++ [f])) → w.grownBy w' v.ownBlock → (v'.ownBlock = v.ownBlock ∨ v'.ownBlock = some w.heap.size) → wpList Try.prog ops Q rest (a.put o.dst v') w') :
    wpList Try.prog ops Q (o :: rest) a w := by
  refine wpList_plain hgd fun K hK => ?_
  obtain ⟨v', w', hr, h2, h3, h5⟩ := run_append_itR o.type f hb hi hown g hg hl hbase
  unfold Oper.wp execOp
  simp only [ho, resolve, invoke, builtin, Sem.run_bind, Sem.run_pure, Result.andThen_ok, List.map_toArray, List.map_cons, List.map_nil, hs, hx, hr]
  exact hK _ _ (h v' w' h2 h3 h5)
/-- Within the rounds of the document's first. -/
structure LJ (w W : World) (P : Nat) (A : List IC) (v : Value) : Prop where
  b0 : W.heap[w.heap.size]? = some (.cells #[.bool false, .slice none 0 0, .slice none 0 0] 25)
  pl : w.heap.size + 1 ≤ P
  b1 : W.heap[P]? = some (.cells #[.bool true, .slice none 0 0, v] 25)
  row : W.ownsRow (P + 1) 25 3 v A.length (icL A)
  it : ∀ f ∈ A, ItV W (fun b => P + 1 ≤ b ∧ b < W.heap.size ∧ v.ownBlock ≠ some b) f.sb f.si f.x
  bl : Below w.heap.size w W
theorem LJ.below {w W W2 : World} {P : Nat} {A : List IC} {v : Value} (h : LJ w W P A v) (hb : Below W.heap.size W W2) : LJ w W2 P A v :=
  ⟨(hb.block _ (heap_lt h.b0)).trans h.b0, h.pl, (hb.block _ (heap_lt h.b1)).trans h.b1, ownsRow_heap h.row (fun b hb' => hb.block b (h.row.lt b hb').2), fun f hf => (h.it f hf).mono (fun b hb' => hb.block b hb'.2.1) (fun b hb' => ⟨hb'.1, Nat.lt_of_lt_of_le hb'.2.1 hb.size, hb'.2.2⟩), h.bl.trans (hb.mono h.bl.size)⟩
theorem LJ.step {w V V2 : World} {P : Nat} {v v' : Value} {A : List IC} {f : IC} (h : LJ w V P A v) (hg : V.grownBy V2 v.ownBlock) (hrow : V2.ownsRow (P + 1) 25 3 v' (A.length + 1) (icL (A ++ [f]))) (hv : v'.ownBlock = v.ownBlock ∨ v'.ownBlock = some V.heap.size)
    (hf : ItV V (fun b => P + 1 ≤ b ∧ b < V.heap.size ∧ v.ownBlock ≠ some b) f.sb f.si f.x) : LJ w (V2.setCell ⟨P, 2, none⟩ v') P (A ++ [f]) v' := by
  have hs := heap_lt h.b1
  have hpl := h.pl
  have hvl : ∀ b, v.ownBlock = some b → P + 1 ≤ b := fun b hb' => (h.row.lt b hb').1
  have k2 : ∀ b, b < V.heap.size → v.ownBlock ≠ some b → V2.heap[b]? = V.heap[b]? := fun b h1 h2 => hg.block b h1 (fun e => h2 e.symm)
  have hlow : ∀ b, b < P + 1 → V2.heap[b]? = V.heap[b]? := fun b hb' => k2 b (by omega) (fun e => by have := hvl b e; omega)
  have k4 : ∀ b, b ≠ P → (V2.setCell ⟨P, 2, none⟩ v').heap[b]? = V2.heap[b]? := fun b hb' => Below.heap_setCell _ _ _ _ hb'
  have hsz : (V2.setCell ⟨P, 2, none⟩ v').heap.size = V2.heap.size := by simp
  have hsv : V.heap.size ≤ V2.heap.size := hg.size
  have hit : ∀ f' : IC, ItV V (fun b => P + 1 ≤ b ∧ b < V.heap.size ∧ v.ownBlock ≠ some b) f'.sb f'.si f'.x → ItV (V2.setCell ⟨P, 2, none⟩ v') (fun b => P + 1 ≤ b ∧ b < (V2.setCell ⟨P, 2, none⟩ v').heap.size ∧ v'.ownBlock ≠ some b) f'.sb f'.si f'.x := fun f' hf' => by
    refine hf'.mono (fun b hb' => ?_) (fun b hb' => ⟨hb'.1, by rw [hsz]; omega, fun e => ?_⟩)
    · rw [k4 b (by omega), k2 b hb'.2.1 hb'.2.2]
    · rcases hv with hv | hv
      · rw [hv] at e; exact hb'.2.2 e
      · rw [hv] at e; injection e with e; omega
  refine ⟨(k4 _ (by omega)).trans ((hlow _ (by omega)).trans h.b0), hpl, setCell_b1R ((hlow _ (by omega)).trans h.b1), ?_, ?_, ?_⟩
  · rw [List.length_append]
    exact ownsRow_heap hrow (fun b hb' => k4 b (by have := (hrow.lt b hb').1; omega))
  · intro f' hf'
    rcases List.mem_append.1 hf' with h9 | h9
    · exact hit f' (h.it f' h9)
    · obtain rfl := List.mem_singleton.1 h9
      exact hit f' hf
  · exact (h.bl.grown hg (by omega) (fun b hb' => by have := hvl b hb'; omega)).setCell (p := ⟨P, 2, none⟩) (by show w.heap.size ≤ P; omega) _
theorem res39c (w3 : World) (b : Nat) (x y z x' y' z' n c : Value) (o : Obj) (tmps : Array Value) (h : w3.heap[b]? = some (.cells #[x, y, z] 25)) (h4 : tmps[4]? = some (.pointer (some ⟨b, 0, none⟩))) (h5 : tmps[5]? = some n) (h6 : tmps[6]? = some c) :
    (results Try.f39 tmps).run Try.prog ((((w3.setCell ⟨b, 0, none⟩ x').setCell ⟨b, 1, none⟩ y').setCell ⟨b, 2, none⟩ z').alloc o) = .ok (.tuple #[.agg #[x', y', z'], n, c]) ((((w3.setCell ⟨b, 0, none⟩ x').setCell ⟨b, 1, none⟩ y').setCell ⟨b, 2, none⟩ z').alloc o) :=
  res39b _ b x' y' z' n c tmps ((heap_alloc_old _ o (by rw [set31_size]; exact heap_lt h)).trans (set25 h)) h4 h5 h6
set_option maxRecDepth 100000 in
set_option maxHeartbeats 8000000 in
theorem rf_deep {w : World} {a : Option Addr} {cap : Nat} {c : Int} {r : List Int} (h : Src w a cap (c :: r)) (hc : 192 ≤ c) :
    Calls Try.prog 39 #[.slice a (c :: r).length cap, .int .i64 16] w fun e w' => Below w.heap.size w w' ∧ FsR w w' (fs 0 (c :: r)) e := by
  obtain ⟨R, hR⟩ : ∃ R, R = fs 0 (c :: r) := ⟨_, rfl⟩
  rw [← hR]
  have HRR : Hid (R = fs 0 (c :: r)) := hR
  clear hR
  have hb : Below w.heap.size w (w.alloc (.cells #[.bool false, .slice none 0 0, .slice none 0 0] 25)) := by go_grown
  have hcb := h.by' c (by simp)
  have hC := size_any (h.below hb) 192 247 (Or.inr ⟨rfl, rfl⟩) hc (by omega)
  obtain ⟨g, o, _, rfl, -, -, -, -, hall⟩ := h.at (i := 0) (by simp)
  have hk0 : (w.alloc (.cells #[.bool false, .slice none 0 0, .slice none 0 0] 25)).heap[w.heap.size]? = some (.cells #[.bool false, .slice none 0 0, .slice none 0 0] 25) := heap_alloc_new _ _
  have hsz0 : (w.alloc (.cells #[.bool false, .slice none 0 0, .slice none 0 0] 25)).heap.size = w.heap.size + 1 := by simp
  have k0 : (w.alloc (.cells #[.bool false, .slice none 0 0, .slice none 0 0] 25)).cell? ⟨g, o, none⟩ = some (.int .u8 c) := (hb.cell (p := ⟨g, o, none⟩) (cell_lt (hall 0 c rfl))).trans (hall 0 c rfl)
  have hsp : sps (c :: r) = (match szH r (c - 192).toNat with
    | .error e => .error e
    | .ok (h, n) => if r.length - h < n then .error 10 else
      if c < 192 ∧ n = 1 ∧ (r.drop h).headD 0 < 128 then .error 11 else .ok (decide (192 ≤ c), 1 + h, n)) := by
    simp only [sps]
    rw [if_neg (by omega), if_pos hc]
    rfl
  have hM : (c :: r).length = r.length + 1 := rfl
  have hl6 := h.len
  have hcp := h.cp
  have hmx := h.mx
  obtain ⟨M, hM2⟩ : ∃ M, M = (c :: r).length := ⟨_, rfl⟩
  rw [← hM2] at hC hl6 hcp ⊢
  have HS : Hid (Src w (some ⟨g, o, none⟩) cap (c :: r) ∧ M = r.length + 1) := ⟨h, by rw [hM2, hM]⟩
  have hMp : 0 < M := by rw [hM2, hM]; omega
  have hM0 : ((M : Int) == 0) = false := by simp; omega
  have HC : Hid (Calls Try.prog 56 #[.slice (some ⟨g, o, none⟩) M cap, .int .u8 192, .int .u8 247] (w.alloc (.cells #[.bool false, .slice none 0 0, .slice none 0 0] 25)) fun e w' => Below (w.alloc (.cells #[.bool false, .slice none 0 0, .slice none 0 0] 25)).heap.size (w.alloc (.cells #[.bool false, .slice none 0 0, .slice none 0 0] 25)) w' ∧ szR (szH r (c - 192).toNat) e) := hC
  have HB : Hid (Below w.heap.size w (w.alloc (.cells #[.bool false, .slice none 0 0, .slice none 0 0] 25)) ∧ (w.alloc (.cells #[.bool false, .slice none 0 0, .slice none 0 0] 25)).heap[w.heap.size]? = some (.cells #[.bool false, .slice none 0 0, .slice none 0 0] 25) ∧ (w.alloc (.cells #[.bool false, .slice none 0 0, .slice none 0 0] 25)).heap.size = w.heap.size + 1) := ⟨hb, hk0, hsz0⟩
  have HP : Hid _ := hsp
  have hc1 : ¬ c < 192 := by omega
  have hc3 : ¬ c < 128 := by omega
  clear hC hb hk0 hsz0 hM hM2 h hall hsp
  go_enter Try.func39, Try.ntmps39
  go_wp2_with fail
  refine Calls.mono HC.out ?_
  rintro e w1 ⟨hb1, hr1⟩
  clear HC
  have k1 := (hb1.block w.heap.size (by rw [HB.out.2.2]; omega)).trans HB.out.2.1
  have hbw := HB.out.1.trans (hb1.mono HB.out.1.size)
  have a0 : w1.cell? ⟨w.heap.size, 0, none⟩ = some (.bool false) := (cell_of_block k1 0).trans rfl
  have a1 : w1.cell? ⟨w.heap.size, 1, none⟩ = some (.slice none 0 0) := (cell_of_block k1 1).trans rfl
  have a2 : w1.cell? ⟨w.heap.size, 2, none⟩ = some (.slice none 0 0) := (cell_of_block k1 2).trans rfl
  have az := fun k => unfrozen_of_block k1 k
  have HK : Hid (w1.heap[w.heap.size]? = some (.cells #[.bool false, .slice none 0 0, .slice none 0 0] 25) ∧ Below w.heap.size w w1) := ⟨k1, hbw⟩
  clear hb1 k1 hbw k0
  cases hq : szH r (c - 192).toNat with
  | error e2 =>
    rw [hq] at hr1
    obtain rfl := hr1
    have he0 : (e2 != 0) = true := by have := szH_nz hq; simp [this]
    have HE : Hid (R = .error e2) := HRR.out.trans (fs_error 0 (by rw [HP.out, hq]))
    clear HP hq
    go_wp2
    refine ⟨rfl, _, res39 _ _ _ _ _ _ _ _ _ _ _ HK.out.1 rfl rfl rfl, set31_below HK.out.2 (Nat.le_refl _) _ _ _, ?_⟩
    rw [HE.out]
    rfl
  | ok q =>
    obtain ⟨hd, n⟩ := q
    rw [hq] at hr1
    obtain ⟨N, hN, rfl⟩ := hr1
    have hdl := szH_le hq
    have hsp := HP.out
    rw [hq] at hsp
    simp only [] at hsp
    obtain ⟨F, hF⟩ : ∃ F, F = 1 + hd := ⟨_, rfl⟩
    have hMr := HS.out.2
    have hFM : F ≤ M := by omega
    rw [← hF]
    have hNb : N < 4294967552 := hN.2
    by_cases hgt : M - F < N
    · have hgi : (M : Int) - F < N := by omega
      have HE : Hid (R = .error 10) := HRR.out.trans (fs_error 0 (by rw [hsp, if_pos (by rcases hN.1 with h9 | h9 <;> omega)]))
      clear HP hq hsp hN hgt hF hMr hdl
      go_wp2
      refine ⟨rfl, _, res39 _ _ _ _ _ _ _ _ _ _ _ HK.out.1 rfl rfl rfl, set31_below HK.out.2 (Nat.le_refl _) _ _ _, ?_⟩
      rw [HE.out]
      rfl
    · obtain rfl : N = n := by rcases hN.1 with h9 | h9 <;> omega
      have hgi : ¬ (M : Int) - F < N := by omega
      rw [if_neg (by omega), if_neg (by omega), decide_eq_true hc, ← hF] at hsp
      have HE : Hid (R = .error 3) := HRR.out.trans (by simp [fs, hsp])
      clear HP hq hsp hN hgt hF hMr hdl
      go_wp2
      refine ⟨rfl, _, res39 _ _ _ _ _ _ _ _ _ _ _ HK.out.1 rfl rfl rfl, set31_below HK.out.2 (Nat.le_refl _) _ _ _, ?_⟩
      rw [HE.out]
      rfl
set_option maxRecDepth 100000 in
set_option maxHeartbeats 8000000 in
theorem rf_list {d : Nat} (hd16 : d + 1 ≤ 16) (hR : RfC d) {w : World} {a : Option Addr} {cap : Nat} {c : Int} {r : List Int} (h : Src w a cap (c :: r)) (hc : 192 ≤ c) :
    Calls Try.prog 39 #[.slice a (c :: r).length cap, .int .i64 ((16 - (d + 1) : Nat) : Int)] w fun e w' => Below w.heap.size w w' ∧ FsR w w' (fs (d + 1) (c :: r)) e := by
  have HRf : Hid (RfC d) := hR
  clear hR
  obtain ⟨k, hk⟩ : ∃ k : Nat, k = 16 - (d + 1) := ⟨_, rfl⟩
  rw [← hk]
  obtain ⟨k2, hk2⟩ : ∃ k2 : Nat, k2 = 16 - d := ⟨_, rfl⟩
  have hk16 : ¬ (16 : Int) ≤ k := by omega
  have hko : k ≤ 16 := by omega
  have hk1 : (k : Int) + 1 = k2 := by omega
  have HK2 : Hid (k2 = 16 - d) := hk2
  clear hk hk2
  obtain ⟨R, hR⟩ : ∃ R, R = fs (d + 1) (c :: r) := ⟨_, rfl⟩
  rw [← hR]
  have HRR : Hid (R = fs (d + 1) (c :: r)) := hR
  clear hR
  have hb : Below w.heap.size w (w.alloc (.cells #[.bool false, .slice none 0 0, .slice none 0 0] 25)) := by go_grown
  have hcb := h.by' c (by simp)
  have hC := size_any (h.below hb) 192 247 (Or.inr ⟨rfl, rfl⟩) hc (by omega)
  obtain ⟨g, o, _, rfl, -, -, -, -, hall⟩ := h.at (i := 0) (by simp)
  have hk0 : (w.alloc (.cells #[.bool false, .slice none 0 0, .slice none 0 0] 25)).heap[w.heap.size]? = some (.cells #[.bool false, .slice none 0 0, .slice none 0 0] 25) := heap_alloc_new _ _
  have hsz0 : (w.alloc (.cells #[.bool false, .slice none 0 0, .slice none 0 0] 25)).heap.size = w.heap.size + 1 := by simp
  have k0 : (w.alloc (.cells #[.bool false, .slice none 0 0, .slice none 0 0] 25)).cell? ⟨g, o, none⟩ = some (.int .u8 c) := (hb.cell (p := ⟨g, o, none⟩) (cell_lt (hall 0 c rfl))).trans (hall 0 c rfl)
  have hsp : sps (c :: r) = (match szH r (c - 192).toNat with
    | .error e => .error e
    | .ok (h, n) => if r.length - h < n then .error 10 else
      if c < 192 ∧ n = 1 ∧ (r.drop h).headD 0 < 128 then .error 11 else .ok (decide (192 ≤ c), 1 + h, n)) := by
    simp only [sps]
    rw [if_neg (by omega), if_pos hc]
    rfl
  have hM : (c :: r).length = r.length + 1 := rfl
  have hl6 := h.len
  have hcp := h.cp
  have hmx := h.mx
  obtain ⟨M, hM2⟩ : ∃ M, M = (c :: r).length := ⟨_, rfl⟩
  rw [← hM2] at hC hl6 hcp ⊢
  have HS : Hid (Src w (some ⟨g, o, none⟩) cap (c :: r) ∧ M = r.length + 1) := ⟨h, by rw [hM2, hM]⟩
  have hMp : 0 < M := by rw [hM2, hM]; omega
  have hM0 : ((M : Int) == 0) = false := by simp; omega
  have HC : Hid (Calls Try.prog 56 #[.slice (some ⟨g, o, none⟩) M cap, .int .u8 192, .int .u8 247] (w.alloc (.cells #[.bool false, .slice none 0 0, .slice none 0 0] 25)) fun e w' => Below (w.alloc (.cells #[.bool false, .slice none 0 0, .slice none 0 0] 25)).heap.size (w.alloc (.cells #[.bool false, .slice none 0 0, .slice none 0 0] 25)) w' ∧ szR (szH r (c - 192).toNat) e) := hC
  have HB : Hid (Below w.heap.size w (w.alloc (.cells #[.bool false, .slice none 0 0, .slice none 0 0] 25)) ∧ (w.alloc (.cells #[.bool false, .slice none 0 0, .slice none 0 0] 25)).heap[w.heap.size]? = some (.cells #[.bool false, .slice none 0 0, .slice none 0 0] 25) ∧ (w.alloc (.cells #[.bool false, .slice none 0 0, .slice none 0 0] 25)).heap.size = w.heap.size + 1) := ⟨hb, hk0, hsz0⟩
  have HP : Hid _ := hsp
  have hc1 : ¬ c < 192 := by omega
  have hc3 : ¬ c < 128 := by omega
  clear hC hb hk0 hsz0 hM hM2 h hall hsp
  go_enter Try.func39, Try.ntmps39
  go_wp2_with fail
  refine Calls.mono HC.out ?_
  rintro e w1 ⟨hb1, hr1⟩
  clear HC
  have k1 := (hb1.block w.heap.size (by rw [HB.out.2.2]; omega)).trans HB.out.2.1
  have hbw := HB.out.1.trans (hb1.mono HB.out.1.size)
  have a0 : w1.cell? ⟨w.heap.size, 0, none⟩ = some (.bool false) := (cell_of_block k1 0).trans rfl
  have a1 : w1.cell? ⟨w.heap.size, 1, none⟩ = some (.slice none 0 0) := (cell_of_block k1 1).trans rfl
  have a2 : w1.cell? ⟨w.heap.size, 2, none⟩ = some (.slice none 0 0) := (cell_of_block k1 2).trans rfl
  have az := fun k => unfrozen_of_block k1 k
  have HK : Hid (w1.heap[w.heap.size]? = some (.cells #[.bool false, .slice none 0 0, .slice none 0 0] 25) ∧ Below w.heap.size w w1) := ⟨k1, hbw⟩
  clear hb1 k1 hbw k0
  cases hq : szH r (c - 192).toNat with
  | error e2 =>
    rw [hq] at hr1
    obtain rfl := hr1
    have he0 : (e2 != 0) = true := by have := szH_nz hq; simp [this]
    have HE : Hid (R = .error e2) := HRR.out.trans (fs_error (d + 1) (by rw [HP.out, hq]))
    clear HP hq
    go_wp2
    refine ⟨rfl, _, res39 _ _ _ _ _ _ _ _ _ _ _ HK.out.1 rfl rfl rfl, set31_below HK.out.2 (Nat.le_refl _) _ _ _, ?_⟩
    rw [HE.out]
    rfl
  | ok q =>
    obtain ⟨hd, n⟩ := q
    rw [hq] at hr1
    obtain ⟨N, hN, rfl⟩ := hr1
    have hdl := szH_le hq
    have hsp := HP.out
    rw [hq] at hsp
    simp only [] at hsp
    obtain ⟨F, hF⟩ : ∃ F, F = 1 + hd := ⟨_, rfl⟩
    have hMr := HS.out.2
    have hFM : F ≤ M := by omega
    rw [← hF]
    have hNb : N < 4294967552 := hN.2
    by_cases hgt : M - F < N
    · have hgi : (M : Int) - F < N := by omega
      have HE : Hid (R = .error 10) := HRR.out.trans (fs_error (d + 1) (by rw [hsp, if_pos (by rcases hN.1 with h9 | h9 <;> omega)]))
      clear HP hq hsp hN hgt hF hMr hdl
      go_wp2
      refine ⟨rfl, _, res39 _ _ _ _ _ _ _ _ _ _ _ HK.out.1 rfl rfl rfl, set31_below HK.out.2 (Nat.le_refl _) _ _ _, ?_⟩
      rw [HE.out]
      rfl
    · obtain rfl : N = n := by rcases hN.1 with h9 | h9 <;> omega
      have hgi : ¬ (M : Int) - F < N := by omega
      rw [if_neg (by omega), if_neg (by omega), decide_eq_true hc, ← hF] at hsp
      obtain ⟨T, hT⟩ : ∃ T, T = F + N := ⟨_, rfl⟩
      have HE : Hid (R = listR (itF (fs d) N N ((c :: r).drop F)) T) := HRR.out.trans (by
        simp only [fs, hsp]
        rw [hT]
        unfold listR
        cases itF (fs d) N N ((c :: r).drop F) <;> rfl)
      have hTM : T ≤ M := by omega
      have hTi : (F : Int) + N = T := by omega
      have HF : Hid (F ≤ T ∧ N = T - F ∧ 1 ≤ F) := ⟨by omega, by omega, by omega⟩
      have hNN : F + N ≤ 65536 := by omega
      have h0 : LJ w (w1.alloc (.cells #[.bool true, .slice none 0 0, .slice none 0 0] 25)) w1.heap.size [] (.slice none 0 0) := ⟨(heap_alloc_old _ _ (heap_lt HK.out.1)).trans HK.out.1, heap_lt HK.out.1, heap_alloc_new _ _, World.ownsRow_nil _ _ _ _, fun f hf => (by cases hf), HK.out.2.alloc HK.out.2.size _⟩
      have H0 : Hid (LJ w (w1.alloc (.cells #[.bool true, .slice none 0 0, .slice none 0 0] 25)) w1.heap.size [] (.slice none 0 0)) := h0
      have HBS : Hid (∀ W, Below w.heap.size w W → Src W (some ⟨g, o, none⟩) cap (c :: r)) := fun W hW => HS.out.1.below hW
      have HN2 : Hid (M = (c :: r).length) := HS.out.2
      generalize c :: r = bs at HE HS HBS HN2
      clear HP hq hsp hN hgt hF hMr hdl h0 hT HS HRR a0 a1 a2 az hcb
      go_wp2_with fail
      go_loopw [14] (fun i wr => ∃ (p : Nat) (A : List IC) (v : Value), p ≤ T ∧ i = .int .i64 p ∧ LJ w wr w1.heap.size A v ∧ (∃ kk, T - p ≤ kk ∧ itF (fs d) N N (bs.drop F) = (itF (fs d) kk (T - p) (bs.drop p)).map (A.map IC.x ++ ·)) ∧ A.length ≤ p) (fun i _ => T - (intOf i).toNat)
      case atStart =>
        refine ⟨F, [], _, HF.out.1, rfl, H0.out, ⟨N, by have := HF.out; omega, ?_⟩, Nat.zero_le _⟩
        rw [← HF.out.2.1]
        cases itF (fs d) N N (List.drop F bs) <;> rfl
      case round =>
        obtain ⟨p, A, v, hp, rfl, hJ, ⟨kk, hkk, hit⟩, hAl⟩ := hrel
        obtain ⟨av, cv, hv⟩ := row_form hJ.row
        subst hv
        obtain ⟨q, hq⟩ : ∃ q, q = A.length := ⟨_, rfl⟩
        rw [← hq] at hJ
        by_cases hlt : p < T
        · have hlti : (p : Int) < T := by omega
          have hsrc := HBS.out wr hJ.bl
          have hsl : ∀ w', (Instr.slice 22 (.slice (some ⟨g, o, none⟩) M cap) (some (.int .i64 p)) none none).run Try.prog w' = .ok (.slice (some ⟨g, o + p, none⟩) (M - p) (cap - p)) w' := fun w' => by
            rw [slL2 w' g o M cap p p rfl (by omega), if_neg (by omega)]
          have hdl : (bs.drop p).length = M - p := by rw [List.length_drop, ← HN2.out]
          have hsrc2 : Src wr (some ⟨g, o + p, none⟩) (cap - p) (bs.drop p) := ⟨by
            have h9 := hsrc.is
            rw [← HN2.out] at h9
            have := h9.part p (M - p) (cap - p) (by rw [← HN2.out]; omega)
            rw [List.take_of_length_le (by rw [hdl]; exact Nat.le_refl _)] at this
            rw [hdl]
            exact this, by rw [hdl]; omega, by omega, hsrc.by'.drop p, by rw [hdl]; omega⟩
          have hC := HRf.out wr _ _ _ hsrc2
          rw [hdl, ← HK2.out] at hC
          have HBy : Hid (Byt (bs.drop p)) := hsrc2.by'
          obtain ⟨mp, hmp⟩ : ∃ mp, mp = M - p := ⟨_, rfl⟩
          obtain ⟨cp2, hcp2⟩ : ∃ cp2, cp2 = cap - p := ⟨_, rfl⟩
          rw [← hmp, ← hcp2] at hC hsl
          have HC : Hid (Calls Try.prog 39 #[.slice (some ⟨g, o + p, none⟩) mp cp2, .int .i64 k2] wr fun e w' => Below wr.heap.size wr w' ∧ FsR wr w' (fs d (bs.drop p)) e) := hC
          have HJ : Hid (LJ w wr w1.heap.size A (.slice av q cv) ∧ q = A.length ∧ A.length ≤ p ∧ T - p ≤ kk ∧ itF (fs d) N N (bs.drop F) = (itF (fs d) kk (T - p) (bs.drop p)).map (A.map IC.x ++ ·)) := ⟨hJ, hq, hAl, hkk, hit⟩
          clear hC hsrc hsrc2 hdl hJ hkk hit hAl hmp hcp2 hq H0
          go_wp2_with fail
          refine Calls.mono HC.out ?_
          rintro e w2 ⟨hb2, hr2⟩
          clear HC
          have hJ2 := HJ.out.1.below hb2
          have a0 : w2.cell? ⟨w.heap.size, 0, none⟩ = some (.bool false) := (cell_of_block hJ2.b0 0).trans rfl
          have a1 : w2.cell? ⟨w.heap.size, 1, none⟩ = some (.slice none 0 0) := (cell_of_block hJ2.b0 1).trans rfl
          have a2 : w2.cell? ⟨w.heap.size, 2, none⟩ = some (.slice none 0 0) := (cell_of_block hJ2.b0 2).trans rfl
          have az := fun k => unfrozen_of_block hJ2.b0 k
          have hlw : w.heap.size < w2.heap.size := heap_lt hJ2.b0
          have HJ2 : Hid (LJ w w2 w1.heap.size A (.slice av q cv)) := hJ2
          cases hfs : fs d (bs.drop p) with
          | error e2 =>
            rw [hfs] at hr2
            obtain rfl := hr2
            have he0 : (e2 != 0) = true := by have := fs_nz d _ e2 hfs; simp [this]
            have HE2 : Hid (R = .error e2) := HE.out.trans (by rw [HJ.out.2.2.2.2, itF_err (by omega) hfs HJ.out.2.2.2.1]; rfl)
            have HW : Hid (w2.heap[w.heap.size]? = some (.cells #[.bool false, .slice none 0 0, .slice none 0 0] 25) ∧ Below w.heap.size w w2) := ⟨hJ2.b0, hJ2.bl⟩
            clear hfs hb2 hJ2
            go_wp2
            refine ⟨rfl, _, res39c _ _ _ _ _ _ _ _ _ _ _ _ HW.out.1 rfl rfl rfl, (set31_below HW.out.2 (Nat.le_refl _) _ _ _).alloc (by rw [set31_size]; exact HW.out.2.size) _, ?_⟩
            rw [HE2.out]
            rfl
          | ok q2 =>
            obtain ⟨x, m⟩ := q2
            rw [hfs] at hr2
            obtain ⟨sb, si, rfl, hitx⟩ := hr2
            obtain ⟨ab, cb, rfl⟩ := hitx.b.is.form
            obtain ⟨ai, ci, rfl, -⟩ := hitx.xs.form
            obtain ⟨xl, hxl⟩ : ∃ xl, xl = x.l := ⟨_, rfl⟩
            obtain ⟨xn, hxn⟩ : ∃ xn, xn = x.b.length := ⟨_, rfl⟩
            obtain ⟨xm, hxm⟩ : ∃ xm, xm = x.xs.length := ⟨_, rfl⟩
            rw [← hxn, ← hxm] at hitx
            rw [← hxl, ← hxn, ← hxm]
            have hfo := fs_ok d _ x m HBy.out hfs
            have hml : m ≤ 65536 := by have := hfo.1.2; rw [List.length_drop, ← HN2.out] at this; omega
            have hm1 : 1 ≤ m := hfo.2.1
            clear hfo
            by_cases hov : T < p + m
            · have hovi : (T : Int) < (p : Int) + m := by omega
              have HE2 : Hid (R = .error 11) := HE.out.trans (by rw [HJ.out.2.2.2.2, itF_over (by omega) hfs (by omega) HJ.out.2.2.2.1]; rfl)
              have HW : Hid (w2.heap[w.heap.size]? = some (.cells #[.bool false, .slice none 0 0, .slice none 0 0] 25) ∧ Below w.heap.size w w2) := ⟨hJ2.b0, hJ2.bl⟩
              clear hfs hb2 hJ2 hitx hxl hxn hxm hov
              go_wp2
              refine ⟨rfl, _, res39c _ _ _ _ _ _ _ _ _ _ _ _ HW.out.1 rfl rfl rfl, (set31_below HW.out.2 (Nat.le_refl _) _ _ _).alloc (by rw [set31_size]; exact HW.out.2.size) _, ?_⟩
              rw [HE2.out]
              rfl
            · have hovi : ¬ (T : Int) < (p : Int) + m := by omega
              have e2 : w2.cell? ⟨w1.heap.size, 2, none⟩ = some (.slice av q cv) := (cell_of_block hJ2.b1 2).trans rfl
              have hPl : w1.heap.size < w2.heap.size := heap_lt hJ2.b1
              have hPw : w.heap.size + 1 ≤ w1.heap.size := hJ2.pl
              have hit9 : ItV w2 (fun b => w1.heap.size + 1 ≤ b ∧ b < w2.heap.size ∧ (Value.slice av q cv).ownBlock ≠ some b) (.slice ab xn cb) (.slice ai xm ci) x := hitx.mono (fun _ _ => rfl) (fun b hb => ⟨by have := heap_lt HJ.out.1.b1; omega, hb.2, fun e => by have := (HJ.out.1.row.lt b e).2; omega⟩)
              have hbx : Below w2.heap.size w2 ((w2.alloc (.cells #[.bool xl, .slice ab xn cb, .slice ai xm ci] 25)).alloc (.cells #[.bool xl, .slice ab xn cb, .slice ai xm ci] 25)) := by go_grown
              have hax := allocs_heap [Obj.cells #[.bool xl, .slice ab xn cb, .slice ai xm ci] 25, .cells #[.bool xl, .slice ab xn cb, .slice ai xm ci] 25] w2
              have hj4 := hJ2.below hbx
              have H4 : Hid (LJ w ((w2.alloc (.cells #[.bool xl, .slice ab xn cb, .slice ai xm ci] 25)).alloc (.cells #[.bool xl, .slice ab xn cb, .slice ai xm ci] 25)) w1.heap.size A (.slice av q cv) ∧ ((w2.alloc (.cells #[.bool xl, .slice ab xn cb, .slice ai xm ci] 25)).alloc (.cells #[.bool xl, .slice ab xn cb, .slice ai xm ci] 25)).heap[w2.heap.size + 1]? = some (.cells #[.bool xl, .slice ab xn cb, .slice ai xm ci] 25) ∧ ItV ((w2.alloc (.cells #[.bool xl, .slice ab xn cb, .slice ai xm ci] 25)).alloc (.cells #[.bool xl, .slice ab xn cb, .slice ai xm ci] 25)) (fun b => w1.heap.size + 1 ≤ b ∧ b < ((w2.alloc (.cells #[.bool xl, .slice ab xn cb, .slice ai xm ci] 25)).alloc (.cells #[.bool xl, .slice ab xn cb, .slice ai xm ci] 25)).heap.size ∧ (Value.slice av q cv).ownBlock ≠ some b) (.slice ab xn cb) (.slice ai xm ci) x ∧ xl = x.l ∧ q = A.length ∧ A.length ≤ p) := ⟨hj4, hax 1 _ rfl, hit9.mono (fun b hb => hbx.block b hb.2.1) (fun b hb => ⟨hb.1, Nat.lt_of_lt_of_le hb.2.1 hbx.size, hb.2.2⟩), hxl, HJ.out.2.1, HJ.out.2.2.1⟩
              have HST : Hid (itF (fs d) N N (bs.drop F) = (itF (fs d) (kk - 1) (T - (p + m)) (bs.drop (p + m))).map ((A.map IC.x ++ [x]) ++ ·)) := by
                show _ = _
                rw [HJ.out.2.2.2.2, itF_step (by omega) hfs (by omega) HJ.out.2.2.2.1, List.drop_drop, Nat.sub_sub]
                exact map_map_ex _ _ [x]
              have HKK : Hid (T - (p + m) ≤ kk - 1) := by show _ ≤ _; have := HJ.out.2.2.2.1; omega
              have T1 : Hid True := trivial
              clear hfs hb2 hJ2 hitx hxl hxn hxm hit9 hbx hax hj4 HJ2
              go_wp2_with (first
                | (have _ := T1
                   at_builtin
                   clear T1
                   refine wpList_append_itR (by rfl) _ _ (by rfl) (base := w1.heap.size + 1) (v := .slice av q cv) (A := A) ⟨x, .slice ab xn cb, .slice ai xm ci⟩ ⟨_, _, _, rfl⟩ ⟨_, _, _, rfl⟩ (by rfl) H4.out.1.row (w2.heap.size + 1) (by rfl) (by rw [← H4.out.2.2.2.1]; exact H4.out.2.1) (by have := H4.out.2.2.2.2.2; omega) (by have := heap_lt H4.out.1.b1; omega) ?_
                   intro v' V2 ho hg ha
                   obtain ⟨av', cv', rfl⟩ := row_form ho
                   have hlv : ∀ b, (Value.slice av q cv).ownBlock = some b → w1.heap.size + 1 ≤ b := fun b hb => (H4.out.1.row.lt b hb).1
                   have hb1 : V2.heap[w1.heap.size]? = some (.cells #[.bool true, .slice none 0 0, .slice av q cv] 25) := (hg.block _ (heap_lt H4.out.1.b1) (fun e => by have := hlv w1.heap.size e.symm; omega)).trans H4.out.1.b1
                   have x0 : V2.cell? ⟨w1.heap.size, 2, none⟩ = some (.slice av q cv) := (cell_of_block hb1 2).trans rfl
                   have xz : V2.frozen? ⟨w1.heap.size, 2, none⟩ = false := unfrozen_of_block hb1 2
                   obtain ⟨q', hq'⟩ : ∃ q', q' = A.length + 1 := ⟨_, rfl⟩
                   have H5 : Hid (LJ w (V2.setCell ⟨w1.heap.size, 2, none⟩ (.slice av' q' cv')) w1.heap.size (A ++ [⟨x, .slice ab xn cb, .slice ai xm ci⟩]) (.slice av' q' cv')) := by rw [hq']; exact H4.out.1.step hg ho ha H4.out.2.2.1
                   rw [← hq']
                   clear ho hg ha hlv hb1 hq'))
              go_roundw
              case rel => exact ⟨p + m, A ++ [⟨x, .slice ab xn cb, .slice ai xm ci⟩], _, by omega, by go_num, H5.out, ⟨kk - 1, HKK.out, by rw [HST.out, List.map_append]; rfl⟩, by rw [List.length_append]; have := H4.out.2.2.2.2.2; simp; omega⟩
              case measure => simp [intOf]; omega
        · obtain rfl : p = T := by omega
          have hlti : ¬ (p : Int) < p := by omega
          have a0 : wr.cell? ⟨w.heap.size, 0, none⟩ = some (.bool false) := (cell_of_block hJ.b0 0).trans rfl
          have a1 : wr.cell? ⟨w.heap.size, 1, none⟩ = some (.slice none 0 0) := (cell_of_block hJ.b0 1).trans rfl
          have a2 : wr.cell? ⟨w.heap.size, 2, none⟩ = some (.slice none 0 0) := (cell_of_block hJ.b0 2).trans rfl
          have az := fun k => unfrozen_of_block hJ.b0 k
          have b0 : wr.cell? ⟨w1.heap.size, 0, none⟩ = some (.bool true) := (cell_of_block hJ.b1 0).trans rfl
          have b1 : wr.cell? ⟨w1.heap.size, 1, none⟩ = some (.slice none 0 0) := (cell_of_block hJ.b1 1).trans rfl
          have b2 : wr.cell? ⟨w1.heap.size, 2, none⟩ = some (.slice av q cv) := (cell_of_block hJ.b1 2).trans rfl
          have HE2 : Hid (R = .ok (.mk true [] (A.map IC.x), p)) := HE.out.trans (by rw [hit, Nat.sub_self, itF_none]; simp [Except.map, listR])
          have HJ : Hid (LJ w wr w1.heap.size A (.slice av q cv) ∧ q = A.length ∧ A.length ≤ p) := ⟨hJ, hq, hAl⟩
          clear hit hkk hJ hq hAl H0
          go_wp2
          refine ⟨rfl, _, res39 _ _ _ _ _ _ _ _ _ _ _ HJ.out.1.b0 rfl rfl rfl, set31_below HJ.out.1.bl (Nat.le_refl _) _ _ _, ?_⟩
          rw [HE2.out]
          refine ⟨_, _, rfl, ⟨⟨Or.inl ⟨rfl, rfl⟩, fun b hb' => (by have h9 := dBlock_own hb'; cases h9), by show (0 : Nat) ≤ _; omega⟩, ?_⟩⟩
          have hpl := HJ.out.1.pl
          have hoth := fun b (hb : b ≠ w.heap.size) => set31_other wr w.heap.size b (.bool true) (.slice none 0 0) (.slice av q cv) hb
          have hsz := set31_size wr w.heap.size (.bool true) (.slice none 0 0) (.slice av q cv)
          have hro := ownsRow_heap HJ.out.1.row (w' := ((wr.setCell ⟨w.heap.size, 0, none⟩ (.bool true)).setCell ⟨w.heap.size, 1, none⟩ (.slice none 0 0)).setCell ⟨w.heap.size, 2, none⟩ (.slice av q cv)) (fun b hb => hoth b (by have := (HJ.out.1.row.lt b hb).1; omega))
          exact row_itsR hro (fun f hf => (HJ.out.1.it f hf).mono (fun b hb => hoth b (by omega)) (fun b hb => ⟨by omega, by rw [hsz]; exact hb.2.1⟩)) (fun b hb => by have := HJ.out.1.row.lt b hb; rw [hsz]; exact ⟨by omega, this.2⟩) (by have := HJ.out.2.2; omega)
end Go.Proofs.Ytmnlcpfehbpogaa
