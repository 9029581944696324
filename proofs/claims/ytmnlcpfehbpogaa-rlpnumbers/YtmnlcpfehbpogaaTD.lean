/- rlp: the document's first, but for lists. -/
import Derived.Test.YtmnlcpfehbpogaaM26
namespace Go.Proofs.Ytmnlcpfehbpogaa
open Go.RowKit Go.Maps Go.Joins
set_option linter.unusedSimpArgs false
set_option linter.unusedVariables false
/-- What the document's first gives back: its variable and two slots. -/
theorem res39 (w3 : World) (b : Nat) (x y z x' y' z' n c : Value) (tmps : Array Value) (h : w3.heap[b]? = some (.cells #[x, y, z] 25)) (h4 : tmps[4]? = some (.pointer (some ⟨b, 0, none⟩))) (h5 : tmps[5]? = some n) (h6 : tmps[6]? = some c) :
    (results Try.f39 tmps).run Try.prog (((w3.setCell ⟨b, 0, none⟩ x').setCell ⟨b, 1, none⟩ y').setCell ⟨b, 2, none⟩ z') = .ok (.tuple #[.agg #[x', y', z'], n, c]) (((w3.setCell ⟨b, 0, none⟩ x').setCell ⟨b, 1, none⟩ y').setCell ⟨b, 2, none⟩ z') := by
  have hl := load25 (set25 h (x' := x') (y' := y') (z' := z'))
  simp [results, Try.results39, asAddr, h4, h5, h6, hl]
theorem res39b (w3 : World) (b : Nat) (x y z n c : Value) (tmps : Array Value) (h : w3.heap[b]? = some (.cells #[x, y, z] 25)) (h4 : tmps[4]? = some (.pointer (some ⟨b, 0, none⟩))) (h5 : tmps[5]? = some n) (h6 : tmps[6]? = some c) :
    (results Try.f39 tmps).run Try.prog w3 = .ok (.tuple #[.agg #[x, y, z], n, c]) w3 := by
  have hl := load25 h
  simp [results, Try.results39, asAddr, h4, h5, h6, hl]
def RfC (d : Nat) : Prop := ∀ (w : World) (a : Option Addr) (cap : Nat) (bs : List Int), Src w a cap bs →
  Calls Try.prog 39 #[.slice a bs.length cap, .int .i64 ((16 - d : Nat) : Int)] w fun e w' => Below w.heap.size w w' ∧ FsR w w' (fs d bs) e
set_option maxRecDepth 100000 in
set_option maxHeartbeats 8000000 in
theorem rf_nil {w : World} {a : Option Addr} {cap : Nat} (k d : Nat) :
    Calls Try.prog 39 #[.slice a 0 cap, .int .i64 k] w fun e w' => Below w.heap.size w w' ∧ FsR w w' (fs d []) e := by
  have hb : Below w.heap.size w (w.alloc (.cells #[.bool false, .slice none 0 0, .slice none 0 0] 25)) := by go_grown
  have HB : Hid (Below w.heap.size w (w.alloc (.cells #[.bool false, .slice none 0 0, .slice none 0 0] 25)) ∧ (w.alloc (.cells #[.bool false, .slice none 0 0, .slice none 0 0] 25)).heap[w.heap.size]? = some (.cells #[.bool false, .slice none 0 0, .slice none 0 0] 25)) := ⟨hb, heap_alloc_new _ _⟩
  have HP : Hid (fs d [] = .error 10) := fs_error d rfl
  generalize fs d [] = R at HP ⊢
  clear hb
  go_enter Try.func39, Try.ntmps39
  go_wp2
  refine ⟨rfl, _, res39b _ _ _ _ _ _ _ _ HB.out.2 rfl rfl rfl, HB.out.1, ?_⟩
  rw [HP.out]
  rfl
set_option maxRecDepth 100000 in
set_option maxHeartbeats 8000000 in
theorem rf_byte {w : World} {a : Option Addr} {cap : Nat} {c : Int} {r : List Int} (h : Src w a cap (c :: r)) (hc : c < 128) (k d : Nat) :
    Calls Try.prog 39 #[.slice a (c :: r).length cap, .int .i64 k] w fun e w' => Below w.heap.size w w' ∧ FsR w w' (fs d (c :: r)) e := by
  obtain ⟨g, o, _, rfl, -, -, -, -, hall⟩ := h.at (i := 0) (by simp)
  have hcb := h.by' c (by simp)
  have k0 : w.cell? ⟨g, o, none⟩ = some (.int .u8 c) := hall 0 c rfl
  have hb : Below w.heap.size w (w.alloc (.cells #[.bool false, .slice none 0 0, .slice none 0 0] 25)) := by go_grown
  have k1 : (w.alloc (.cells #[.bool false, .slice none 0 0, .slice none 0 0] 25)).cell? ⟨g, o, none⟩ = some (.int .u8 c) := (hb.cell (cell_lt k0)).trans k0
  have hb2 : Below w.heap.size w ((w.alloc (.cells #[.bool false, .slice (some ⟨w.heap.size + 1, 0, none⟩) 1 1, .slice none 0 0] 25)).alloc (.cells #[.int .u8 c] 5)) := by go_grown
  have hk := allocs_heap [Obj.cells #[.bool false, .slice (some ⟨w.heap.size + 1, 0, none⟩) 1 1, .slice none 0 0] 25, .cells #[.int .u8 c] 5] w
  have HB : Hid (Below w.heap.size w ((w.alloc (.cells #[.bool false, .slice (some ⟨w.heap.size + 1, 0, none⟩) 1 1, .slice none 0 0] 25)).alloc (.cells #[.int .u8 c] 5)) ∧ ((w.alloc (.cells #[.bool false, .slice (some ⟨w.heap.size + 1, 0, none⟩) 1 1, .slice none 0 0] 25)).alloc (.cells #[.int .u8 c] 5)).heap[w.heap.size]? = some (.cells #[.bool false, .slice (some ⟨w.heap.size + 1, 0, none⟩) 1 1, .slice none 0 0] 25) ∧ ((w.alloc (.cells #[.bool false, .slice (some ⟨w.heap.size + 1, 0, none⟩) 1 1, .slice none 0 0] 25)).alloc (.cells #[.int .u8 c] 5)).heap[w.heap.size + 1]? = some (.cells #[.int .u8 c] 5)) := ⟨hb2, hk 0 _ rfl, hk 1 _ rfl⟩
  have HP : Hid (fs d (c :: r) = .ok (.mk false [c] [], 1)) := by
    show _ = _
    rw [fs_bytes d (h := 0) (n := 1) (by simp [sps, hc])]
    rfl
  generalize fs d (c :: r) = R at HP ⊢
  have hlen : (c :: r).length = r.length + 1 := rfl
  have hl6 := h.len
  rw [hlen] at hl6 ⊢
  generalize r.length = L at hl6 ⊢
  clear hall hb hb2 hk h hlen
  go_enter Try.func39, Try.ntmps39
  go_wp2
  refine ⟨rfl, _, res39b _ _ _ _ _ _ _ _ HB.out.2.1 rfl rfl rfl, HB.out.1, ?_⟩
  rw [HP.out]
  refine ⟨_, _, rfl, ⟨⟨Or.inr ⟨_, _, rfl, fun j u hu => ?_⟩, fun b hb' => ?_, by show (1 : Nat) ≤ _; omega⟩, ItsV.empty _ _⟩⟩
  · obtain ⟨rfl, rfl⟩ : j = 0 ∧ u = .int .u8 c := by
      cases j with
      | zero => exact ⟨rfl, by simp [vB, Tr.b] at hu; exact hu.symm⟩
      | succ j => simp [vB, Tr.b] at hu
    exact (cell_of_block HB.out.2.2 0).trans rfl
  · have h9 := dBlock_own hb'
    simp [Value.ownBlock] at h9
    subst h9
    exact ⟨by omega, heap_lt HB.out.2.2⟩
set_option maxRecDepth 100000 in
set_option maxHeartbeats 8000000 in
theorem rf_str {w : World} {a : Option Addr} {cap : Nat} {c : Int} {r : List Int} (h : Src w a cap (c :: r)) (hc : 128 ≤ c) (hc2 : c < 192) (k d : Nat) :
    Calls Try.prog 39 #[.slice a (c :: r).length cap, .int .i64 k] w fun e w' => Below w.heap.size w w' ∧ FsR w w' (fs d (c :: r)) e := by
  obtain ⟨R, hR⟩ : ∃ R, R = fs d (c :: r) := ⟨_, rfl⟩
  rw [← hR]
  have HRR : Hid (R = fs d (c :: r)) := hR
  clear hR
  have hb : Below w.heap.size w (w.alloc (.cells #[.bool false, .slice none 0 0, .slice none 0 0] 25)) := by go_grown
  have hC := size_any (h.below hb) 128 183 (Or.inl ⟨rfl, rfl⟩) hc (by omega)
  obtain ⟨g, o, _, rfl, -, -, -, -, hall⟩ := h.at (i := 0) (by simp)
  have hk0 : (w.alloc (.cells #[.bool false, .slice none 0 0, .slice none 0 0] 25)).heap[w.heap.size]? = some (.cells #[.bool false, .slice none 0 0, .slice none 0 0] 25) := heap_alloc_new _ _
  have hsz0 : (w.alloc (.cells #[.bool false, .slice none 0 0, .slice none 0 0] 25)).heap.size = w.heap.size + 1 := by simp
  have k0 : (w.alloc (.cells #[.bool false, .slice none 0 0, .slice none 0 0] 25)).cell? ⟨g, o, none⟩ = some (.int .u8 c) := (hb.cell (p := ⟨g, o, none⟩) (cell_lt (hall 0 c rfl))).trans (hall 0 c rfl)
  have hsp : sps (c :: r) = (match szH r (c - 128).toNat with
    | .error e => .error e
    | .ok (h, n) => if r.length - h < n then .error 10 else
      if c < 192 ∧ n = 1 ∧ (r.drop h).headD 0 < 128 then .error 11 else .ok (decide (192 ≤ c), 1 + h, n)) := by
    simp only [sps]
    rw [if_neg (by omega), if_neg (by omega)]
    rfl
  have hM : (c :: r).length = r.length + 1 := rfl
  have hl6 := h.len
  have hcp := h.cp
  have hmx := h.mx
  obtain ⟨M, hM2⟩ : ∃ M, M = (c :: r).length := ⟨_, rfl⟩
  rw [← hM2] at hC hl6 hcp ⊢
  have HS : Hid (Src w (some ⟨g, o, none⟩) cap (c :: r) ∧ M = r.length + 1) := ⟨h, by rw [hM2, hM]⟩
  have hMp : 0 < M := by rw [hM2, hM]; omega
  have hM0 : ((M : Int) == 0) = false := by simp; omega
  have HC : Hid (Calls Try.prog 56 #[.slice (some ⟨g, o, none⟩) M cap, .int .u8 128, .int .u8 183] (w.alloc (.cells #[.bool false, .slice none 0 0, .slice none 0 0] 25)) fun e w' => Below (w.alloc (.cells #[.bool false, .slice none 0 0, .slice none 0 0] 25)).heap.size (w.alloc (.cells #[.bool false, .slice none 0 0, .slice none 0 0] 25)) w' ∧ szR (szH r (c - 128).toNat) e) := hC
  have HB : Hid (Below w.heap.size w (w.alloc (.cells #[.bool false, .slice none 0 0, .slice none 0 0] 25)) ∧ (w.alloc (.cells #[.bool false, .slice none 0 0, .slice none 0 0] 25)).heap[w.heap.size]? = some (.cells #[.bool false, .slice none 0 0, .slice none 0 0] 25) ∧ (w.alloc (.cells #[.bool false, .slice none 0 0, .slice none 0 0] 25)).heap.size = w.heap.size + 1) := ⟨hb, hk0, hsz0⟩
  have HP : Hid _ := hsp
  clear hC hb hk0 hsz0 hM hM2 h hall hsp
  go_enter Try.func39, Try.ntmps39
  go_wp2_with fail
  refine Calls.mono HC.out ?_
  rintro e w1 ⟨hb1, hr1⟩
  clear HC
  have k1 := (hb1.block w.heap.size (by rw [HB.out.2.2]; omega)).trans HB.out.2.1
  have hbw := HB.out.1.trans (hb1.mono HB.out.1.size)
  have a0 : w1.cell? ⟨w.heap.size, 0, none⟩ = some (.bool false) := (cell_of_block k1 0).trans rfl
  have a1 : w1.cell? ⟨w.heap.size, 1, none⟩ = some (.slice none 0 0) := (cell_of_block k1 1).trans rfl
  have a2 : w1.cell? ⟨w.heap.size, 2, none⟩ = some (.slice none 0 0) := (cell_of_block k1 2).trans rfl
  have az := fun k => unfrozen_of_block k1 k
  have HK : Hid (w1.heap[w.heap.size]? = some (.cells #[.bool false, .slice none 0 0, .slice none 0 0] 25) ∧ Below w.heap.size w w1) := ⟨k1, hbw⟩
  clear hb1 k1 hbw k0
  cases hq : szH r (c - 128).toNat with
  | error e2 =>
    rw [hq] at hr1
    obtain rfl := hr1
    have he0 : (e2 != 0) = true := by have := szH_nz hq; simp [this]
    have HE : Hid (R = .error e2) := HRR.out.trans (fs_error d (by rw [HP.out, hq]))
    clear HP hq
    go_wp2
    refine ⟨rfl, _, res39 _ _ _ _ _ _ _ _ _ _ _ HK.out.1 rfl rfl rfl, set31_below HK.out.2 (Nat.le_refl _) _ _ _, ?_⟩
    rw [HE.out]
    rfl
  | ok q =>
    obtain ⟨hd, n⟩ := q
    rw [hq] at hr1
    obtain ⟨N, hN, rfl⟩ := hr1
    have hdl := szH_le hq
    have hsp := HP.out
    rw [hq] at hsp
    simp only [] at hsp
    obtain ⟨F, hF⟩ : ∃ F, F = 1 + hd := ⟨_, rfl⟩
    have hMr := HS.out.2
    have hFM : F ≤ M := by omega
    rw [← hF]
    have hNb : N < 4294967552 := hN.2
    by_cases hgt : M - F < N
    · have hgi : (M : Int) - F < N := by omega
      have HE : Hid (R = .error 10) := HRR.out.trans (fs_error d (by rw [hsp, if_pos (by rcases hN.1 with h9 | h9 <;> omega)]))
      clear HP hq hsp hN hgt hF hMr hdl
      go_wp2
      refine ⟨rfl, _, res39 _ _ _ _ _ _ _ _ _ _ _ HK.out.1 rfl rfl rfl, set31_below HK.out.2 (Nat.le_refl _) _ _ _, ?_⟩
      rw [HE.out]
      rfl
    · obtain rfl : N = n := by rcases hN.1 with h9 | h9 <;> omega
      have hgi : ¬ (M : Int) - F < N := by omega
      rw [if_neg (by omega)] at hsp
      have hcase : (∃ x : Int, N = 1 ∧ x < 128 ∧ (c :: r)[F]? = some x ∧ 0 ≤ x ∧ x < 256) ∨ (∃ x : Int, N = 1 ∧ ¬ x < 128 ∧ (c :: r)[F]? = some x ∧ 0 ≤ x ∧ x < 256) ∨ N ≠ 1 := by
        by_cases h1 : N = 1
        · obtain ⟨x, hx⟩ : ∃ x, (c :: r)[F]? = some x := ⟨_, List.getElem?_eq_getElem (by show F < (c :: r).length; rw [List.length_cons]; omega)⟩
          have hxb := HS.out.1.by' x (List.mem_of_getElem? hx)
          by_cases hx2 : x < 128
          · exact Or.inl ⟨x, h1, hx2, hx, hxb⟩
          · exact Or.inr (Or.inl ⟨x, h1, hx2, hx, hxb⟩)
        · exact Or.inr (Or.inr h1)
      have hhd : ∀ x, (c :: r)[F]? = some x → (r.drop hd).headD 0 = x := fun x hx => by
        rw [hF, Nat.add_comm, List.getElem?_cons_succ] at hx
        cases hdr : r.drop hd with
        | nil => rw [List.drop_eq_nil_iff] at hdr; rw [List.getElem?_eq_none hdr] at hx; cases hx
        | cons y ys =>
          have : (r.drop hd)[0]? = some x := by rw [List.getElem?_drop]; exact hx
          rw [hdr] at this
          simpa using this
      rcases hcase with ⟨x, rfl, hx, hxe, hx0, hx1⟩ | hcase
      · have kx : w1.cell? ⟨g, o + F, none⟩ = some (.int .u8 x) := by
          obtain ⟨g', o', _, e', -, -, -, -, hall⟩ := (HS.out.1.below HK.out.2).at (i := 0) (by simp)
          injection e' with e'
          injection e' with e1 e2 _
          subst e1 e2
          exact hall F x hxe
        have HE : Hid (R = .error 11) := HRR.out.trans (fs_error d (by rw [hsp, if_pos ⟨hc2, rfl, by rw [hhd x hxe]; exact hx⟩]))
        clear HP hq hsp hN hgt hF hMr hdl hhd hxe
        have hFi : (F : Int) < M := by omega
        go_wp2
        refine ⟨rfl, _, res39 _ _ _ _ _ _ _ _ _ _ _ HK.out.1 rfl rfl rfl, set31_below HK.out.2 (Nat.le_refl _) _ _ _, ?_⟩
        rw [HE.out]
        rfl
      · have hspo : sps (c :: r) = .ok (false, F, N) := by
          rw [hsp, if_neg (by
            rintro ⟨-, h1, h2⟩
            rcases hcase with ⟨x, -, hx, hxe, -⟩ | h9
            · rw [hhd x hxe] at h2; exact hx h2
            · exact h9 h1), hF]
          congr 2
          simp; omega
        obtain ⟨part, hpart⟩ : ∃ part, part = ((c :: r).drop F).take N := ⟨_, rfl⟩
        have HFS : Hid (fs d (c :: r) = .ok (.mk false part [], F + N)) := by rw [hpart]; exact fs_bytes d hspo
        have hpl : part.length = N := by rw [hpart, List.length_take, List.length_drop, List.length_cons]; omega
        have hpv : BytesV w1 (.slice (some ⟨g, if cap = F then o else o + F, none⟩) N (cap - F)) part := by
          by_cases hn0 : N = 0
          · have hp0 : part = [] := List.eq_nil_of_length_eq_zero (by omega)
            rw [hp0, hn0]
            exact BytesV.empty _ _ _ (fun h => by cases h)
          · have := (HS.out.1.below HK.out.2).is.part F N (cap - F) (by rw [List.length_cons]; omega)
            rw [hpart, if_neg (by omega)]
            exact this
        have hsl : ∀ w', (Instr.slice 22 (.slice (some ⟨g, o, none⟩) M cap) (some (.int .i64 F)) (some (.int .i64 ((F : Int) + N))) none).run Try.prog w' = .ok (.slice (some ⟨g, if cap = F then o else o + F, none⟩) N (cap - F)) w' := fun w' => by
          rw [slLH w' g o M cap F (F + N) F ((F : Int) + N) rfl (by omega) (by omega) (by omega), show F + N - F = N from by omega]
        generalize (if cap = F then o else o + F) = o2 at hsl hpv
        have HV : Hid (BytesV w1 (.slice (some ⟨g, o2, none⟩) N (cap - F)) part ∧ part.length = N) := ⟨hpv, hpl⟩
        have T1 : Hid True := trivial
        have hNM : F + N ≤ M := by omega
        rcases hcase with ⟨x, h1, hx, hxe, hx0, hx1⟩ | hcase
        · have kx : w1.cell? ⟨g, o + F, none⟩ = some (.int .u8 x) := by
            obtain ⟨g', o', _, e', -, -, -, -, hall⟩ := (HS.out.1.below HK.out.2).at (i := 0) (by simp)
            injection e' with e'
            injection e' with e1 e2 _
            subst e1 e2
            exact hall F x hxe
          have hN1 : ((N : Int) == 1) = true := by rw [h1]; rfl
          have hFi : (F : Int) < M := by omega
          clear HP hq hsp hN hgt hF hMr hdl hhd hxe hspo hpart hpl hpv h1
          have HT : Hid (R = .ok (.mk false part [], F + N)) := HRR.out.trans HFS.out
          clear HRR HFS
          go_wp2_with (first
            | (have _ := T1
               at_builtin
               clear T1
               have ho0 : (w1.alloc (.cells #[] 5)).ownsRow w1.heap.size 5 1 (.slice (some ⟨w1.heap.size, 0, none⟩) 0 0) ([] : List Int).length (vB []) := ⟨rfl, Or.inr ⟨w1.heap.size, 0, #[], by simp, Nat.le_refl _, by have := heap_alloc_new w1 (.cells #[] 5); simpa using this, Nat.le_refl _, by decide, rfl, rfl⟩⟩
               refine wpList_append_b rfl _ _ rfl w1.heap.size (.slice (some ⟨w1.heap.size, 0, none⟩) 0 0) (.slice (some ⟨g, o2, none⟩) N (cap - F)) [] part rfl ho0 rfl (HV.out.1.below (by go_grown)) (by have := HV.out.2; simp; omega) (by simp) ?_
               intro v' w2 ho hg ha
               rw [List.nil_append] at ho
               obtain ⟨av, cv, hv⟩ := row_form ho
               rw [HV.out.2] at hv
               have hb2 : Below w1.heap.size w1 w2 := ((Below.refl _ w1).alloc (Nat.le_refl _) _).grown hg (by simp) (fun j hj => by have h9 : w1.heap.size = j := (by simpa [Value.ownBlock] using hj); omega)
               have hk : w2.heap[w.heap.size]? = some (.cells #[.bool false, .slice none 0 0, .slice none 0 0] 25) := (hb2.block _ (heap_lt HK.out.1)).trans HK.out.1
               have c0 : w2.cell? ⟨w.heap.size, 0, none⟩ = some (.bool false) := (cell_of_block hk 0).trans rfl
               have c1 : w2.cell? ⟨w.heap.size, 1, none⟩ = some (.slice none 0 0) := (cell_of_block hk 1).trans rfl
               have c2 : w2.cell? ⟨w.heap.size, 2, none⟩ = some (.slice none 0 0) := (cell_of_block hk 2).trans rfl
               have z0 := unfrozen_of_block hk 0
               have z1 := unfrozen_of_block hk 1
               have z2 := unfrozen_of_block hk 2
               subst hv
               have H2 : Hid (w2.ownsRow w1.heap.size 5 1 (.slice av N cv) part.length (vB part) ∧ Below w.heap.size w w2 ∧ w2.heap[w.heap.size]? = some (.cells #[.bool false, .slice none 0 0, .slice none 0 0] 25) ∧ w.heap.size < w1.heap.size) := ⟨ho, HK.out.2.trans (hb2.mono HK.out.2.size), hk, heap_lt HK.out.1⟩
               clear ho hb2 hk hg ha ho0))
          refine ⟨rfl, _, res39 _ _ _ _ _ _ _ _ _ _ _ H2.out.2.2.1 rfl rfl rfl, set31_below H2.out.2.1 (Nat.le_refl _) _ _ _, ?_⟩
          rw [HT.out]
          refine ⟨_, _, rfl, ?_⟩
          have hsz := set31_size w2 w.heap.size (.bool false) (.slice av N cv) (.slice none 0 0)
          have ho3 := ownsRow_heap H2.out.1 (w' := ((w2.setCell ⟨w.heap.size, 0, none⟩ (.bool false)).setCell ⟨w.heap.size, 1, none⟩ (.slice av N cv)).setCell ⟨w.heap.size, 2, none⟩ (.slice none 0 0)) (fun b hb => set31_other w2 w.heap.size b _ _ _ (by have := (H2.out.1.lt b hb).1; have := H2.out.2.2.2; omega))
          exact ⟨BytD.of_own ho3 (fun b h1 h2 => ⟨by have := H2.out.2.2.2; omega, h2⟩) (by show part.length ≤ _; have := HV.out.2; omega), ItsV.empty _ _⟩
        · have hN1 : ((N : Int) == 1) = false := by simp; omega
          clear HP hq hsp hN hgt hF hMr hdl hhd hspo hpart hpl hpv
          have HT : Hid (R = .ok (.mk false part [], F + N)) := HRR.out.trans HFS.out
          clear HRR HFS
          go_wp2_with (first
            | (have _ := T1
               at_builtin
               clear T1
               have ho0 : (w1.alloc (.cells #[] 5)).ownsRow w1.heap.size 5 1 (.slice (some ⟨w1.heap.size, 0, none⟩) 0 0) ([] : List Int).length (vB []) := ⟨rfl, Or.inr ⟨w1.heap.size, 0, #[], by simp, Nat.le_refl _, by have := heap_alloc_new w1 (.cells #[] 5); simpa using this, Nat.le_refl _, by decide, rfl, rfl⟩⟩
               refine wpList_append_b rfl _ _ rfl w1.heap.size (.slice (some ⟨w1.heap.size, 0, none⟩) 0 0) (.slice (some ⟨g, o2, none⟩) N (cap - F)) [] part rfl ho0 rfl (HV.out.1.below (by go_grown)) (by have := HV.out.2; simp; omega) (by simp) ?_
               intro v' w2 ho hg ha
               rw [List.nil_append] at ho
               obtain ⟨av, cv, hv⟩ := row_form ho
               rw [HV.out.2] at hv
               have hb2 : Below w1.heap.size w1 w2 := ((Below.refl _ w1).alloc (Nat.le_refl _) _).grown hg (by simp) (fun j hj => by have h9 : w1.heap.size = j := (by simpa [Value.ownBlock] using hj); omega)
               have hk : w2.heap[w.heap.size]? = some (.cells #[.bool false, .slice none 0 0, .slice none 0 0] 25) := (hb2.block _ (heap_lt HK.out.1)).trans HK.out.1
               have c0 : w2.cell? ⟨w.heap.size, 0, none⟩ = some (.bool false) := (cell_of_block hk 0).trans rfl
               have c1 : w2.cell? ⟨w.heap.size, 1, none⟩ = some (.slice none 0 0) := (cell_of_block hk 1).trans rfl
               have c2 : w2.cell? ⟨w.heap.size, 2, none⟩ = some (.slice none 0 0) := (cell_of_block hk 2).trans rfl
               have z0 := unfrozen_of_block hk 0
               have z1 := unfrozen_of_block hk 1
               have z2 := unfrozen_of_block hk 2
               subst hv
               have H2 : Hid (w2.ownsRow w1.heap.size 5 1 (.slice av N cv) part.length (vB part) ∧ Below w.heap.size w w2 ∧ w2.heap[w.heap.size]? = some (.cells #[.bool false, .slice none 0 0, .slice none 0 0] 25) ∧ w.heap.size < w1.heap.size) := ⟨ho, HK.out.2.trans (hb2.mono HK.out.2.size), hk, heap_lt HK.out.1⟩
               clear ho hb2 hk hg ha ho0))
          refine ⟨rfl, _, res39 _ _ _ _ _ _ _ _ _ _ _ H2.out.2.2.1 rfl rfl rfl, set31_below H2.out.2.1 (Nat.le_refl _) _ _ _, ?_⟩
          rw [HT.out]
          refine ⟨_, _, rfl, ?_⟩
          have hsz := set31_size w2 w.heap.size (.bool false) (.slice av N cv) (.slice none 0 0)
          have ho3 := ownsRow_heap H2.out.1 (w' := ((w2.setCell ⟨w.heap.size, 0, none⟩ (.bool false)).setCell ⟨w.heap.size, 1, none⟩ (.slice av N cv)).setCell ⟨w.heap.size, 2, none⟩ (.slice none 0 0)) (fun b hb => set31_other w2 w.heap.size b _ _ _ (by have := (H2.out.1.lt b hb).1; have := H2.out.2.2.2; omega))
          exact ⟨BytD.of_own ho3 (fun b h1 h2 => ⟨by have := H2.out.2.2.2; omega, h2⟩) (by show part.length ≤ _; have := HV.out.2; omega), ItsV.empty _ _⟩
end Go.Proofs.Ytmnlcpfehbpogaa
