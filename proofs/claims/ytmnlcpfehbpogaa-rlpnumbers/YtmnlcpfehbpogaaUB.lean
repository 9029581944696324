/- rlp: Uint, Word, and the document's Uint, Big, Num. -/
import Derived.Test.YtmnlcpfehbpogaaM32
namespace Go.Proofs.Ytmnlcpfehbpogaa
open Go.RowKit Go.Maps Go.Joins
set_option linter.unusedSimpArgs false
set_option linter.unusedVariables false
set_option maxRecDepth 100000 in
set_option maxHeartbeats 8000000 in
theorem uint_any {w : World} {l : Bool} {a : Option Addr} {cap : Nat} {bs : List Int} {xs : List Tr} {si : Value} (h : ItB w a cap bs) (hsi : ∃ a l c, si = .slice a l c) (r0 r1 r2 r3 : Int) (hr : Wd.L4 r0 r1 r2 r3) (hn : Wd.num r0 r1 r2 r3 = (wrdN (.mk l bs xs) 8 : Nat)) :
    Calls Try.prog 19 #[.agg #[.bool l, .slice a bs.length cap, si]] w fun e w' => Below w.heap.size w w' ∧ e = .returned (.tuple #[.int .u64 r0, .int .i64 (wrdE (.mk l bs xs) 8)]) := by
  obtain ⟨si0, si1, si2, rfl⟩ := hsi
  have hb : Below w.heap.size w (w.alloc (.cells #[.bool l, .slice a bs.length cap, .slice si0 si1 si2] 31)) := by go_grown
  have HC : Hid _ := number_any (si := .slice si0 si1 si2) (h.below hb) ⟨_, _, _, rfl⟩ 8 (by decide) r0 r1 r2 r3 hr hn
  obtain ⟨E, hE⟩ : ∃ E, E = wrdE (.mk l bs xs) 8 := ⟨_, rfl⟩
  rw [← hE] at HC ⊢
  obtain ⟨N, hN⟩ : ∃ N, N = bs.length := ⟨_, rfl⟩
  rw [← hN] at HC hb ⊢
  have HB : Hid (Below w.heap.size w (w.alloc (.cells #[.bool l, .slice a N cap, .slice si0 si1 si2] 31))) := hb
  clear hb h hr hn hE hN
  go_enter Try.func19, Try.ntmps19
  go_wp2_with fail
  refine Calls.mono HC.out ?_
  rintro e w1 ⟨hb1, rfl⟩
  have HK : Hid (Below w.heap.size w w1) := HB.out.trans (hb1.mono HB.out.size)
  clear hb1 HC HB
  go_wp2
  go_ret2
  exact ⟨HK.out.alloc HK.out.size _, rfl⟩
set_option maxRecDepth 100000 in
set_option maxHeartbeats 8000000 in
theorem ruint_any {w : World} {l : Bool} {a : Option Addr} {cap : Nat} {bs : List Int} {xs : List Tr} {si : Value} (h : ItB w a cap bs) (hsi : ∃ a l c, si = .slice a l c) (r0 r1 r2 r3 : Int) (hr : Wd.L4 r0 r1 r2 r3) (hn : Wd.num r0 r1 r2 r3 = (wrdN (.mk l bs xs) 8 : Nat)) :
    Calls Try.prog 20 #[.agg #[.bool l, .slice a bs.length cap, si]] w fun e w' => Below w.heap.size w w' ∧ e = .returned (.tuple #[.int .u64 r0, .int .i64 (wrdE (.mk l bs xs) 8)]) := by
  obtain ⟨si0, si1, si2, rfl⟩ := hsi
  have hb : Below w.heap.size w (w.alloc (.cells #[.bool l, .slice a bs.length cap, .slice si0 si1 si2] 25)) := by go_grown
  have HC : Hid _ := rword_any (si := .slice si0 si1 si2) (h.below hb) ⟨_, _, _, rfl⟩ 8 (by decide) r0 r1 r2 r3 hr hn
  obtain ⟨E, hE⟩ : ∃ E, E = wrdE (.mk l bs xs) 8 := ⟨_, rfl⟩
  rw [← hE] at HC ⊢
  obtain ⟨N, hN⟩ : ∃ N, N = bs.length := ⟨_, rfl⟩
  rw [← hN] at HC hb ⊢
  have HB : Hid (Below w.heap.size w (w.alloc (.cells #[.bool l, .slice a N cap, .slice si0 si1 si2] 25))) := hb
  clear hb h hr hn hE hN
  go_enter Try.func20, Try.ntmps20
  go_wp2_with fail
  refine Calls.mono HC.out ?_
  rintro e w1 ⟨hb1, rfl⟩
  have HK : Hid (Below w.heap.size w w1) := HB.out.trans (hb1.mono HB.out.size)
  clear hb1 HC HB
  go_wp2
  go_ret2
  exact ⟨HK.out.alloc HK.out.size _, rfl⟩
theorem res21 (w3 : World) (b : Nat) (x y z u c : Value) (tmps : Array Value) (h : w3.heap[b]? = some (.cells #[x, y, z, u] 50)) (h4 : tmps[2]? = some (.pointer (some ⟨b, 0, none⟩))) (h5 : tmps[3]? = some c) :
    (results Try.f21 tmps).run Try.prog w3 = .ok (.tuple #[.agg #[x, y, z, u], c]) w3 := by
  have hl := load50 h
  simp [results, Try.results21, asAddr, h4, h5, hl]
set_option maxRecDepth 100000 in
set_option maxHeartbeats 8000000 in
theorem word_any {w : World} {l : Bool} {a : Option Addr} {cap : Nat} {bs : List Int} {xs : List Tr} {si : Value} (h : ItB w a cap bs) (hsi : ∃ a l c, si = .slice a l c) (r0 r1 r2 r3 : Int) (hr : Wd.L4 r0 r1 r2 r3) (hn : Wd.num r0 r1 r2 r3 = (wrdN (.mk l bs xs) 32 : Nat)) :
    Calls Try.prog 21 #[.agg #[.bool l, .slice a bs.length cap, si]] w fun e w' => Below w.heap.size w w' ∧ e = .returned (.tuple #[Wd.W4 r0 r1 r2 r3, .int .i64 (wrdE (.mk l bs xs) 32)]) := by
  obtain ⟨si0, si1, si2, rfl⟩ := hsi
  have hb : Below w.heap.size w ((w.alloc (.cells #[.bool l, .slice a bs.length cap, .slice si0 si1 si2] 31)).alloc (.cells #[.int .u64 0, .int .u64 0, .int .u64 0, .int .u64 0] 50)) := by go_grown
  have hk := allocs_heap [Obj.cells #[.bool l, .slice a bs.length cap, .slice si0 si1 si2] 31, .cells #[.int .u64 0, .int .u64 0, .int .u64 0, .int .u64 0] 50] w
  have hk1 : ((w.alloc (.cells #[.bool l, .slice a bs.length cap, .slice si0 si1 si2] 31)).alloc (.cells #[.int .u64 0, .int .u64 0, .int .u64 0, .int .u64 0] 50)).heap[w.heap.size + 1]? = some (.cells #[.int .u64 0, .int .u64 0, .int .u64 0, .int .u64 0] 50) := hk 1 _ rfl
  have HC : Hid _ := number_any (si := .slice si0 si1 si2) (h.below hb) ⟨_, _, _, rfl⟩ 32 (by decide) r0 r1 r2 r3 hr hn
  obtain ⟨E, hE⟩ : ∃ E, E = wrdE (.mk l bs xs) 32 := ⟨_, rfl⟩
  rw [← hE] at HC ⊢
  obtain ⟨N, hN⟩ : ∃ N, N = bs.length := ⟨_, rfl⟩
  rw [← hN] at HC hb hk1 ⊢
  have HB : Hid (Below w.heap.size w ((w.alloc (.cells #[.bool l, .slice a N cap, .slice si0 si1 si2] 31)).alloc (.cells #[.int .u64 0, .int .u64 0, .int .u64 0, .int .u64 0] 50)) ∧ ((w.alloc (.cells #[.bool l, .slice a N cap, .slice si0 si1 si2] 31)).alloc (.cells #[.int .u64 0, .int .u64 0, .int .u64 0, .int .u64 0] 50)).heap[w.heap.size + 1]? = some (.cells #[.int .u64 0, .int .u64 0, .int .u64 0, .int .u64 0] 50)) := ⟨hb, hk1⟩
  clear hb h hr hn hE hN hk hk1
  go_enter Try.func21, Try.ntmps21
  go_wp2_with fail
  refine Calls.mono HC.out ?_
  rintro e w1 ⟨hb1, rfl⟩
  have k1 := (hb1.block (w.heap.size + 1) (heap_lt HB.out.2)).trans HB.out.2
  have a0 : w1.cell? ⟨w.heap.size + 1, 0, none⟩ = some (.int .u64 0) := (cell_of_block k1 0).trans rfl
  have a1 : w1.cell? ⟨w.heap.size + 1, 1, none⟩ = some (.int .u64 0) := (cell_of_block k1 1).trans rfl
  have a2 : w1.cell? ⟨w.heap.size + 1, 2, none⟩ = some (.int .u64 0) := (cell_of_block k1 2).trans rfl
  have a3 : w1.cell? ⟨w.heap.size + 1, 3, none⟩ = some (.int .u64 0) := (cell_of_block k1 3).trans rfl
  have az := fun k => unfrozen_of_block k1 k
  have HK : Hid (w1.heap[w.heap.size + 1]? = some (.cells #[.int .u64 0, .int .u64 0, .int .u64 0, .int .u64 0] 50) ∧ Below w.heap.size w w1) := ⟨k1, HB.out.1.trans (hb1.mono HB.out.1.size)⟩
  clear hb1 k1 HC HB
  go_wp2
  refine ⟨rfl, _, res21 _ _ _ _ _ _ _ _ (set50 HK.out.1) rfl rfl, ?_, rfl⟩
  exact set4_below HK.out.2 (Nat.le_succ _) _ _ _ _
/-- The document's bytes of a number. -/
theorem shortref_b {w : World} (a0 a1 a2 a3 : Int) (ha : Wd.L4 a0 a1 a2 a3) (n : Nat) (hn : Wd.num a0 a1 a2 a3 = n) :
    Calls Try.prog 44 #[Wd.W4 a0 a1 a2 a3] w fun e w' => ∃ g o cap, e = .returned (.slice (some ⟨g, o, none⟩) (shortB n).length cap) ∧ (∀ j u, (vB (shortB n))[j]? = some u → w'.cell? ⟨g, o + j, none⟩ = some u) ∧ Below w.heap.size w w' ∧ (shortB n).length ≤ 32 := by
  refine (Wd.shortref_any a0 a1 a2 a3 ha w).mono ?_
  rintro e w2 ⟨l, hl, hlen, v, rfl, ⟨av, cv, rfl⟩, hy, hb2⟩
  rw [hn] at hlen hy
  have hs := shortB_at l n hlen.out
  have hsl : (shortB n).length = l := by rw [hs]; simp
  obtain ⟨g, o, cap, e, hlt, hc⟩ := hy
  have hbl : (Wd.bytesL (n : Int) l).length = l := by simp [Wd.bytesL]
  injection e with e1 e2 e3
  subst e1 e3
  refine ⟨g, o, cv, by rw [hsl], fun j u hu => ?_, hb2, by rw [hsl]; exact hl⟩
  have hj : j < l := by have := (List.getElem?_eq_some_iff.1 hu).1; rw [vB_length, hsl] at this; exact this
  rw [hc j (by rw [hbl]; exact hj)]
  unfold vB at hu
  rw [List.getElem?_map, hs] at hu
  simp [hj] at hu
  rw [← hu]
  have e : (Wd.bytesL (n : Int) l)[j]'(by rw [hbl]; exact hj) = UInt8.ofNat ((n : Int) / 256 ^ (l - 1 - j) % 256).toNat := by simp [Wd.bytesL]
  rw [e]
  congr 2
  have h9 : ((n : Int) / 256 ^ (l - 1 - j) % 256) = ((n / 256 ^ (l - 1 - j) % 256 : Nat) : Int) := by rw [Int.natCast_emod, Int.natCast_ediv, Int.natCast_pow]; rfl
  rw [h9]
  simp only [UInt8.toNat_ofNat', Int.toNat_natCast]
  omega
theorem res25 {w3 : World} {b : Nat} {x y z : Value} (fn : Func) (tmps : Array Value) (hr : fn.results = #[.cell 2 25]) (h0 : w3.heap[b]? = some (.cells #[x, y, z] 25)) (h2 : tmps[2]? = some (.pointer (some ⟨b, 0, none⟩))) :
    (results fn tmps).run Try.prog w3 = .ok (.agg #[x, y, z]) w3 := by
  have hl := load25 h0
  simp [results, hr, asAddr, h2, hl]
set_option maxRecDepth 100000 in
set_option maxHeartbeats 4000000 in
/-- The document's Big. -/
theorem rbig_any {w : World} (a0 a1 a2 a3 : Int) (ha : Wd.L4 a0 a1 a2 a3) (n : Nat) (hn : Wd.num a0 a1 a2 a3 = n) :
    Calls Try.prog 26 #[Wd.W4 a0 a1 a2 a3] w fun e w' => Below w.heap.size w w' ∧ ∃ sb, e = .returned (.agg #[.bool false, sb, .slice none 0 0]) ∧ ItV w' (fun b => b < w'.heap.size) sb (.slice none 0 0) (.mk false (shortB n) []) := by
  have hb : Below w.heap.size w ((w.alloc (.cells #[.int .u64 a0, .int .u64 a1, .int .u64 a2, .int .u64 a3] 50)).alloc (.cells #[.bool false, .slice none 0 0, .slice none 0 0] 25)) := by go_grown
  have HC : Hid _ := shortref_b (w := ((w.alloc (.cells #[.int .u64 a0, .int .u64 a1, .int .u64 a2, .int .u64 a3] 50)).alloc (.cells #[.bool false, .slice none 0 0, .slice none 0 0] 25))) a0 a1 a2 a3 ha n hn
  have h0 := (allocs_heap [Obj.cells #[.int .u64 a0, .int .u64 a1, .int .u64 a2, .int .u64 a3] 50, .cells #[.bool false, .slice none 0 0, .slice none 0 0] 25] w) 1 _ rfl
  have HB : Hid (Below w.heap.size w ((w.alloc (.cells #[.int .u64 a0, .int .u64 a1, .int .u64 a2, .int .u64 a3] 50)).alloc (.cells #[.bool false, .slice none 0 0, .slice none 0 0] 25)) ∧ ((w.alloc (.cells #[.int .u64 a0, .int .u64 a1, .int .u64 a2, .int .u64 a3] 50)).alloc (.cells #[.bool false, .slice none 0 0, .slice none 0 0] 25)).heap[w.heap.size + 1]? = some (.cells #[.bool false, .slice none 0 0, .slice none 0 0] 25)) := ⟨hb, h0⟩
  clear ha hn hb h0
  go_enter Try.func26, Try.ntmps26
  go_wp2_with fail
  refine Calls.mono HC.out ?_
  rintro e w1 ⟨g, o, cap, rfl, hcl, hb1, hl⟩
  have k0 := (hb1.block (w.heap.size + 1) (heap_lt HB.out.2)).trans HB.out.2
  have c0 : w1.cell? ⟨w.heap.size + 1, 0, none⟩ = some (.bool false) := (cell_of_block k0 0).trans rfl
  have c1 : w1.cell? ⟨w.heap.size + 1, 1, none⟩ = some (.slice none 0 0) := (cell_of_block k0 1).trans rfl
  have c2 : w1.cell? ⟨w.heap.size + 1, 2, none⟩ = some (.slice none 0 0) := (cell_of_block k0 2).trans rfl
  have az := fun k => unfrozen_of_block k0 k
  obtain ⟨m, hm⟩ : ∃ m, m = (shortB n).length := ⟨_, rfl⟩
  rw [← hm]
  have HF : Hid (w1.heap[w.heap.size + 1]? = some (.cells #[.bool false, .slice none 0 0, .slice none 0 0] 25) ∧ Below w.heap.size w w1 ∧ (∀ j u, (vB (shortB n))[j]? = some u → w1.cell? ⟨g, o + j, none⟩ = some u) ∧ (shortB n).length ≤ 32 ∧ m = (shortB n).length) := ⟨k0, HB.out.1.trans (hb1.mono HB.out.1.size), hcl, hl, hm⟩
  clear hcl k0 hb1 hl hm HC HB
  go_wp2
  refine ⟨rfl, _, res25 _ _ rfl (set25 HF.out.1) rfl, set31_below HF.out.2.1 (Nat.le_succ _) _ _ _, .slice (some ⟨g, o, none⟩) m cap, rfl, ⟨?_, ItsV.empty _ _⟩⟩
  have hgne : ∀ j u, (vB (shortB n))[j]? = some u → g ≠ w.heap.size + 1 := fun j u hu e => by
    have h1 := HF.out.2.2.1 j u hu
    rw [e, cell_of_block HF.out.1] at h1
    obtain ⟨x, -, rfl⟩ := List.mem_map.1 (List.mem_of_getElem? hu)
    have : ∀ q : Nat, (#[Value.bool false, .slice none 0 0, .slice none 0 0] : Array Value)[q]? ≠ some (.int .u8 x) := fun q hq => by
      rcases q with _ | _ | _ | q
      · simp at hq
      · simp at hq
      · simp at hq
      · simp at hq
    exact this _ h1
  refine ⟨Or.inr ⟨⟨g, o, none⟩, cap, by rw [HF.out.2.2.2.2]; rfl, fun j u hu => ?_⟩, fun b hb' => ?_, by show (shortB n).length ≤ _; have := HF.out.2.2.2.1; omega⟩
  · rw [Addr.add_lit, World.cell?_of_block (a := ⟨g, o + j, none⟩) (set31_other _ _ _ _ _ _ (hgne j u hu))]
    exact HF.out.2.2.1 j u hu
  · unfold dBlock at hb'
    split at hb'
    · cases hb'
    · rename_i hne
      simp [Value.ownBlock] at hb'
      subst hb'
      rw [set31_size]
      have hlt : 0 < (vB (shortB n)).length := by rw [vB_length]; have : (shortB n).length ≠ 0 := hne; omega
      exact cell_lt (HF.out.2.2.1 0 _ (List.getElem?_eq_getElem hlt))
set_option maxRecDepth 100000 in
set_option maxHeartbeats 4000000 in
/-- The document's Num. -/
theorem rnum_any {w : World} (n : Nat) (hn : n < 18446744073709551616) :
    Calls Try.prog 24 #[.int .u64 n] w fun e w' => Below w.heap.size w w' ∧ ∃ sb, e = .returned (.agg #[.bool false, sb, .slice none 0 0]) ∧ ItV w' (fun b => b < w'.heap.size) sb (.slice none 0 0) (.mk false (shortB n) []) := by
  have hb : Below w.heap.size w (w.alloc (.cells #[.bool false, .slice none 0 0, .slice none 0 0] 25)) := by go_grown
  have HB : Hid (Below w.heap.size w (w.alloc (.cells #[.bool false, .slice none 0 0, .slice none 0 0] 25)) ∧ (w.alloc (.cells #[.bool false, .slice none 0 0, .slice none 0 0] 25)).heap[w.heap.size]? = some (.cells #[.bool false, .slice none 0 0, .slice none 0 0] 25)) := ⟨hb, heap_alloc_new _ _⟩
  have HC : Hid _ := rbig_any (w := w.alloc (.cells #[.bool false, .slice none 0 0, .slice none 0 0] 25)) (n : Int) 0 0 0 ⟨⟨by omega, by omega⟩, ⟨by omega, by omega⟩, ⟨by omega, by omega⟩, ⟨by omega, by omega⟩⟩ n (by unfold Wd.num; omega)
  clear hb hn
  go_enter Try.func24, Try.ntmps24
  go_wp2_with fail
  refine Calls.mono HC.out ?_
  rintro e w1 ⟨hb1, sb, rfl, hit⟩
  obtain ⟨a', c', rfl⟩ := hit.b.is.form
  have k0 := (hb1.block w.heap.size (heap_lt HB.out.2)).trans HB.out.2
  have c0 : w1.cell? ⟨w.heap.size, 0, none⟩ = some (.bool false) := (cell_of_block k0 0).trans rfl
  have c1 : w1.cell? ⟨w.heap.size, 1, none⟩ = some (.slice none 0 0) := (cell_of_block k0 1).trans rfl
  have c2 : w1.cell? ⟨w.heap.size, 2, none⟩ = some (.slice none 0 0) := (cell_of_block k0 2).trans rfl
  have az := fun k => unfrozen_of_block k0 k
  have HF : Hid (w1.heap[w.heap.size]? = some (.cells #[.bool false, .slice none 0 0, .slice none 0 0] 25) ∧ Below w.heap.size w w1 ∧ BytD w1 (fun b => b < w1.heap.size) (.slice a' (shortB n).length c') (shortB n)) := ⟨k0, HB.out.1.trans (hb1.mono HB.out.1.size), hit.b⟩
  clear hit k0 hb1 HC HB
  go_wp2
  refine ⟨rfl, _, res25 _ _ rfl (set25 HF.out.1) rfl, set31_below HF.out.2.1 (Nat.le_refl _) _ _ _, _, rfl, ⟨?_, ItsV.empty _ _⟩⟩
  have hne : ∀ b, dBlock (.slice a' (shortB n).length c') (shortB n).length = some b → b ≠ w.heap.size := fun b hb' e => by
    have h1 := HF.out.2.2.is
    unfold dBlock at hb'
    split at hb'
    · cases hb'
    · rename_i hne
      obtain ⟨x, hx⟩ : ∃ x, (shortB n)[0]? = some x := ⟨_, List.getElem?_eq_getElem (by omega)⟩
      obtain ⟨g, o, e1, hc⟩ := h1.at hx
      subst e1
      simp [Value.ownBlock] at hb'
      subst hb'
      rw [e, cell_of_block HF.out.1] at hc
      have : ∀ q : Nat, (#[Value.bool false, .slice none 0 0, .slice none 0 0] : Array Value)[q]? ≠ some (.int .u8 x) := fun q hq => by
        rcases q with _ | _ | _ | q
        · simp at hq
        · simp at hq
        · simp at hq
        · simp at hq
      exact this _ hc
  refine ⟨HF.out.2.2.is.kept fun b hb' => set31_other _ _ _ _ _ _ (hne b hb'), fun b hb' => ?_, HF.out.2.2.len⟩
  rw [set31_size]
  exact HF.out.2.2.d b hb'
end Go.Proofs.Ytmnlcpfehbpogaa
