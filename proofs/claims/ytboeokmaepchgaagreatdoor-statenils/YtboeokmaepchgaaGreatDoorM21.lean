/- RW, RX, laid into one text. -/
import Derived.Test.YtboeokmaepchgaaGreatDoorM9
import Derived.Laws.BytesString
import Derived.Laws.BytesArg
import Derived.Lib.Bytes
/- rlp: Same of what is the same. -/
namespace Go.Proofs.YtboeokmaepchgaaGreatDoor
open Go.RowKit Go.Maps Go.Joins
set_option linter.unusedSimpArgs false
set_option linter.unusedVariables false
theorem conv_any {w : World} {ad : Addr} {cap : Nat} {xs : List Int} (h : ∀ j u, (vB xs)[j]? = some u → w.cell? (ad.add j) = some u) : (convert 22 9 (.slice (some ad) xs.length cap)).run Tryz.prog w = .ok (.string (strOfNums xs)) w := by
  have hl : (loadCells ad xs.length).run Tryz.prog w = .ok (xs.map (Value.int .u8)).toArray w := by
    have := run_loadCells_list (P := Tryz.prog) w ad (vB xs) (fun j v hj => h j v hj)
    simpa [vB] using this
  rw [run_convert_bytes_string w 22 9 5 _ xs.length cap Tryz.underlying22 Tryz.underlying5 Tryz.underlying9, run_bytesToString w _ xs.length cap xs hl, foldl_push_bytes]
  simp [strOfNums, ByteArray.empty, ByteArray.emptyWithCapacity]
  rfl
theorem conv_b {w : World} {v : Value} {xs : List Int} (hv : BytesV w v xs) : (convert 22 9 v).run Tryz.prog w = .ok (.string (strOfNums xs)) w := by
  rcases hv with ⟨rfl, rfl⟩ | ⟨ad, cap, rfl, hc⟩
  · exact run_convert_bytes_nil w 22 5 Tryz.underlying22 Tryz.underlying5 0 0 9 Tryz.underlying9
  · exact conv_any hc
/-- The law's Same of the same bytes. -/
theorem lsame_t {w : World} {a b : Value} {xs : List Int} (ha : BytesV w a xs) (hb : BytesV w b xs) : Calls Tryz.prog 12 #[a, b] w fun e w' => e = .returned (.bool true) ∧ w' = w := by
  have h1 := conv_b ha
  have h2 := conv_b hb
  obtain ⟨_, _, rfl⟩ := ha.form
  obtain ⟨_, _, rfl⟩ := hb.form
  clear ha hb
  go_enter Tryz.func12, Tryz.ntmps12
  go_wp2
  go_ret
  exact ⟨by simp, rfl⟩
end Go.Proofs.YtboeokmaepchgaaGreatDoor
/- rlp: Str, Num, Big, List. -/
namespace Go.Proofs.YtboeokmaepchgaaGreatDoor
open Go.RowKit Go.Maps Go.Joins
set_option linter.unusedSimpArgs false
set_option linter.unusedVariables false
/-- A result in a block, stored last. -/
theorem res31 {w3 : World} {b : Nat} {x y z x' y' z' : Value} (fn : Func) (tmps : Array Value) (hr : fn.results = #[.cell 2 154]) (h0 : w3.heap[b]? = some (.cells #[x, y, z] 154)) (h2 : tmps[2]? = some (.pointer (some ⟨b, 0, none⟩))) :
    (results fn tmps).run Tryz.prog (((w3.setCell ⟨b, 0, none⟩ x').setCell ⟨b, 1, none⟩ y').setCell ⟨b, 2, none⟩ z') = .ok (.agg #[x', y', z']) (((w3.setCell ⟨b, 0, none⟩ x').setCell ⟨b, 1, none⟩ y').setCell ⟨b, 2, none⟩ z') := by
  have hl := load31 (set31 h0 (x' := x') (y' := y') (z' := z'))
  simp [results, hr, asAddr, h2, hl]
theorem fin31 {w w1 : World} {sb si u : Value} {x : Tr} (hb : Below w.heap.size w w1) (hit : ItV w1 (fun b => w.heap.size + 1 ≤ b ∧ b < w1.heap.size) sb si x) :
    Below w.heap.size w (((w1.setCell ⟨w.heap.size, 0, none⟩ u).setCell ⟨w.heap.size, 1, none⟩ sb).setCell ⟨w.heap.size, 2, none⟩ si) ∧ ItV (((w1.setCell ⟨w.heap.size, 0, none⟩ u).setCell ⟨w.heap.size, 1, none⟩ sb).setCell ⟨w.heap.size, 2, none⟩ si) (fun b => w.heap.size ≤ b ∧ b < (((w1.setCell ⟨w.heap.size, 0, none⟩ u).setCell ⟨w.heap.size, 1, none⟩ sb).setCell ⟨w.heap.size, 2, none⟩ si).heap.size) sb si x :=
  ⟨set31_below hb (Nat.le_refl _) _ _ _, hit.mono (fun b hb' => set31_other _ _ _ _ _ _ (by have := hb'.1; omega)) (fun b hb' => ⟨by have := hb'.1; omega, by rw [set31_size]; exact hb'.2⟩)⟩
set_option maxRecDepth 100000 in
set_option maxHeartbeats 4000000 in
/-- rlp.Str -/
theorem str_any {w : World} {v : Value} {bs : List Int} (h : BytesV w v bs) (hl : bs.length ≤ 140737488355328) :
    Calls Tryz.prog 91 #[v] w fun e w' => Below w.heap.size w w' ∧ ∃ sb, e = .returned (.agg #[.bool false, sb, .slice none 0 0]) ∧ ItV w' (fun b => w.heap.size ≤ b ∧ b < w'.heap.size) sb (.slice none 0 0) (.mk false bs []) := by
  have hb : Below w.heap.size w (w.alloc (.cells #[.bool false, .slice none 0 0, .slice none 0 0] 154)) := by go_grown
  have HC : Hid _ := bclone_any v bs (h.below hb) hl
  have h0 : (w.alloc (.cells #[.bool false, .slice none 0 0, .slice none 0 0] 154)).heap[w.heap.size]? = some (.cells #[.bool false, .slice none 0 0, .slice none 0 0] 154) := heap_alloc_new _ _
  have hsz : (w.alloc (.cells #[.bool false, .slice none 0 0, .slice none 0 0] 154)).heap.size = w.heap.size + 1 := by simp
  obtain ⟨a, c, rfl⟩ := h.form
  have HL : Hid (bs.length ≤ 140737488355328) := hl
  clear h hl
  go_enter Tryz.func91, Tryz.ntmps91
  go_wp2_with fail
  refine Calls.mono HC.out ?_
  rintro e w1 ⟨v', rfl, ho, hb1⟩
  obtain ⟨a', c', rfl⟩ := row_form ho
  have k0 := (hb1.block w.heap.size (by rw [hsz]; omega)).trans h0
  have a0 : w1.cell? ⟨w.heap.size, 0, none⟩ = some (.bool false) := (cell_of_block k0 0).trans rfl
  have a1 : w1.cell? ⟨w.heap.size, 1, none⟩ = some (.slice none 0 0) := (cell_of_block k0 1).trans rfl
  have a2 : w1.cell? ⟨w.heap.size, 2, none⟩ = some (.slice none 0 0) := (cell_of_block k0 2).trans rfl
  have az := fun k => unfrozen_of_block k0 k
  have hf := fin31 (u := .bool false) (sb := .slice a' bs.length c') (si := .slice none 0 0) (x := .mk false bs []) (hb.trans (hb1.mono hb.size)) ⟨BytD.of_own ho (fun b h1 h2 => ⟨by rw [hsz] at h1; exact h1, h2⟩) HL.out, ItsV.empty _ _⟩
  have HF : Hid _ := hf
  have HK : Hid _ := k0
  clear hf k0 ho hb1 h0 hsz hb HC
  go_wp2
  exact ⟨rfl, _, res31 _ _ rfl HK.out rfl, HF.out.1, _, rfl, HF.out.2⟩
/-- The number's bytes. -/
theorem short_b {w : World} (a0 a1 a2 a3 : Int) (ha : Wd.L4 a0 a1 a2 a3) (n : Nat) (hn : Wd.num a0 a1 a2 a3 = n) :
    Calls Tryz.prog 198 #[Wd.W4 a0 a1 a2 a3] w fun e w' => ∃ v, e = .returned v ∧ w'.ownsRow w.heap.size 5 1 v (shortB n).length (vB (shortB n)) ∧ Below w.heap.size w w' ∧ (shortB n).length ≤ 32 := by
  refine (Wd.short_any a0 a1 a2 a3 ha w).mono ?_
  rintro e w2 ⟨l, hl, hlen, b, rfl, hbb, hrow, hb2⟩
  rw [hn] at hlen hrow
  have hs := shortB_at l n hlen.out
  have hsl : (shortB n).length = l := by rw [hs]; simp
  refine ⟨_, rfl, ?_, hb2, by rw [hsl]; exact hl⟩
  exact ownsRow_of_rowIs hbb hl hsl (hrow.congr (fun j hj => by
    rw [hs]
    simp [vB, List.getD_eq_getElem?_getD, hj]))
set_option maxRecDepth 100000 in
set_option maxHeartbeats 4000000 in
/-- rlp.Big -/
theorem big_any {w : World} (a0 a1 a2 a3 : Int) (ha : Wd.L4 a0 a1 a2 a3) (n : Nat) (hn : Wd.num a0 a1 a2 a3 = n) :
    Calls Tryz.prog 170 #[Wd.W4 a0 a1 a2 a3] w fun e w' => Below w.heap.size w w' ∧ ∃ sb, e = .returned (.agg #[.bool false, sb, .slice none 0 0]) ∧ ItV w' (fun b => w.heap.size ≤ b ∧ b < w'.heap.size) sb (.slice none 0 0) (.mk false (shortB n) []) := by
  have hb : Below w.heap.size w ((w.alloc (.cells #[.int .u64 a0, .int .u64 a1, .int .u64 a2, .int .u64 a3] 46)).alloc (.cells #[.bool false, .slice none 0 0, .slice none 0 0] 154)) := by go_grown
  have HC : Hid _ := short_b (w := ((w.alloc (.cells #[.int .u64 a0, .int .u64 a1, .int .u64 a2, .int .u64 a3] 46)).alloc (.cells #[.bool false, .slice none 0 0, .slice none 0 0] 154))) a0 a1 a2 a3 ha n hn
  have h0 : ((w.alloc (.cells #[.int .u64 a0, .int .u64 a1, .int .u64 a2, .int .u64 a3] 46)).alloc (.cells #[.bool false, .slice none 0 0, .slice none 0 0] 154)).heap[w.heap.size + 1]? = some (.cells #[.bool false, .slice none 0 0, .slice none 0 0] 154) := by have := heap_alloc_new (w.alloc (.cells #[.int .u64 a0, .int .u64 a1, .int .u64 a2, .int .u64 a3] 46)) (.cells #[.bool false, .slice none 0 0, .slice none 0 0] 154); simpa using this
  have hsz : ((w.alloc (.cells #[.int .u64 a0, .int .u64 a1, .int .u64 a2, .int .u64 a3] 46)).alloc (.cells #[.bool false, .slice none 0 0, .slice none 0 0] 154)).heap.size = w.heap.size + 2 := by simp
  clear ha hn
  go_enter Tryz.func170, Tryz.ntmps170
  go_wp2_with fail
  refine Calls.mono HC.out ?_
  rintro e w1 ⟨v', rfl, ho, hb1, hl⟩
  obtain ⟨a', c', rfl⟩ := row_form ho
  have k0 := (hb1.block (w.heap.size + 1) (by rw [hsz]; omega)).trans h0
  have c0 : w1.cell? ⟨w.heap.size + 1, 0, none⟩ = some (.bool false) := (cell_of_block k0 0).trans rfl
  have c1 : w1.cell? ⟨w.heap.size + 1, 1, none⟩ = some (.slice none 0 0) := (cell_of_block k0 1).trans rfl
  have c2 : w1.cell? ⟨w.heap.size + 1, 2, none⟩ = some (.slice none 0 0) := (cell_of_block k0 2).trans rfl
  have az := fun k => unfrozen_of_block k0 k
  have hit : ItV w1 (fun b => w.heap.size + 2 ≤ b ∧ b < w1.heap.size) (.slice a' (shortB n).length c') (.slice none 0 0) (.mk false (shortB n) []) := ⟨BytD.of_own ho (fun b h1 h2 => ⟨by rw [hsz] at h1; exact h1, h2⟩) (by show (shortB n).length ≤ _; omega), ItsV.empty _ _⟩
  have HF : Hid (ItV w1 (fun b => w.heap.size + 2 ≤ b ∧ b < w1.heap.size) (.slice a' (shortB n).length c') (.slice none 0 0) (.mk false (shortB n) []) ∧ Below w.heap.size w w1) := ⟨hit, hb.trans (hb1.mono hb.size)⟩
  have HK : Hid _ := k0
  clear hit k0 ho hb1 h0 hsz hb HC
  go_wp2
  refine ⟨rfl, _, res31 _ _ rfl HK.out rfl, set31_below HF.out.2 (by omega) _ _ _, _, rfl, HF.out.1.mono (fun b hb' => set31_other _ _ _ _ _ _ (by have := hb'.1; omega)) (fun b hb' => ⟨by have := hb'.1; omega, by rw [set31_size]; exact hb'.2⟩)⟩
set_option maxRecDepth 100000 in
set_option maxHeartbeats 4000000 in
/-- rlp.Num -/
theorem num_any {w : World} (n : Nat) (hn : n < 18446744073709551616) :
    Calls Tryz.prog 174 #[.int .u64 n] w fun e w' => Below w.heap.size w w' ∧ ∃ sb, e = .returned (.agg #[.bool false, sb, .slice none 0 0]) ∧ ItV w' (fun b => w.heap.size ≤ b ∧ b < w'.heap.size) sb (.slice none 0 0) (.mk false (shortB n) []) := by
  have hb : Below w.heap.size w (w.alloc (.cells #[.bool false, .slice none 0 0, .slice none 0 0] 154)) := by go_grown
  have h0 : (w.alloc (.cells #[.bool false, .slice none 0 0, .slice none 0 0] 154)).heap[w.heap.size]? = some (.cells #[.bool false, .slice none 0 0, .slice none 0 0] 154) := heap_alloc_new _ _
  have hsz : (w.alloc (.cells #[.bool false, .slice none 0 0, .slice none 0 0] 154)).heap.size = w.heap.size + 1 := by simp
  have HC : Hid _ := Wd.of_any (n : Int) (w.alloc (.cells #[.bool false, .slice none 0 0, .slice none 0 0] 154))
  have hL : Wd.L4 (n : Int) 0 0 0 := ⟨⟨by omega, by omega⟩, ⟨by omega, by omega⟩, ⟨by omega, by omega⟩, ⟨by omega, by omega⟩⟩
  have hnum : Wd.num (n : Int) 0 0 0 = n := by unfold Wd.num; omega
  have HL : Hid (Wd.L4 (n : Int) 0 0 0 ∧ Wd.num (n : Int) 0 0 0 = n) := ⟨hL, hnum⟩
  clear hL hnum
  go_enter Tryz.func174, Tryz.ntmps174
  go_wp2_with fail
  refine Calls.mono HC.out ?_
  rintro e w1 ⟨rfl, hb1⟩
  go_wp2_with fail
  refine Calls.mono (big_any (n : Int) 0 0 0 HL.out.1 n HL.out.2) ?_
  rintro e w2 ⟨hb2, sb, rfl, hit⟩
  obtain ⟨a', c', rfl⟩ := hit.b.is.form
  have k0 := (hb2.block w.heap.size (by have := hb1.size; rw [hsz] at this; omega)).trans ((hb1.block w.heap.size (by rw [hsz]; omega)).trans h0)
  have c0 : w2.cell? ⟨w.heap.size, 0, none⟩ = some (.bool false) := (cell_of_block k0 0).trans rfl
  have c1 : w2.cell? ⟨w.heap.size, 1, none⟩ = some (.slice none 0 0) := (cell_of_block k0 1).trans rfl
  have c2 : w2.cell? ⟨w.heap.size, 2, none⟩ = some (.slice none 0 0) := (cell_of_block k0 2).trans rfl
  have az := fun k => unfrozen_of_block k0 k
  have hbw : Below w.heap.size w w2 := (hb.trans (hb1.mono hb.size)).trans (hb2.mono (by have := hb1.size; rw [hsz] at this; omega))
  have hf := fin31 (u := .bool false) hbw (hit.mono (fun _ _ => rfl) (fun b hb' => ⟨by have := hb'.1; have := hb1.size; rw [hsz] at this; omega, hb'.2⟩))
  have HF : Hid _ := hf
  have HK : Hid _ := k0
  clear hf k0 hit hb1 hb2 h0 hsz hb hbw HC
  go_wp2
  exact ⟨rfl, _, res31 _ _ rfl HK.out rfl, HF.out.1, _, rfl, HF.out.2⟩
end Go.Proofs.YtboeokmaepchgaaGreatDoor
