/- RW, RX, TJ, TK, laid into one text. -/
import Derived.Test.YtboeokmaepchgaaGreatDoorM7
import Derived.Laws.BytesString
import Derived.Laws.BytesArg
import Derived.Lib.Bytes
import Derived.Test.YtboeokmaepchgaaGreatDoorM16
import Derived.Test.YtboeokmaepchgaaGreatDoorKcDE
import Derived.Lib.SlBytesConst
import Derived.Laws.StructEq
/- rlp: Same of what is the same. -/
namespace Go.Proofs.YtboeokmaepchgaaGreatDoor
open Go.RowKit Go.Maps Go.Joins
set_option linter.unusedSimpArgs false
set_option linter.unusedVariables false
theorem conv_any {w : World} {ad : Addr} {cap : Nat} {xs : List Int} (h : ∀ j u, (vB xs)[j]? = some u → w.cell? (ad.add j) = some u) : (convert 22 9 (.slice (some ad) xs.length cap)).run Tryz.prog w = .ok (.string (strOfNums xs)) w := by
  have hl : (loadCells ad xs.length).run Tryz.prog w = .ok (xs.map (Value.int .u8)).toArray w := by
    have := run_loadCells_list (P := Tryz.prog) w ad (vB xs) (fun j v hj => h j v hj)
    simpa [vB] using this
  rw [run_convert_bytes_string w 22 9 5 _ xs.length cap Tryz.underlying22 Tryz.underlying5 Tryz.underlying9, run_bytesToString w _ xs.length cap xs hl, foldl_push_bytes]
  simp [strOfNums, ByteArray.empty, ByteArray.emptyWithCapacity]
  rfl
theorem conv_b {w : World} {v : Value} {xs : List Int} (hv : BytesV w v xs) : (convert 22 9 v).run Tryz.prog w = .ok (.string (strOfNums xs)) w := by
  rcases hv with ⟨rfl, rfl⟩ | ⟨ad, cap, rfl, hc⟩
  · exact run_convert_bytes_nil w 22 5 Tryz.underlying22 Tryz.underlying5 0 0 9 Tryz.underlying9
  · exact conv_any hc
/-- The law's Same of the same bytes. -/
theorem lsame_t {w : World} {a b : Value} {xs : List Int} (ha : BytesV w a xs) (hb : BytesV w b xs) : Calls Tryz.prog 12 #[a, b] w fun e w' => e = .returned (.bool true) ∧ w' = w := by
  have h1 := conv_b ha
  have h2 := conv_b hb
  obtain ⟨_, _, rfl⟩ := ha.form
  obtain ⟨_, _, rfl⟩ := hb.form
  clear ha hb
  go_enter Tryz.func12, Tryz.ntmps12
  go_wp2
  go_ret
  exact ⟨by simp, rfl⟩
end Go.Proofs.YtboeokmaepchgaaGreatDoor
/- rlp: Str, Num, Big, List. -/
namespace Go.Proofs.YtboeokmaepchgaaGreatDoor
open Go.RowKit Go.Maps Go.Joins
set_option linter.unusedSimpArgs false
set_option linter.unusedVariables false
/-- A result in a block, stored last. -/
theorem res31 {w3 : World} {b : Nat} {x y z x' y' z' : Value} (fn : Func) (tmps : Array Value) (hr : fn.results = #[.cell 2 154]) (h0 : w3.heap[b]? = some (.cells #[x, y, z] 154)) (h2 : tmps[2]? = some (.pointer (some ⟨b, 0, none⟩))) :
    (results fn tmps).run Tryz.prog (((w3.setCell ⟨b, 0, none⟩ x').setCell ⟨b, 1, none⟩ y').setCell ⟨b, 2, none⟩ z') = .ok (.agg #[x', y', z']) (((w3.setCell ⟨b, 0, none⟩ x').setCell ⟨b, 1, none⟩ y').setCell ⟨b, 2, none⟩ z') := by
  have hl := load31 (set31 h0 (x' := x') (y' := y') (z' := z'))
  simp [results, hr, asAddr, h2, hl]
theorem fin31 {w w1 : World} {sb si u : Value} {x : Tr} (hb : Below w.heap.size w w1) (hit : ItV w1 (fun b => w.heap.size + 1 ≤ b ∧ b < w1.heap.size) sb si x) :
    Below w.heap.size w (((w1.setCell ⟨w.heap.size, 0, none⟩ u).setCell ⟨w.heap.size, 1, none⟩ sb).setCell ⟨w.heap.size, 2, none⟩ si) ∧ ItV (((w1.setCell ⟨w.heap.size, 0, none⟩ u).setCell ⟨w.heap.size, 1, none⟩ sb).setCell ⟨w.heap.size, 2, none⟩ si) (fun b => w.heap.size ≤ b ∧ b < (((w1.setCell ⟨w.heap.size, 0, none⟩ u).setCell ⟨w.heap.size, 1, none⟩ sb).setCell ⟨w.heap.size, 2, none⟩ si).heap.size) sb si x :=
  ⟨set31_below hb (Nat.le_refl _) _ _ _, hit.mono (fun b hb' => set31_other _ _ _ _ _ _ (by have := hb'.1; omega)) (fun b hb' => ⟨by have := hb'.1; omega, by rw [set31_size]; exact hb'.2⟩)⟩
set_option maxRecDepth 100000 in
set_option maxHeartbeats 4000000 in
/-- rlp.Str -/
theorem str_any {w : World} {v : Value} {bs : List Int} (h : BytesV w v bs) (hl : bs.length ≤ 140737488355328) :
    Calls Tryz.prog 91 #[v] w fun e w' => Below w.heap.size w w' ∧ ∃ sb, e = .returned (.agg #[.bool false, sb, .slice none 0 0]) ∧ ItV w' (fun b => w.heap.size ≤ b ∧ b < w'.heap.size) sb (.slice none 0 0) (.mk false bs []) := by
  have hb : Below w.heap.size w (w.alloc (.cells #[.bool false, .slice none 0 0, .slice none 0 0] 154)) := by go_grown
  have HC : Hid _ := bclone_any v bs (h.below hb) hl
  have h0 : (w.alloc (.cells #[.bool false, .slice none 0 0, .slice none 0 0] 154)).heap[w.heap.size]? = some (.cells #[.bool false, .slice none 0 0, .slice none 0 0] 154) := heap_alloc_new _ _
  have hsz : (w.alloc (.cells #[.bool false, .slice none 0 0, .slice none 0 0] 154)).heap.size = w.heap.size + 1 := by simp
  obtain ⟨a, c, rfl⟩ := h.form
  have HL : Hid (bs.length ≤ 140737488355328) := hl
  clear h hl
  go_enter Tryz.func91, Tryz.ntmps91
  go_wp2_with fail
  refine Calls.mono HC.out ?_
  rintro e w1 ⟨v', rfl, ho, hb1⟩
  obtain ⟨a', c', rfl⟩ := row_form ho
  have k0 := (hb1.block w.heap.size (by rw [hsz]; omega)).trans h0
  have a0 : w1.cell? ⟨w.heap.size, 0, none⟩ = some (.bool false) := (cell_of_block k0 0).trans rfl
  have a1 : w1.cell? ⟨w.heap.size, 1, none⟩ = some (.slice none 0 0) := (cell_of_block k0 1).trans rfl
  have a2 : w1.cell? ⟨w.heap.size, 2, none⟩ = some (.slice none 0 0) := (cell_of_block k0 2).trans rfl
  have az := fun k => unfrozen_of_block k0 k
  have hf := fin31 (u := .bool false) (sb := .slice a' bs.length c') (si := .slice none 0 0) (x := .mk false bs []) (hb.trans (hb1.mono hb.size)) ⟨BytD.of_own ho (fun b h1 h2 => ⟨by rw [hsz] at h1; exact h1, h2⟩) HL.out, ItsV.empty _ _⟩
  have HF : Hid _ := hf
  have HK : Hid _ := k0
  clear hf k0 ho hb1 h0 hsz hb HC
  go_wp2
  exact ⟨rfl, _, res31 _ _ rfl HK.out rfl, HF.out.1, _, rfl, HF.out.2⟩
/-- The number's bytes. -/
theorem short_b {w : World} (a0 a1 a2 a3 : Int) (ha : Wd.L4 a0 a1 a2 a3) (n : Nat) (hn : Wd.num a0 a1 a2 a3 = n) :
    Calls Tryz.prog 198 #[Wd.W4 a0 a1 a2 a3] w fun e w' => ∃ v, e = .returned v ∧ w'.ownsRow w.heap.size 5 1 v (shortB n).length (vB (shortB n)) ∧ Below w.heap.size w w' ∧ (shortB n).length ≤ 32 := by
  refine (Wd.short_any a0 a1 a2 a3 ha w).mono ?_
  rintro e w2 ⟨l, hl, hlen, b, rfl, hbb, hrow, hb2⟩
  rw [hn] at hlen hrow
  have hs := shortB_at l n hlen.out
  have hsl : (shortB n).length = l := by rw [hs]; simp
  refine ⟨_, rfl, ?_, hb2, by rw [hsl]; exact hl⟩
  exact ownsRow_of_rowIs hbb hl hsl (hrow.congr (fun j hj => by
    rw [hs]
    simp [vB, List.getD_eq_getElem?_getD, hj]))
set_option maxRecDepth 100000 in
set_option maxHeartbeats 4000000 in
/-- rlp.Big -/
theorem big_any {w : World} (a0 a1 a2 a3 : Int) (ha : Wd.L4 a0 a1 a2 a3) (n : Nat) (hn : Wd.num a0 a1 a2 a3 = n) :
    Calls Tryz.prog 170 #[Wd.W4 a0 a1 a2 a3] w fun e w' => Below w.heap.size w w' ∧ ∃ sb, e = .returned (.agg #[.bool false, sb, .slice none 0 0]) ∧ ItV w' (fun b => w.heap.size ≤ b ∧ b < w'.heap.size) sb (.slice none 0 0) (.mk false (shortB n) []) := by
  have hb : Below w.heap.size w ((w.alloc (.cells #[.int .u64 a0, .int .u64 a1, .int .u64 a2, .int .u64 a3] 46)).alloc (.cells #[.bool false, .slice none 0 0, .slice none 0 0] 154)) := by go_grown
  have HC : Hid _ := short_b (w := ((w.alloc (.cells #[.int .u64 a0, .int .u64 a1, .int .u64 a2, .int .u64 a3] 46)).alloc (.cells #[.bool false, .slice none 0 0, .slice none 0 0] 154))) a0 a1 a2 a3 ha n hn
  have h0 : ((w.alloc (.cells #[.int .u64 a0, .int .u64 a1, .int .u64 a2, .int .u64 a3] 46)).alloc (.cells #[.bool false, .slice none 0 0, .slice none 0 0] 154)).heap[w.heap.size + 1]? = some (.cells #[.bool false, .slice none 0 0, .slice none 0 0] 154) := by have := heap_alloc_new (w.alloc (.cells #[.int .u64 a0, .int .u64 a1, .int .u64 a2, .int .u64 a3] 46)) (.cells #[.bool false, .slice none 0 0, .slice none 0 0] 154); simpa using this
  have hsz : ((w.alloc (.cells #[.int .u64 a0, .int .u64 a1, .int .u64 a2, .int .u64 a3] 46)).alloc (.cells #[.bool false, .slice none 0 0, .slice none 0 0] 154)).heap.size = w.heap.size + 2 := by simp
  clear ha hn
  go_enter Tryz.func170, Tryz.ntmps170
  go_wp2_with fail
  refine Calls.mono HC.out ?_
  rintro e w1 ⟨v', rfl, ho, hb1, hl⟩
  obtain ⟨a', c', rfl⟩ := row_form ho
  have k0 := (hb1.block (w.heap.size + 1) (by rw [hsz]; omega)).trans h0
  have c0 : w1.cell? ⟨w.heap.size + 1, 0, none⟩ = some (.bool false) := (cell_of_block k0 0).trans rfl
  have c1 : w1.cell? ⟨w.heap.size + 1, 1, none⟩ = some (.slice none 0 0) := (cell_of_block k0 1).trans rfl
  have c2 : w1.cell? ⟨w.heap.size + 1, 2, none⟩ = some (.slice none 0 0) := (cell_of_block k0 2).trans rfl
  have az := fun k => unfrozen_of_block k0 k
  have hit : ItV w1 (fun b => w.heap.size + 2 ≤ b ∧ b < w1.heap.size) (.slice a' (shortB n).length c') (.slice none 0 0) (.mk false (shortB n) []) := ⟨BytD.of_own ho (fun b h1 h2 => ⟨by rw [hsz] at h1; exact h1, h2⟩) (by show (shortB n).length ≤ _; omega), ItsV.empty _ _⟩
  have HF : Hid (ItV w1 (fun b => w.heap.size + 2 ≤ b ∧ b < w1.heap.size) (.slice a' (shortB n).length c') (.slice none 0 0) (.mk false (shortB n) []) ∧ Below w.heap.size w w1) := ⟨hit, hb.trans (hb1.mono hb.size)⟩
  have HK : Hid _ := k0
  clear hit k0 ho hb1 h0 hsz hb HC
  go_wp2
  refine ⟨rfl, _, res31 _ _ rfl HK.out rfl, set31_below HF.out.2 (by omega) _ _ _, _, rfl, HF.out.1.mono (fun b hb' => set31_other _ _ _ _ _ _ (by have := hb'.1; omega)) (fun b hb' => ⟨by have := hb'.1; omega, by rw [set31_size]; exact hb'.2⟩)⟩
set_option maxRecDepth 100000 in
set_option maxHeartbeats 4000000 in
/-- rlp.Num -/
theorem num_any {w : World} (n : Nat) (hn : n < 18446744073709551616) :
    Calls Tryz.prog 174 #[.int .u64 n] w fun e w' => Below w.heap.size w w' ∧ ∃ sb, e = .returned (.agg #[.bool false, sb, .slice none 0 0]) ∧ ItV w' (fun b => w.heap.size ≤ b ∧ b < w'.heap.size) sb (.slice none 0 0) (.mk false (shortB n) []) := by
  have hb : Below w.heap.size w (w.alloc (.cells #[.bool false, .slice none 0 0, .slice none 0 0] 154)) := by go_grown
  have h0 : (w.alloc (.cells #[.bool false, .slice none 0 0, .slice none 0 0] 154)).heap[w.heap.size]? = some (.cells #[.bool false, .slice none 0 0, .slice none 0 0] 154) := heap_alloc_new _ _
  have hsz : (w.alloc (.cells #[.bool false, .slice none 0 0, .slice none 0 0] 154)).heap.size = w.heap.size + 1 := by simp
  have HC : Hid _ := Wd.of_any (n : Int) (w.alloc (.cells #[.bool false, .slice none 0 0, .slice none 0 0] 154))
  have hL : Wd.L4 (n : Int) 0 0 0 := ⟨⟨by omega, by omega⟩, ⟨by omega, by omega⟩, ⟨by omega, by omega⟩, ⟨by omega, by omega⟩⟩
  have hnum : Wd.num (n : Int) 0 0 0 = n := by unfold Wd.num; omega
  have HL : Hid (Wd.L4 (n : Int) 0 0 0 ∧ Wd.num (n : Int) 0 0 0 = n) := ⟨hL, hnum⟩
  clear hL hnum
  go_enter Tryz.func174, Tryz.ntmps174
  go_wp2_with fail
  refine Calls.mono HC.out ?_
  rintro e w1 ⟨rfl, hb1⟩
  go_wp2_with fail
  refine Calls.mono (big_any (n : Int) 0 0 0 HL.out.1 n HL.out.2) ?_
  rintro e w2 ⟨hb2, sb, rfl, hit⟩
  obtain ⟨a', c', rfl⟩ := hit.b.is.form
  have k0 := (hb2.block w.heap.size (by have := hb1.size; rw [hsz] at this; omega)).trans ((hb1.block w.heap.size (by rw [hsz]; omega)).trans h0)
  have c0 : w2.cell? ⟨w.heap.size, 0, none⟩ = some (.bool false) := (cell_of_block k0 0).trans rfl
  have c1 : w2.cell? ⟨w.heap.size, 1, none⟩ = some (.slice none 0 0) := (cell_of_block k0 1).trans rfl
  have c2 : w2.cell? ⟨w.heap.size, 2, none⟩ = some (.slice none 0 0) := (cell_of_block k0 2).trans rfl
  have az := fun k => unfrozen_of_block k0 k
  have hbw : Below w.heap.size w w2 := (hb.trans (hb1.mono hb.size)).trans (hb2.mono (by have := hb1.size; rw [hsz] at this; omega))
  have hf := fin31 (u := .bool false) hbw (hit.mono (fun _ _ => rfl) (fun b hb' => ⟨by have := hb'.1; have := hb1.size; rw [hsz] at this; omega, hb'.2⟩))
  have HF : Hid _ := hf
  have HK : Hid _ := k0
  clear hf k0 hit hb1 hb2 h0 hsz hb hbw HC
  go_wp2
  exact ⟨rfl, _, res31 _ _ rfl HK.out rfl, HF.out.1, _, rfl, HF.out.2⟩
end Go.Proofs.YtboeokmaepchgaaGreatDoor
/- trie: encoding, Empty, Open of the empty root. -/
namespace Go.Proofs.YtboeokmaepchgaaGreatDoor
open Go.RowKit Go.Maps Go.Joins Go.Shelf
set_option linter.unusedSimpArgs false
set_option linter.unusedVariables false
theorem bytes_kc {w : World} {a : Option Addr} {cap : Nat} {bs : List Int} (h : BytesV w (.slice a bs.length cap) bs) (hb : Byt bs) (hc : bs.length ≤ cap) (hm : cap ≤ 9223372036854775807) (hl : bs.length ≤ 140737488351232) : Kc.Bytes w a bs.length cap (Kc.mB bs) := by
  cases bs with
  | nil => exact ⟨0, 0, fun h => absurd h (by simp), fun j hj => absurd hj (by simp), hc, hm, hl⟩
  | cons x r =>
    obtain ⟨g, o, e, _⟩ := h.at (k := 0) (x := x) rfl
    refine ⟨g, o, fun _ => e, fun j hj => ?_, hc, hm, hl⟩
    obtain ⟨y, hy⟩ : ∃ y, (x :: r)[j]? = some y := ⟨_, List.getElem?_eq_getElem hj⟩
    obtain ⟨g', o', e', kc⟩ := h.at hy
    rw [e] at e'
    cases e'
    have hyb := hb y (List.mem_of_getElem? hy)
    rw [Kc.I8_mB hy hyb.1 hyb.2]
    exact kc
/-- keccak.Sum of a list of bytes. -/
theorem sum_b {w : World} {a : Option Addr} {cap : Nat} {bs : List Int} (hp : Kc.PathIn w) (h : BytesV w (.slice a bs.length cap) bs) (hb : Byt bs) (hc : bs.length ≤ cap) (hm : cap ≤ 9223372036854775807) (hl : bs.length ≤ 140737488351232) :
    Calls Tryz.prog 55 #[.slice a bs.length cap] w fun e w' => e = .returned (.agg (Kc.vec 32 (Kc.byt (Kc.digest (Kc.mB bs) bs.length)))) ∧ Below w.heap.size w w' :=
  Kc.sum_any a bs.length cap (Kc.mB bs) w hp (bytes_kc h hb hc hm hl)
set_option maxRecDepth 100000 in
set_option maxHeartbeats 4000000 in
/-- trie.encoding -/
theorem encoding_any (x : Tr) (w : World) (sb si : Value) (D : Nat → Prop) (h : ItV w D sb si x) (hD : ∀ b, D b → b < w.heap.size) :
    Calls Tryz.prog 87 #[.agg #[.bool x.l, sb, si]] w fun e w' => Below w.heap.size w w' ∧ ∃ v, e = .returned v ∧ w'.ownsRow w.heap.size 5 1 v (encR x).length (vB (encR x)) := by
  have hb : Below w.heap.size w (w.alloc (.cells #[.bool x.l, sb, si] 154)) := by go_grown
  have HC : Hid _ := encode_any x (w.alloc (.cells #[.bool x.l, sb, si] 154)) sb si D (h.mono (fun b hb' => hb.block b (hD b hb')) (fun _ h => h)) (fun b hb' => by have := hD b hb'; simp; omega)
  obtain ⟨ab, cb, rfl⟩ := h.b.is.form
  obtain ⟨ai, ci, rfl, i1, i2, i3⟩ := h.xs.form
  obtain ⟨l, hl⟩ : ∃ l, l = x.l := ⟨_, rfl⟩
  obtain ⟨m, hm⟩ : ∃ m, m = x.b.length := ⟨_, rfl⟩
  obtain ⟨n, hn⟩ : ∃ n, n = x.xs.length := ⟨_, rfl⟩
  rw [← hl, ← hm, ← hn] at HC ⊢
  have HB : Hid (Below w.heap.size w (w.alloc (.cells #[.bool l, .slice ab m cb, .slice ai n ci] 154))) := by show Below _ _ _; go_grown
  obtain ⟨ec, hec⟩ : ∃ ec, ec = encE x := ⟨_, rfl⟩
  rw [← hec] at HC
  clear h hD hl hm hn hb i1 i2 i3 hec
  go_enter Tryz.func87, Tryz.ntmps87
  go_wp2_with fail
  refine Calls.mono HC.out ?_
  rintro e w1 ⟨hb1, v, rfl, ho⟩
  obtain ⟨a1, c1, rfl⟩ := row_form ho
  go_wp2
  go_ret
  exact ⟨HB.out.trans (hb1.mono HB.out.size), _, rfl, ownsRow_le ho HB.out.size⟩
/-- The root of no pairs. -/
abbrev emV : Array Value := Kc.vec 32 (Kc.byt (Kc.digest (Kc.mB Kc.eM) 1))
theorem str_nil {w : World} : Calls Tryz.prog 91 #[.slice none 0 0] w fun e w' => Below w.heap.size w w' ∧ ∃ sb, e = .returned (.agg #[.bool false, sb, .slice none 0 0]) ∧ ItV w' (fun b => w.heap.size ≤ b ∧ b < w'.heap.size) sb (.slice none 0 0) (.mk false [] []) := str_any (bs := []) (Or.inl ⟨rfl, rfl⟩) (by decide)
theorem enc_nil : encE (.mk false [] []) = 0 ∧ encR (.mk false [] []) = Kc.eM := by decide
set_option maxRecDepth 100000 in
set_option maxHeartbeats 4000000 in
/-- trie.Empty -/
theorem empty_any {w : World} (hp : Kc.PathIn w) : Calls Tryz.prog 49 #[] w fun e w' => e = .returned (.agg emV) ∧ Below w.heap.size w w' := by
  have HP : Hid (Kc.PathIn w ∧ 1 < w.heap.size) := ⟨hp, Kc.pathIn_pos hp⟩
  clear hp
  go_enter Tryz.func49, Tryz.ntmps49
  go_wp2_with fail
  rw [Kc.zero32']
  have hB0 : Below w.heap.size w (w.alloc (.cells (Kc.vec 32 (Kc.byt fun _ => 0#8)) 33)) := by go_grown
  have hR0 : (w.alloc (.cells (Kc.vec 32 (Kc.byt fun _ => 0#8)) 33)).rowIs w.heap.size 33 32 (Kc.byt fun _ => 0#8) := Kc.heap_row (heap_alloc_new _ _)
  generalize w.alloc (.cells (Kc.vec 32 (Kc.byt fun _ => 0#8)) 33) = W0 at hB0 hR0 ⊢
  refine Calls.mono (str_nil (w := W0)) ?_
  rintro e W1 ⟨hb1, sb, rfl, hit⟩
  have hB1 : Below w.heap.size w W1 := hB0.trans (hb1.mono hB0.size)
  have hR1 : W1.rowIs w.heap.size 33 32 (Kc.byt fun _ => 0#8) := hR0.of_block (hb1.block _ hR0.lt)
  have HC : Hid _ := encoding_any (.mk false [] []) W1 sb (.slice none 0 0) _ hit (fun b hb => hb.2)
  rw [enc_nil.2] at HC
  obtain ⟨ab, cb, rfl⟩ := hit.b.is.form
  have H1 : Hid (Below w.heap.size w W1 ∧ W1.rowIs w.heap.size 33 32 (Kc.byt fun _ => 0#8)) := ⟨hB1, hR1⟩
  clear hit hb1 hB0 hR0 hB1 hR1
  go_wp2_with fail
  refine Calls.mono HC.out ?_
  rintro e W2 ⟨hb2, v, rfl, ho⟩
  obtain ⟨a2, c2, rfl, q1, q2, q3, q4⟩ := row_cap ho
  have hB2 : Below w.heap.size w W2 := H1.out.1.trans (hb2.mono H1.out.1.size)
  have hR2 : W2.rowIs w.heap.size 33 32 (Kc.byt fun _ => 0#8) := H1.out.2.of_block (hb2.block _ H1.out.2.lt)
  have hP2 : Kc.PathIn W2 := HP.out.1.below hB2 HP.out.2
  have HS : Hid _ := sum_b hP2 (BytesV.of_own ho) (by unfold Byt Kc.eM; decide) q1 q2 (by decide)
  have H2 : Hid (Below w.heap.size w W2 ∧ W2.rowIs w.heap.size 33 32 (Kc.byt fun _ => 0#8)) := ⟨hB2, hR2⟩
  clear ho hb2 hB2 hR2 hP2 H1 HC q1 q2 q3 q4
  go_wp2_with fail
  refine Calls.mono HS.out ?_
  rintro e W3 ⟨rfl, hb3⟩
  have hr3 : W3.rowIs w.heap.size 33 32 (Kc.byt fun _ => 0#8) := H2.out.2.of_block (hb3.block _ H2.out.2.lt)
  go_wp2_with (refine wpList_store_row rfl 33 _ _ rfl w.heap.size _ rfl rfl 33 _ (Kc.row_heap hr3) (Kc.info29v _) (by simp) (Kc.one_byt _ _) ?_)
  refine bodyPost_ret (results_cell_row rfl _ _ _ _ _ _ _ rfl (setRow_heap _ _ _ _ _ _ (Kc.row_heap hr3)) Tryz.underlying33 rfl (Kc.info29v _)) rfl ⟨rfl, ?_⟩
  exact ((Kc.Only.refl _ _).setRow _).below (H2.out.1.trans (hb3.mono H2.out.1.size)) (Nat.le_refl _)
end Go.Proofs.YtboeokmaepchgaaGreatDoor
/- trie: Open of the empty root; set and Get of a tree of one leaf. -/
namespace Go.Proofs.YtboeokmaepchgaaGreatDoor
open Go.RowKit Go.Maps Go.Joins Go.Shelf
set_option linter.unusedSimpArgs false
set_option linter.unusedVariables false
theorem allocs_old : ∀ (objs : List Obj) (w : World) (i : Nat), i < w.heap.size → (objs.foldl World.alloc w).heap[i]? = w.heap[i]?
  | [], w, i, h => rfl
  | A :: r, w, i, h => (allocs_old r (w.alloc A) i (by simp; omega)).trans (heap_alloc_old w A h)
theorem allocs_heap : ∀ (objs : List Obj) (w : World) (k : Nat) (o : Obj), objs[k]? = some o → (objs.foldl World.alloc w).heap[w.heap.size + k]? = some o
  | [], w, k, o, h => by simp at h
  | A :: r, w, 0, o, h => by
    simp at h
    subst h
    exact (allocs_old r (w.alloc A) w.heap.size (by simp)).trans (heap_alloc_new w A)
  | A :: r, w, k + 1, o, h => by
    have := allocs_heap r (w.alloc A) k o (by simpa using h)
    have e : (w.alloc A).heap.size + k = w.heap.size + (k + 1) := by simp; omega
    rw [e] at this
    exact this
theorem allocs_size : ∀ (objs : List Obj) (w : World), (objs.foldl World.alloc w).heap.size = w.heap.size + objs.length
  | [], w => rfl
  | A :: r, w => by show (r.foldl World.alloc (w.alloc A)).heap.size = _; rw [allocs_size r]; simp; omega
theorem allocs_below : ∀ (objs : List Obj) (w : World), Below w.heap.size w (objs.foldl World.alloc w)
  | [], w => Below.refl _ _
  | A :: r, w => ((Below.refl _ w).alloc (Nat.le_refl _) A).trans ((allocs_below r (w.alloc A)).mono (by simp))
theorem eq_vec_same {P : Program} (d t e n : Nat) (ht : P.underlying t = some (.array n e)) (hs : ∀ w, (sizeOf e).run P w = .ok 1 w) (ha : ∀ w, (isAgg e).run P w = .ok false w) (f : Nat → Value)
    (hf : ∀ i, i < n → ∀ w, (Op.equalIn d e (f i) (f i)).run P w = .ok true w) (w : World) :
    (Op.equalIn (d + 1) t (.agg (Kc.vec n f)) (.agg (Kc.vec n f))).run P w = .ok true w := by
  rw [Op.equalIn]
  simp only [Sem.run_bind, run_underlying ht, Result.andThen_ok, hs, Std.Legacy.Range.forIn_eq_forIn_range']
  have hl : ∀ l : List Nat, (∀ i ∈ l, i < n) → (forIn (m := Sem) l ((none : Option Bool), ()) fun i __s => do
            let __do_lift ← part e (Kc.vec n f) (i * 1)
            let __do_lift_1 ← part e (Kc.vec n f) (i * 1)
            let __do_lift ← Op.equalIn d e __do_lift __do_lift_1
            if (!__do_lift) = true then pure (ForInStep.done (some false, ())) else pure (ForInStep.yield ((none : Option Bool), ()))).run P w = .ok (none, ()) w := by
    intro l
    induction l with
    | nil => intro _; simp
    | cons i l ih =>
      intro hi
      have h1 : i < n := hi i (by simp)
      have h2 := ih (fun j hj => hi j (by simp [hj]))
      have hp : (part e (Kc.vec n f) (i * 1)).run P w = .ok (f i) w := by
        simp [part, Sem.run_bind, ha, Kc.get_vec n f i h1]
      rw [List.forIn_cons]
      simp only [Sem.run_bind, hp, Result.andThen_ok, hf i h1, Bool.not_true, Bool.false_eq_true, if_false, Sem.run_pure]
      exact h2
  rw [hl _ (fun i hi => by simp at hi; omega)]
  simp
theorem eq_row {P : Program} (t e n : Nat) (ht : P.underlying t = some (.array n e)) (hs : ∀ w, (sizeOf e).run P w = .ok 1 w) (ha : ∀ w, (isAgg e).run P w = .ok false w) (k : IntKind) (he : P.underlying e = some (.int k)) (x : Nat → Int) (w : World) :
    (Op.equalIn 10000 t (.agg (Kc.vec n fun j => .int k (x j))) (.agg (Kc.vec n fun j => .int k (x j)))).run P w = .ok true w :=
  eq_vec_same 9999 t e n ht hs ha _ (fun i _ w => by rw [run_equalIn_int w 9998 e k k _ _ he]; simp) w
theorem eq33 (m : Nat → BitVec 8) (w : World) : (Op.equalIn 10000 33 (.agg (Kc.vec 32 (Kc.byt m))) (.agg (Kc.vec 32 (Kc.byt m)))).run Tryz.prog w = .ok true w :=
  eq_row 33 5 32 Tryz.underlying33 Tryz.sizeOf5 Tryz.isAgg5 .u8 Tryz.underlying5 (fun j => Kc.I8 (m j)) w
theorem empty_d {w : World} (D : Nat → BitVec 8) (hD : D = Kc.digest (Kc.mB Kc.eM) 1) (hp : Kc.PathIn w) : Calls Tryz.prog 49 #[] w fun e w' => e = .returned (.agg (Kc.vec 32 (Kc.byt D))) ∧ Below w.heap.size w w' := by
  subst hD
  exact empty_any hp
set_option maxRecDepth 100000 in
set_option maxHeartbeats 4000000 in
/-- trie.Open of the empty root. -/
theorem open_any {w : World} (D : Nat → BitVec 8) (hD : D = Kc.digest (Kc.mB Kc.eM) 1) (hp : Kc.PathIn w) : Calls Tryz.prog 50 #[.agg (Kc.vec 32 (Kc.byt D)), .nilFunc] w fun e w' => ∃ b, e = .returned (.pointer (some ⟨b, 0, none⟩)) ∧ w.heap.size ≤ b ∧ w'.heap[b]? = some (.cells #[.nilIface, .nilFunc] 78) ∧ Below w.heap.size w w' := by
  have HP : Hid (Kc.PathIn w ∧ 1 < w.heap.size) := ⟨hp, Kc.pathIn_pos hp⟩
  have HD : Hid (D = Kc.digest (Kc.mB Kc.eM) 1) := hD
  clear hp hD
  have hB : Below w.heap.size w ((w.alloc (.cells (Kc.vec 32 (Kc.byt D)) 33)).alloc (.cells #[.nilIface, .nilFunc] 78)) := by go_grown
  have hh0 := allocs_heap [Obj.cells (Kc.vec 32 (Kc.byt D)) 33, .cells #[.nilIface, .nilFunc] 78] w 0 _ rfl
  have hh1 := allocs_heap [Obj.cells (Kc.vec 32 (Kc.byt D)) 33, .cells #[.nilIface, .nilFunc] 78] w 1 _ rfl
  have H0 : Hid (((w.alloc (.cells (Kc.vec 32 (Kc.byt D)) 33)).alloc (.cells #[.nilIface, .nilFunc] 78)).heap[w.heap.size]? = some (.cells (Kc.vec 32 (Kc.byt D)) 33) ∧ ((w.alloc (.cells (Kc.vec 32 (Kc.byt D)) 33)).alloc (.cells #[.nilIface, .nilFunc] 78)).heap[w.heap.size + 1]? = some (.cells #[.nilIface, .nilFunc] 78) ∧ Below w.heap.size w ((w.alloc (.cells (Kc.vec 32 (Kc.byt D)) 33)).alloc (.cells #[.nilIface, .nilFunc] 78))) := ⟨hh0, hh1, hB⟩
  clear hB hh0 hh1
  go_enter Tryz.func50, Tryz.ntmps50
  go_wp2_with fail
  generalize (w.alloc (.cells (Kc.vec 32 (Kc.byt D)) 33)).alloc (.cells #[.nilIface, .nilFunc] 78) = W0 at H0 ⊢
  refine wp_noP ?_
  refine wp_region_held_drew (S := (fun w' : World => w'.heap[w.heap.size]? = some (.cells (Kc.vec 32 (Kc.byt D)) 33))) (by kernel_rfl) H0.out.1 (fun hHeld => ?_)
  refine wpAnyH_take (i := 0) (v := .agg (Kc.vec 32 (Kc.byt D))) rfl (by kernel_rfl) (by kernel_rfl) (by kernel_rfl) (fun _ _ _ h => h) (Or.inl ⟨by rfl, fun w9 hSw => ?_⟩) hHeld ?_
  · exact Kc.run_load_exec 33 _ rfl _ rfl (load33 hSw)
  simp only [List.getElem_toArray, List.getElem_cons_succ, List.getElem_cons_zero, Act.put, List.setIfInBounds_toArray, List.set_cons_zero, List.set_cons_succ]
  refine wpAnyH_ready (rs := [1]) (by kernel_rfl) (by simp) ?_
  refine AllReadyH.cons rfl (fun K hK => ?_) AllReadyH.nil
  have hC := empty_d (w := W0.drew) D HD.out (HP.out.1.below (B := w.heap.size) ⟨H0.out.2.2.os, H0.out.2.2.tape, H0.out.2.2.output, H0.out.2.2.size, H0.out.2.2.block⟩ HP.out.2)
  go_simp
  refine Calls.mono hC ?_
  clear hC
  rintro e W1 ⟨rfl, hb1⟩
  have hs1 : W0.drew.heap.size = W0.heap.size := rfl
  have H1 : Hid (W1.heap[w.heap.size + 1]? = some (.cells #[.nilIface, .nilFunc] 78) ∧ Below w.heap.size w W1) := ⟨(hb1.block _ (heap_lt (w := W0) H0.out.2.1)).trans H0.out.2.1, H0.out.2.2.trans (by have := hb1.mono (show w.heap.size ≤ W0.drew.heap.size from H0.out.2.2.size); exact ⟨this.os, this.tape, this.output, this.size, this.block⟩)⟩
  have hx1 : (fun w' : World => w'.heap[w.heap.size]? = some (.cells (Kc.vec 32 (Kc.byt D)) 33)) W1 := (hb1.block _ (heap_lt (w := W0) H0.out.1)).trans H0.out.1
  clear hb1 hs1 H0
  refine hK.out _ _ hx1 (fun hHeld => ?_)
  clear hK K
  try simp only [List.getElem_toArray, List.getElem_cons_succ, List.getElem_cons_zero, Act.put, List.setIfInBounds_toArray, List.set_cons_zero, List.set_cons_succ]
  refine wpAnyH_take (i := 2) (v := .bool false) rfl (by kernel_rfl) (by kernel_rfl) (by kernel_rfl) (fun _ _ _ h => h) (Or.inl ⟨by rfl, fun w9 hSw => ?_⟩) hHeld ?_
  · have he := eq33 D w9
    go_simp
  simp only [List.getElem_toArray, List.getElem_cons_succ, List.getElem_cons_zero, Act.put, List.setIfInBounds_toArray, List.set_cons_zero, List.set_cons_succ]
  refine wpAnyH_done (by kernel_rfl) ?_ _
  simp only [noP]
  clear hHeld hx1
  go_wp2
  go_ret
  exact ⟨_, rfl, by omega, H1.out.1, H1.out.2⟩
end Go.Proofs.YtboeokmaepchgaaGreatDoor
