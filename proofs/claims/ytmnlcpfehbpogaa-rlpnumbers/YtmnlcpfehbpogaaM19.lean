/- RW, RX, RY, laid into one text. -/
import Derived.Test.YtmnlcpfehbpogaaRV
import Derived.Laws.BytesString
import Derived.Laws.BytesArg
import Derived.Lib.Bytes
/- rlp: Same of what is the same. -/
namespace Go.Proofs.Ytmnlcpfehbpogaa
open Go.RowKit Go.Maps Go.Joins
set_option linter.unusedSimpArgs false
set_option linter.unusedVariables false
theorem conv_any {w : World} {ad : Addr} {cap : Nat} {xs : List Int} (h : ∀ j u, (vB xs)[j]? = some u → w.cell? (ad.add j) = some u) : (convert 22 9 (.slice (some ad) xs.length cap)).run Try.prog w = .ok (.string (strOfNums xs)) w := by
  have hl : (loadCells ad xs.length).run Try.prog w = .ok (xs.map (Value.int .u8)).toArray w := by
    have := run_loadCells_list (P := Try.prog) w ad (vB xs) (fun j v hj => h j v hj)
    simpa [vB] using this
  rw [run_convert_bytes_string w 22 9 5 _ xs.length cap Try.underlying22 Try.underlying5 Try.underlying9, run_bytesToString w _ xs.length cap xs hl, foldl_push_bytes]
  simp [strOfNums, ByteArray.empty, ByteArray.emptyWithCapacity]
  rfl
theorem conv_b {w : World} {v : Value} {xs : List Int} (hv : BytesV w v xs) : (convert 22 9 v).run Try.prog w = .ok (.string (strOfNums xs)) w := by
  rcases hv with ⟨rfl, rfl⟩ | ⟨ad, cap, rfl, hc⟩
  · exact run_convert_bytes_nil w 22 5 Try.underlying22 Try.underlying5 0 0 9 Try.underlying9
  · exact conv_any hc
/-- bytes.Equal of the same bytes. -/
theorem equal_t {w : World} {a b : Value} {xs : List Int} (ha : BytesV w a xs) (hb : BytesV w b xs) : Calls Try.prog 45 #[a, b] w fun e w' => e = .returned (.bool true) ∧ w' = w := by
  have h1 := conv_b ha
  have h2 := conv_b hb
  obtain ⟨_, _, rfl⟩ := ha.form
  obtain ⟨_, _, rfl⟩ := hb.form
  clear ha hb
  go_enter Try.func45, Try.ntmps45
  go_wp2
  go_ret
  exact ⟨by simp, rfl⟩
/-- The law's Same of the same bytes. -/
theorem lsame_t {w : World} {a b : Value} {xs : List Int} (ha : BytesV w a xs) (hb : BytesV w b xs) : Calls Try.prog 11 #[a, b] w fun e w' => e = .returned (.bool true) ∧ w' = w := by
  have h1 := conv_b ha
  have h2 := conv_b hb
  obtain ⟨_, _, rfl⟩ := ha.form
  obtain ⟨_, _, rfl⟩ := hb.form
  clear ha hb
  go_enter Try.func11, Try.ntmps11
  go_wp2
  go_ret
  exact ⟨by simp, rfl⟩
def SameC (x : Tr) : Prop := ∀ (w : World) (sb1 si1 sb2 si2 : Value), ItV w (fun b => b < w.heap.size) sb1 si1 x → ItV w (fun b => b < w.heap.size) sb2 si2 x →
  Calls Try.prog 27 #[.agg #[.bool x.l, sb1, si1], .agg #[.bool x.l, sb2, si2]] w fun e w' => Below w.heap.size w w' ∧ e = .returned (.bool true)
set_option maxRecDepth 100000 in
set_option maxHeartbeats 8000000 in
theorem eqf_t (xs : List Tr) (ih : ∀ x ∈ xs, SameC x) (w : World) (v1 v2 : Value) (h1 : ItsV w (fun b => b < w.heap.size) v1 xs) (h2 : ItsV w (fun b => b < w.heap.size) v2 xs) :
    Calls Try.prog 46 #[v1, v2, .func (.func 27) #[] #[]] w fun e w' => Below w.heap.size w w' ∧ e = .returned (.bool true) := by
  obtain ⟨a1, c1, rfl, i1, i2, i3⟩ := h1.form
  obtain ⟨a2, c2, rfl, k1, k2, k3⟩ := h2.form
  have H1 : Hid (ItsV w (fun b => b < w.heap.size) (.slice a1 xs.length c1) xs ∧ ItsV w (fun b => b < w.heap.size) (.slice a2 xs.length c2) xs) := ⟨h1, h2⟩
  have IH : Hid _ := ih
  obtain ⟨n, hn⟩ : ∃ n, n = xs.length := ⟨_, rfl⟩
  rw [← hn] at H1 i1 i3 k1 ⊢
  have HN : Hid (n = xs.length) := hn
  have eg : ∀ (args : Array Value) (w : World), (callFunc 27 args).run Try.prog w = .ok (.enter 27 args) w := enters_of Try.func27 (by kernel_rfl) rfl
  clear h1 h2 ih hn k3
  go_enter Try.func46, Try.ntmps46
  go_wp2_with fail
  go_loopw [17] (fun i wr => ∃ j : Nat, j ≤ n ∧ i = .int .i64 j ∧ Below w.heap.size w wr) (fun i _ => n - (intOf i).toNat)
  case atStart => exact ⟨0, Nat.zero_le _, rfl, Below.refl _ _⟩
  case round =>
    obtain ⟨j, hj, rfl, hb⟩ := hrel
    by_cases hjl : j < n
    · obtain ⟨y, hy⟩ : ∃ y, xs[j]? = some y := ⟨_, List.getElem?_eq_getElem (by have := HN.out; omega)⟩
      obtain ⟨g, o, sb', si', rfl, hg, p0, p1, p2, hbb, hii⟩ := H1.out.1.at hy
      obtain ⟨g', o', sb'', si'', rfl, hg', q0, q1, q2, hbb', hii'⟩ := H1.out.2.at hy
      obtain ⟨ab, cb, rfl⟩ := hbb.is.form
      obtain ⟨ai, ci, rfl, -⟩ := hii.form
      obtain ⟨ab', cb', rfl⟩ := hbb'.is.form
      obtain ⟨ai', ci', rfl, -⟩ := hii'.form
      obtain ⟨yl, hyl⟩ : ∃ yl, yl = y.l := ⟨_, rfl⟩
      obtain ⟨yn, hyn⟩ : ∃ yn, yn = y.b.length := ⟨_, rfl⟩
      obtain ⟨ym, hym⟩ : ∃ ym, ym = y.xs.length := ⟨_, rfl⟩
      have p0 : wr.cell? ⟨g, o + j * 3, none⟩ = some (.bool y.l) := (hb.cell (p := ⟨g, o + j * 3, none⟩) hg).trans p0
      have p1 : wr.cell? ⟨g, o + j * 3 + 1, none⟩ = some (.slice ab y.b.length cb) := (hb.cell (p := ⟨g, o + j * 3 + 1, none⟩) hg).trans p1
      have p2 : wr.cell? ⟨g, o + j * 3 + 2, none⟩ = some (.slice ai y.xs.length ci) := (hb.cell (p := ⟨g, o + j * 3 + 2, none⟩) hg).trans p2
      have q0 : wr.cell? ⟨g', o' + j * 3, none⟩ = some (.bool y.l) := (hb.cell (p := ⟨g', o' + j * 3, none⟩) hg').trans q0
      have q1 : wr.cell? ⟨g', o' + j * 3 + 1, none⟩ = some (.slice ab' y.b.length cb') := (hb.cell (p := ⟨g', o' + j * 3 + 1, none⟩) hg').trans q1
      have q2 : wr.cell? ⟨g', o' + j * 3 + 2, none⟩ = some (.slice ai' y.xs.length ci') := (hb.cell (p := ⟨g', o' + j * 3 + 2, none⟩) hg').trans q2
      rw [← hyl] at p0 q0
      rw [← hyn] at p1 q1
      rw [← hym] at p2 q2
      have hgw : g < wr.heap.size := Nat.lt_of_lt_of_le hg hb.size
      have hgw' : g' < wr.heap.size := Nat.lt_of_lt_of_le hg' hb.size
      have hb2 : Below wr.heap.size wr ((wr.alloc (.cells #[.bool yl, .slice ab yn cb, .slice ai ym ci] 31)).alloc (.cells #[.bool yl, .slice ab' yn cb', .slice ai' ym ci'] 31)) := by go_grown
      have hb3 : Below w.heap.size w ((wr.alloc (.cells #[.bool yl, .slice ab yn cb, .slice ai ym ci] 31)).alloc (.cells #[.bool yl, .slice ab' yn cb', .slice ai' ym ci'] 31)) := hb.trans (hb2.mono hb.size)
      have hC := IH.out y (List.mem_of_getElem? hy) ((wr.alloc (.cells #[.bool yl, .slice ab yn cb, .slice ai ym ci] 31)).alloc (.cells #[.bool yl, .slice ab' yn cb', .slice ai' ym ci'] 31)) (.slice ab y.b.length cb) (.slice ai y.xs.length ci) (.slice ab' y.b.length cb') (.slice ai' y.xs.length ci') (ItV.mono ⟨hbb, hii⟩ (fun b hb' => hb3.block b hb') (fun b hb' => Nat.lt_of_lt_of_le hb' hb3.size)) (ItV.mono ⟨hbb', hii'⟩ (fun b hb' => hb3.block b hb') (fun b hb' => Nat.lt_of_lt_of_le hb' hb3.size))
      rw [← hyl, ← hyn, ← hym] at hC
      have HC : Hid _ := hC
      have HR : Hid (Below w.heap.size w ((wr.alloc (.cells #[.bool yl, .slice ab yn cb, .slice ai ym ci] 31)).alloc (.cells #[.bool yl, .slice ab' yn cb', .slice ai' ym ci'] 31))) := hb3
      have hki : (j : Int) < n := by omega
      clear hC hy hb hb2 hb3 hbb hii hbb' hii' hyl hyn hym hg hg'
      go_wp2_with fail
      refine Calls.mono HC.out ?_
      rintro e w2 ⟨hb2, rfl⟩
      have H3 : Hid (Below w.heap.size w w2) := HR.out.trans (hb2.mono HR.out.size)
      clear hb2
      go_wp2
      go_roundw
      case rel => exact ⟨j + 1, by omega, by go_num, H3.out⟩
      case measure => simp [intOf]; omega
    · have hki : ¬ (j : Int) < n := by omega
      have H3 : Hid (Below w.heap.size w wr) := hb
      clear hb
      go_wp2
      go_ret
      exact ⟨H3.out, rfl⟩
set_option maxRecDepth 100000 in
set_option maxHeartbeats 8000000 in
/-- rlp.Same of the same. -/
theorem same_t (x : Tr) : SameC x := by
  induction x using Tr.ind with
  | h l b xs ih =>
    intro w sb1 si1 sb2 si2 h1 h2
    show Calls Try.prog 27 #[.agg #[.bool l, sb1, si1], .agg #[.bool l, sb2, si2]] w _
    obtain ⟨a1, c1, rfl⟩ : ∃ a cap, sb1 = .slice a b.length cap := h1.b.is.form
    obtain ⟨a2, c2, rfl⟩ : ∃ a cap, sb2 = .slice a b.length cap := h2.b.is.form
    obtain ⟨d1, e1, rfl, -⟩ : ∃ a cap, si1 = .slice a xs.length cap ∧ xs.length ≤ cap ∧ cap ≤ 9223372036854775807 ∧ xs.length * 56 ≤ 140737488355328 := h1.xs.form
    obtain ⟨d2, e2, rfl, -⟩ : ∃ a cap, si2 = .slice a xs.length cap ∧ xs.length ≤ cap ∧ cap ≤ 9223372036854775807 ∧ xs.length * 56 ≤ 140737488355328 := h2.xs.form
    obtain ⟨n, hn⟩ : ∃ n, n = xs.length := ⟨_, rfl⟩
    obtain ⟨m, hm⟩ : ∃ m, m = b.length := ⟨_, rfl⟩
    have H1 : Hid (ItV w (fun b => b < w.heap.size) (.slice a1 m c1) (.slice d1 n e1) (.mk l b xs) ∧ ItV w (fun b => b < w.heap.size) (.slice a2 m c2) (.slice d2 n e2) (.mk l b xs)) := by rw [hn, hm]; exact ⟨h1, h2⟩
    have IH : Hid (∀ x ∈ xs, SameC x) := ih
    rw [← hn, ← hm]
    clear h1 h2 ih hn hm
    have hb2 : Below w.heap.size w ((w.alloc (.cells #[.bool l, .slice a1 m c1, .slice d1 n e1] 31)).alloc (.cells #[.bool l, .slice a2 m c2, .slice d2 n e2] 31)) := by go_grown
    have k1 : ItV ((w.alloc (.cells #[.bool l, .slice a1 m c1, .slice d1 n e1] 31)).alloc (.cells #[.bool l, .slice a2 m c2, .slice d2 n e2] 31)) (fun b => b < ((w.alloc (.cells #[.bool l, .slice a1 m c1, .slice d1 n e1] 31)).alloc (.cells #[.bool l, .slice a2 m c2, .slice d2 n e2] 31)).heap.size) (.slice a1 m c1) (.slice d1 n e1) (.mk l b xs) := H1.out.1.mono (fun b hb' => hb2.block b hb') (fun b hb' => Nat.lt_of_lt_of_le hb' hb2.size)
    have k2 : ItV ((w.alloc (.cells #[.bool l, .slice a1 m c1, .slice d1 n e1] 31)).alloc (.cells #[.bool l, .slice a2 m c2, .slice d2 n e2] 31)) (fun b => b < ((w.alloc (.cells #[.bool l, .slice a1 m c1, .slice d1 n e1] 31)).alloc (.cells #[.bool l, .slice a2 m c2, .slice d2 n e2] 31)).heap.size) (.slice a2 m c2) (.slice d2 n e2) (.mk l b xs) := H1.out.2.mono (fun b hb' => hb2.block b hb') (fun b hb' => Nat.lt_of_lt_of_le hb' hb2.size)
    have HE : Hid _ := equal_t k1.b.is k2.b.is
    have HF : Hid _ := eqf_t xs IH.out _ _ _ k1.xs k2.xs
    have HB : Hid _ := hb2
    have T1 : Hid True := trivial
    clear k1 k2 hb2
    have hll : (l == l) = true := by simp
    go_enter Try.func27, Try.ntmps27
    go_wp2_with (first
      | (have _ := T1
         go_at_call 45
         clear T1
         refine Calls.mono HE.out ?_
         rintro e w2 ⟨rfl, rfl⟩
         have T2 : Hid True := trivial)
      | (have _ := T2
         go_at_call 46
         clear T2
         refine Calls.mono HF.out ?_
         rintro e w3 ⟨hb3, rfl⟩))
    go_ret
    exact ⟨HB.out.trans (hb3.mono HB.out.size), rfl⟩
end Go.Proofs.Ytmnlcpfehbpogaa
/- rlp: Str, Num, Big, List. -/
namespace Go.Proofs.Ytmnlcpfehbpogaa
open Go.RowKit Go.Maps Go.Joins
set_option linter.unusedSimpArgs false
set_option linter.unusedVariables false
/-- A result in a block, stored last. -/
theorem res31 {w3 : World} {b : Nat} {x y z x' y' z' : Value} (fn : Func) (tmps : Array Value) (hr : fn.results = #[.cell 2 31]) (h0 : w3.heap[b]? = some (.cells #[x, y, z] 31)) (h2 : tmps[2]? = some (.pointer (some ⟨b, 0, none⟩))) :
    (results fn tmps).run Try.prog (((w3.setCell ⟨b, 0, none⟩ x').setCell ⟨b, 1, none⟩ y').setCell ⟨b, 2, none⟩ z') = .ok (.agg #[x', y', z']) (((w3.setCell ⟨b, 0, none⟩ x').setCell ⟨b, 1, none⟩ y').setCell ⟨b, 2, none⟩ z') := by
  have hl := load31 (set31 h0 (x' := x') (y' := y') (z' := z'))
  simp [results, hr, asAddr, h2, hl]
theorem fin31 {w w1 : World} {sb si u : Value} {x : Tr} (hb : Below w.heap.size w w1) (hit : ItV w1 (fun b => w.heap.size + 1 ≤ b ∧ b < w1.heap.size) sb si x) :
    Below w.heap.size w (((w1.setCell ⟨w.heap.size, 0, none⟩ u).setCell ⟨w.heap.size, 1, none⟩ sb).setCell ⟨w.heap.size, 2, none⟩ si) ∧ ItV (((w1.setCell ⟨w.heap.size, 0, none⟩ u).setCell ⟨w.heap.size, 1, none⟩ sb).setCell ⟨w.heap.size, 2, none⟩ si) (fun b => w.heap.size ≤ b ∧ b < (((w1.setCell ⟨w.heap.size, 0, none⟩ u).setCell ⟨w.heap.size, 1, none⟩ sb).setCell ⟨w.heap.size, 2, none⟩ si).heap.size) sb si x :=
  ⟨set31_below hb (Nat.le_refl _) _ _ _, hit.mono (fun b hb' => set31_other _ _ _ _ _ _ (by have := hb'.1; omega)) (fun b hb' => ⟨by have := hb'.1; omega, by rw [set31_size]; exact hb'.2⟩)⟩
set_option maxRecDepth 100000 in
set_option maxHeartbeats 4000000 in
/-- rlp.Str -/
theorem str_any {w : World} {v : Value} {bs : List Int} (h : BytesV w v bs) (hl : bs.length ≤ 140737488355328) :
    Calls Try.prog 36 #[v] w fun e w' => Below w.heap.size w w' ∧ ∃ sb, e = .returned (.agg #[.bool false, sb, .slice none 0 0]) ∧ ItV w' (fun b => w.heap.size ≤ b ∧ b < w'.heap.size) sb (.slice none 0 0) (.mk false bs []) := by
  have hb : Below w.heap.size w (w.alloc (.cells #[.bool false, .slice none 0 0, .slice none 0 0] 31)) := by go_grown
  have HC : Hid _ := bclone_any v bs (h.below hb) hl
  have h0 : (w.alloc (.cells #[.bool false, .slice none 0 0, .slice none 0 0] 31)).heap[w.heap.size]? = some (.cells #[.bool false, .slice none 0 0, .slice none 0 0] 31) := heap_alloc_new _ _
  have hsz : (w.alloc (.cells #[.bool false, .slice none 0 0, .slice none 0 0] 31)).heap.size = w.heap.size + 1 := by simp
  obtain ⟨a, c, rfl⟩ := h.form
  have HL : Hid (bs.length ≤ 140737488355328) := hl
  clear h hl
  go_enter Try.func36, Try.ntmps36
  go_wp2_with fail
  refine Calls.mono HC.out ?_
  rintro e w1 ⟨v', rfl, ho, hb1⟩
  obtain ⟨a', c', rfl⟩ := row_form ho
  have k0 := (hb1.block w.heap.size (by rw [hsz]; omega)).trans h0
  have a0 : w1.cell? ⟨w.heap.size, 0, none⟩ = some (.bool false) := (cell_of_block k0 0).trans rfl
  have a1 : w1.cell? ⟨w.heap.size, 1, none⟩ = some (.slice none 0 0) := (cell_of_block k0 1).trans rfl
  have a2 : w1.cell? ⟨w.heap.size, 2, none⟩ = some (.slice none 0 0) := (cell_of_block k0 2).trans rfl
  have az := fun k => unfrozen_of_block k0 k
  have hf := fin31 (u := .bool false) (sb := .slice a' bs.length c') (si := .slice none 0 0) (x := .mk false bs []) (hb.trans (hb1.mono hb.size)) ⟨BytD.of_own ho (fun b h1 h2 => ⟨by rw [hsz] at h1; exact h1, h2⟩) HL.out, ItsV.empty _ _⟩
  have HF : Hid _ := hf
  have HK : Hid _ := k0
  clear hf k0 ho hb1 h0 hsz hb HC
  go_wp2
  exact ⟨rfl, _, res31 _ _ rfl HK.out rfl, HF.out.1, _, rfl, HF.out.2⟩
/-- The number's bytes. -/
theorem short_b {w : World} (a0 a1 a2 a3 : Int) (ha : Wd.L4 a0 a1 a2 a3) (n : Nat) (hn : Wd.num a0 a1 a2 a3 = n) :
    Calls Try.prog 43 #[Wd.W4 a0 a1 a2 a3] w fun e w' => ∃ v, e = .returned v ∧ w'.ownsRow w.heap.size 5 1 v (shortB n).length (vB (shortB n)) ∧ Below w.heap.size w w' ∧ (shortB n).length ≤ 32 := by
  refine (Wd.short_any a0 a1 a2 a3 ha w).mono ?_
  rintro e w2 ⟨l, hl, hlen, b, rfl, hbb, hrow, hb2⟩
  rw [hn] at hlen hrow
  have hs := shortB_at l n hlen.out
  have hsl : (shortB n).length = l := by rw [hs]; simp
  refine ⟨_, rfl, ?_, hb2, by rw [hsl]; exact hl⟩
  exact ownsRow_of_rowIs hbb hl hsl (hrow.congr (fun j hj => by
    rw [hs]
    simp [vB, List.getD_eq_getElem?_getD, hj]))
set_option maxRecDepth 100000 in
set_option maxHeartbeats 4000000 in
/-- rlp.Big -/
theorem big_any {w : World} (a0 a1 a2 a3 : Int) (ha : Wd.L4 a0 a1 a2 a3) (n : Nat) (hn : Wd.num a0 a1 a2 a3 = n) :
    Calls Try.prog 25 #[Wd.W4 a0 a1 a2 a3] w fun e w' => Below w.heap.size w w' ∧ ∃ sb, e = .returned (.agg #[.bool false, sb, .slice none 0 0]) ∧ ItV w' (fun b => w.heap.size ≤ b ∧ b < w'.heap.size) sb (.slice none 0 0) (.mk false (shortB n) []) := by
  have hb : Below w.heap.size w ((w.alloc (.cells #[.int .u64 a0, .int .u64 a1, .int .u64 a2, .int .u64 a3] 50)).alloc (.cells #[.bool false, .slice none 0 0, .slice none 0 0] 31)) := by go_grown
  have HC : Hid _ := short_b (w := ((w.alloc (.cells #[.int .u64 a0, .int .u64 a1, .int .u64 a2, .int .u64 a3] 50)).alloc (.cells #[.bool false, .slice none 0 0, .slice none 0 0] 31))) a0 a1 a2 a3 ha n hn
  have h0 : ((w.alloc (.cells #[.int .u64 a0, .int .u64 a1, .int .u64 a2, .int .u64 a3] 50)).alloc (.cells #[.bool false, .slice none 0 0, .slice none 0 0] 31)).heap[w.heap.size + 1]? = some (.cells #[.bool false, .slice none 0 0, .slice none 0 0] 31) := by have := heap_alloc_new (w.alloc (.cells #[.int .u64 a0, .int .u64 a1, .int .u64 a2, .int .u64 a3] 50)) (.cells #[.bool false, .slice none 0 0, .slice none 0 0] 31); simpa using this
  have hsz : ((w.alloc (.cells #[.int .u64 a0, .int .u64 a1, .int .u64 a2, .int .u64 a3] 50)).alloc (.cells #[.bool false, .slice none 0 0, .slice none 0 0] 31)).heap.size = w.heap.size + 2 := by simp
  clear ha hn
  go_enter Try.func25, Try.ntmps25
  go_wp2_with fail
  refine Calls.mono HC.out ?_
  rintro e w1 ⟨v', rfl, ho, hb1, hl⟩
  obtain ⟨a', c', rfl⟩ := row_form ho
  have k0 := (hb1.block (w.heap.size + 1) (by rw [hsz]; omega)).trans h0
  have c0 : w1.cell? ⟨w.heap.size + 1, 0, none⟩ = some (.bool false) := (cell_of_block k0 0).trans rfl
  have c1 : w1.cell? ⟨w.heap.size + 1, 1, none⟩ = some (.slice none 0 0) := (cell_of_block k0 1).trans rfl
  have c2 : w1.cell? ⟨w.heap.size + 1, 2, none⟩ = some (.slice none 0 0) := (cell_of_block k0 2).trans rfl
  have az := fun k => unfrozen_of_block k0 k
  have hit : ItV w1 (fun b => w.heap.size + 2 ≤ b ∧ b < w1.heap.size) (.slice a' (shortB n).length c') (.slice none 0 0) (.mk false (shortB n) []) := ⟨BytD.of_own ho (fun b h1 h2 => ⟨by rw [hsz] at h1; exact h1, h2⟩) (by show (shortB n).length ≤ _; omega), ItsV.empty _ _⟩
  have HF : Hid (ItV w1 (fun b => w.heap.size + 2 ≤ b ∧ b < w1.heap.size) (.slice a' (shortB n).length c') (.slice none 0 0) (.mk false (shortB n) []) ∧ Below w.heap.size w w1) := ⟨hit, hb.trans (hb1.mono hb.size)⟩
  have HK : Hid _ := k0
  clear hit k0 ho hb1 h0 hsz hb HC
  go_wp2
  refine ⟨rfl, _, res31 _ _ rfl HK.out rfl, set31_below HF.out.2 (by omega) _ _ _, _, rfl, HF.out.1.mono (fun b hb' => set31_other _ _ _ _ _ _ (by have := hb'.1; omega)) (fun b hb' => ⟨by have := hb'.1; omega, by rw [set31_size]; exact hb'.2⟩)⟩
set_option maxRecDepth 100000 in
set_option maxHeartbeats 4000000 in
/-- rlp.Num -/
theorem num_any {w : World} (n : Nat) (hn : n < 18446744073709551616) :
    Calls Try.prog 23 #[.int .u64 n] w fun e w' => Below w.heap.size w w' ∧ ∃ sb, e = .returned (.agg #[.bool false, sb, .slice none 0 0]) ∧ ItV w' (fun b => w.heap.size ≤ b ∧ b < w'.heap.size) sb (.slice none 0 0) (.mk false (shortB n) []) := by
  have hb : Below w.heap.size w (w.alloc (.cells #[.bool false, .slice none 0 0, .slice none 0 0] 31)) := by go_grown
  have h0 : (w.alloc (.cells #[.bool false, .slice none 0 0, .slice none 0 0] 31)).heap[w.heap.size]? = some (.cells #[.bool false, .slice none 0 0, .slice none 0 0] 31) := heap_alloc_new _ _
  have hsz : (w.alloc (.cells #[.bool false, .slice none 0 0, .slice none 0 0] 31)).heap.size = w.heap.size + 1 := by simp
  have HC : Hid _ := Wd.of_any (n : Int) (w.alloc (.cells #[.bool false, .slice none 0 0, .slice none 0 0] 31))
  have hL : Wd.L4 (n : Int) 0 0 0 := ⟨⟨by omega, by omega⟩, ⟨by omega, by omega⟩, ⟨by omega, by omega⟩, ⟨by omega, by omega⟩⟩
  have hnum : Wd.num (n : Int) 0 0 0 = n := by unfold Wd.num; omega
  have HL : Hid (Wd.L4 (n : Int) 0 0 0 ∧ Wd.num (n : Int) 0 0 0 = n) := ⟨hL, hnum⟩
  clear hL hnum
  go_enter Try.func23, Try.ntmps23
  go_wp2_with fail
  refine Calls.mono HC.out ?_
  rintro e w1 ⟨rfl, hb1⟩
  go_wp2_with fail
  refine Calls.mono (big_any (n : Int) 0 0 0 HL.out.1 n HL.out.2) ?_
  rintro e w2 ⟨hb2, sb, rfl, hit⟩
  obtain ⟨a', c', rfl⟩ := hit.b.is.form
  have k0 := (hb2.block w.heap.size (by have := hb1.size; rw [hsz] at this; omega)).trans ((hb1.block w.heap.size (by rw [hsz]; omega)).trans h0)
  have c0 : w2.cell? ⟨w.heap.size, 0, none⟩ = some (.bool false) := (cell_of_block k0 0).trans rfl
  have c1 : w2.cell? ⟨w.heap.size, 1, none⟩ = some (.slice none 0 0) := (cell_of_block k0 1).trans rfl
  have c2 : w2.cell? ⟨w.heap.size, 2, none⟩ = some (.slice none 0 0) := (cell_of_block k0 2).trans rfl
  have az := fun k => unfrozen_of_block k0 k
  have hbw : Below w.heap.size w w2 := (hb.trans (hb1.mono hb.size)).trans (hb2.mono (by have := hb1.size; rw [hsz] at this; omega))
  have hf := fin31 (u := .bool false) hbw (hit.mono (fun _ _ => rfl) (fun b hb' => ⟨by have := hb'.1; have := hb1.size; rw [hsz] at this; omega, hb'.2⟩))
  have HF : Hid _ := hf
  have HK : Hid _ := k0
  clear hf k0 hit hb1 hb2 h0 hsz hb hbw HC
  go_wp2
  exact ⟨rfl, _, res31 _ _ rfl HK.out rfl, HF.out.1, _, rfl, HF.out.2⟩
end Go.Proofs.Ytmnlcpfehbpogaa
/- rlp: copies, List. -/
namespace Go.Proofs.Ytmnlcpfehbpogaa
open Go.RowKit Go.Maps Go.Joins
set_option linter.unusedSimpArgs false
set_option linter.unusedVariables false
def icZ : IC := ⟨.mk false [] [], .slice none 0 0, .slice none 0 0⟩
theorem icL_set : ∀ (M : List IC) (j : Nat) (f : IC), j < M.length → icL (M.set j f) = (icL M).take (j * 3) ++ icC f ++ (icL M).drop (j * 3 + 3)
  | [], j, f, h => by simp at h
  | g :: M, 0, f, h => by
    show icC f ++ icL M = (icC g ++ icL M).take (0 * 3) ++ icC f ++ (icC g ++ icL M).drop (0 * 3 + 3)
    simp [icC]
  | g :: M, j + 1, f, h => by
    show icC g ++ icL (M.set j f) = (icC g ++ icL M).take ((j + 1) * 3) ++ icC f ++ (icC g ++ icL M).drop ((j + 1) * 3 + 3)
    rw [icL_set M j f (by simpa using h)]
    rw [show (j + 1) * 3 = j * 3 + 1 + 1 + 1 from by omega, show j * 3 + 1 + 1 + 1 + 3 = j * 3 + 3 + 1 + 1 + 1 from by omega]
    simp [icC]
theorem set3w (L : List Value) (a : Nat) (x y z : Value) (h : a + 3 ≤ L.length) : ((L.set a x).set (a + 1) y).set (a + 2) z = L.take a ++ [x, y, z] ++ L.drop (a + 3) := by
  apply List.ext_getElem?
  intro i
  rw [List.append_assoc]
  by_cases h1 : i < a
  · rw [List.getElem?_set_ne (by omega), List.getElem?_set_ne (by omega), List.getElem?_set_ne (by omega), List.getElem?_append_left (by rw [List.length_take]; omega), List.getElem?_take, if_pos h1]
  · rw [List.getElem?_append_right (by rw [List.length_take]; omega), List.length_take, Nat.min_eq_left (by omega)]
    by_cases h2 : i < a + 3
    · have : i = a ∨ i = a + 1 ∨ i = a + 2 := by omega
      rcases this with rfl | rfl | rfl
      · rw [List.getElem?_set_ne (by omega), List.getElem?_set_ne (by omega), List.getElem?_set_self (by omega)]; simp
      · rw [List.getElem?_set_ne (by omega), List.getElem?_set_self (by simp; omega)]; simp
      · rw [List.getElem?_set_self (by simp; omega)]; simp
    · rw [List.getElem?_set_ne (by omega), List.getElem?_set_ne (by omega), List.getElem?_set_ne (by omega), List.getElem?_append_right (by simp; omega), List.getElem?_drop]
      congr 1
      simp
      omega
theorem row_put {w : World} {b j : Nat} {M : List IC} (f : IC) (h : w.heap[b]? = some (.cells (icL M).toArray 31)) (hj : j < M.length) :
    (((w.setCell ⟨b, j * 3, none⟩ (.bool f.x.l)).setCell ⟨b, j * 3 + 1, none⟩ f.sb).setCell ⟨b, j * 3 + 2, none⟩ f.si).heap[b]? = some (.cells (icL (M.set j f)).toArray 31) := by
  rw [heap_setCell_same _ b _ _ 31 _ (heap_setCell_same _ b _ _ 31 _ (heap_setCell_same _ b _ _ 31 _ h))]
  congr 2
  rw [icL_set M j f hj]
  have := set3w (icL M) (j * 3) (.bool f.x.l) f.sb f.si (by rw [icL_length]; omega)
  rw [show icC f = [.bool f.x.l, f.sb, f.si] from rfl, ← this]
  simp
theorem made_icL (n : Nat) : madeCells #[.bool false, .slice none 0 0, .slice none 0 0] (n * 3) = (icL (List.replicate n icZ)).toArray := by
  apply Array.ext'
  apply List.ext_getElem?
  intro i
  by_cases h : i < n * 3
  · have e : i = i / 3 * 3 + i % 3 := by omega
    have := icL_at (List.replicate n icZ) (i / 3) icZ (by rw [List.getElem?_replicate, if_pos (by omega)]) (i % 3) (Nat.mod_lt _ (by omega))
    rw [← e] at this
    show _ = (icL (List.replicate n icZ))[i]?
    rw [this]
    have h3 : i % 3 < 3 := Nat.mod_lt _ (by omega)
    simp only [madeCells, Array.getElem?_toList, Array.getElem?_map, Array.getElem?_range, if_pos h]
    rcases (by omega : i % 3 = 0 ∨ i % 3 = 1 ∨ i % 3 = 2) with e | e | e <;> simp [e, icC, icZ, Tr.l]
  · rw [List.getElem?_eq_none (by simp [madeCells]; omega), List.getElem?_eq_none (by simp [icL_length]; omega)]
/-- Within the rounds of copies. -/
structure CJ (w W : World) (n j : Nat) (xs : List Tr) (M : List IC) : Prop where
  len : M.length = n
  blk : W.heap[w.heap.size]? = some (.cells (icL M).toArray 31)
  it : ∀ i f, i < j → M[i]? = some f → ItV W (fun b => w.heap.size + 1 ≤ b ∧ b < W.heap.size) f.sb f.si f.x ∧ xs[i]? = some f.x
  bl : Below w.heap.size w W
theorem CJ.size {w W : World} {n j : Nat} {xs : List Tr} {M : List IC} (h : CJ w W n j xs M) : w.heap.size + 1 ≤ W.heap.size := heap_lt h.blk
theorem CJ.below {w W W2 : World} {n j : Nat} {xs : List Tr} {M : List IC} (h : CJ w W n j xs M) (hb : Below W.heap.size W W2) : CJ w W2 n j xs M :=
  ⟨h.len, (hb.block _ h.size).trans h.blk, fun i f hi hf => ⟨(h.it i f hi hf).1.mono (fun b hb' => hb.block b hb'.2) (fun b hb' => ⟨hb'.1, Nat.lt_of_lt_of_le hb'.2 hb.size⟩), (h.it i f hi hf).2⟩, h.bl.trans (hb.mono h.bl.size)⟩
theorem CJ.put {w W : World} {n j : Nat} {xs : List Tr} {M : List IC} (h : CJ w W n j xs M) (hj : j < n) (f : IC) (hf : ItV W (fun b => w.heap.size + 1 ≤ b ∧ b < W.heap.size) f.sb f.si f.x) (hx : xs[j]? = some f.x) :
    CJ w (((W.setCell ⟨w.heap.size, j * 3, none⟩ (.bool f.x.l)).setCell ⟨w.heap.size, j * 3 + 1, none⟩ f.sb).setCell ⟨w.heap.size, j * 3 + 2, none⟩ f.si) n (j + 1) xs (M.set j f) := by
  have ho : ∀ b, b ≠ w.heap.size → (((W.setCell ⟨w.heap.size, j * 3, none⟩ (.bool f.x.l)).setCell ⟨w.heap.size, j * 3 + 1, none⟩ f.sb).setCell ⟨w.heap.size, j * 3 + 2, none⟩ f.si).heap[b]? = W.heap[b]? := fun b hb => by
    rw [Below.heap_setCell _ _ _ _ hb, Below.heap_setCell _ _ _ _ hb, Below.heap_setCell _ _ _ _ hb]
  have hs : (((W.setCell ⟨w.heap.size, j * 3, none⟩ (.bool f.x.l)).setCell ⟨w.heap.size, j * 3 + 1, none⟩ f.sb).setCell ⟨w.heap.size, j * 3 + 2, none⟩ f.si).heap.size = W.heap.size := by simp
  have hm : ∀ {sb si : Value} {x : Tr}, ItV W (fun b => w.heap.size + 1 ≤ b ∧ b < W.heap.size) sb si x → ItV (((W.setCell ⟨w.heap.size, j * 3, none⟩ (.bool f.x.l)).setCell ⟨w.heap.size, j * 3 + 1, none⟩ f.sb).setCell ⟨w.heap.size, j * 3 + 2, none⟩ f.si) (fun b => w.heap.size + 1 ≤ b ∧ b < (((W.setCell ⟨w.heap.size, j * 3, none⟩ (.bool f.x.l)).setCell ⟨w.heap.size, j * 3 + 1, none⟩ f.sb).setCell ⟨w.heap.size, j * 3 + 2, none⟩ f.si).heap.size) sb si x := fun h9 => h9.mono (fun b hb => ho b (by have := hb.1; omega)) (fun b hb => ⟨hb.1, by rw [hs]; exact hb.2⟩)
  refine ⟨by rw [List.length_set]; exact h.len, row_put f h.blk (by rw [h.len]; exact hj), fun i g hi hg => ?_, ((h.bl.setCell (p := ⟨w.heap.size, j * 3, none⟩) (Nat.le_refl _) _).setCell (p := ⟨w.heap.size, j * 3 + 1, none⟩) (Nat.le_refl _) _).setCell (p := ⟨w.heap.size, j * 3 + 2, none⟩) (Nat.le_refl _) _⟩
  by_cases e : i = j
  · subst e
    rw [List.getElem?_set_self (by rw [h.len]; exact hj)] at hg
    injection hg with hg
    subst hg
    exact ⟨hm hf, hx⟩
  · rw [List.getElem?_set_ne (by omega)] at hg
    have := h.it i g (by omega) hg
    exact ⟨hm this.1, this.2⟩
/-- All is done: items. -/
theorem CJ.done {w W : World} {xs : List Tr} {M : List IC} (h : CJ w W xs.length xs.length xs M) (hl : xs.length * 56 ≤ 140737488355328) : ItsV W (fun b => w.heap.size ≤ b ∧ b < W.heap.size) (.slice (some ⟨w.heap.size, 0, none⟩) xs.length xs.length) xs := by
  have hM : M.map IC.x = xs := by
    apply List.ext_getElem?
    intro i
    rw [List.getElem?_map]
    cases hi : M[i]? with
    | none => rw [List.getElem?_eq_none (by have := List.getElem?_eq_none_iff.1 hi; have := h.len; omega)]; rfl
    | some f => exact ((h.it i f (by have := (List.getElem?_eq_some_iff.1 hi).1; have := h.len; omega) hi).2).symm
  have hrow : W.ownsRow w.heap.size 31 3 (.slice (some ⟨w.heap.size, 0, none⟩) xs.length xs.length) M.length (icL M) := by
    rw [h.len]
    refine ⟨by rw [icL_length, h.len], Or.inr ⟨w.heap.size, xs.length, _, rfl, Nat.le_refl _, h.blk, Nat.le_refl _, by unfold maxLen; omega, by simp [icL_length, h.len], ?_⟩⟩
    rw [List.take_of_length_le (by simp [icL_length, h.len])]
  have := row_its hrow (D := fun b => w.heap.size ≤ b ∧ b < W.heap.size) (fun f hf => by
    obtain ⟨i, hi⟩ := List.getElem?_of_mem hf
    exact (h.it i f (by have := (List.getElem?_eq_some_iff.1 hi).1; have := h.len; omega) hi).1.mono (fun _ _ => rfl) (fun b hb => ⟨by have := hb.1; omega, hb.2⟩)) (fun b hb => hrow.lt b hb) (by rw [h.len]; exact hl)
  rw [hM] at this
  exact this
end Go.Proofs.Ytmnlcpfehbpogaa
