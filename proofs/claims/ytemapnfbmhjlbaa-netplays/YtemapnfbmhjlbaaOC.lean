/- net: the law's example. -/
import Derived.Test.YtemapnfbmhjlbaaOB
import Derived.Laws.BytesArg
import Derived.Laws.BytesString
namespace Go.Proofs.Ytemapnfbmhjlbaa
open Go.RowKit Go.Maps Go.Joins
set_option linter.unusedSimpArgs false
set_option linter.unusedVariables false
theorem conv_any {w : World} {ad : Addr} {cap : Nat} {xs : List Int} (h : ∀ j u, (vB xs)[j]? = some u → w.cell? (ad.add j) = some u) : (convert 30 9 (.slice (some ad) xs.length cap)).run Try.prog w = .ok (.string (strOfNums xs)) w := by
  have hl : (loadCells ad xs.length).run Try.prog w = .ok (xs.map (Value.int .u8)).toArray w := by
    have := run_loadCells_list (P := Try.prog) w ad (vB xs) (fun j v hj => h j v hj)
    simpa [vB] using this
  rw [run_convert_bytes_string w 30 9 5 _ xs.length cap Try.underlying30 Try.underlying5 Try.underlying9, run_bytesToString w _ xs.length cap xs hl, foldl_push_bytes]
  simp [strOfNums, ByteArray.empty, ByteArray.emptyWithCapacity]
  rfl
theorem conv_b {w : World} {v : Value} {xs : List Int} (hv : BytesV w v xs) : (convert 30 9 v).run Try.prog w = .ok (.string (strOfNums xs)) w := by
  rcases hv with ⟨rfl, rfl⟩ | ⟨ad, cap, rfl, hc⟩
  · exact run_convert_bytes_nil w 30 5 Try.underlying30 Try.underlying5 0 0 9 Try.underlying9
  · exact conv_any hc
/-- Same of the same bytes. -/
theorem same_b {w : World} {a b : Value} {xs : List Int} (ha : BytesV w a xs) (hb : BytesV w b xs) : Calls Try.prog 28 #[a, b] w fun e w' => e = .returned (.bool true) ∧ w' = w := by
  have h1 := conv_b ha
  have h2 := conv_b hb
  obtain ⟨_, _, rfl⟩ := ha.form
  obtain ⟨_, _, rfl⟩ := hb.form
  clear ha hb
  go_enter Try.func28, Try.ntmps28
  go_wp2
  go_ret
  exact ⟨by simp, rfl⟩
theorem NFr.outer {w w1 w' : World} {N N' : NS} (hb : Below w.heap.size w w1) (ho : ∀ g, g < w.heap.size → N.own g = 0) (h : NFr w1 w' N N') : Below w.heap.size w w' :=
  ⟨h.os.trans hb.os, h.tape.trans hb.tape, h.output.trans hb.output, Nat.le_trans hb.size h.size, fun k hk => (h.block k (Nat.lt_of_lt_of_le hk hb.size) (ho k hk)).trans (hb.block k hk)⟩
theorem newN_own {b : Nat} {n : Int} {g : Nat} (h : g < b) : (newN b n).own g = 0 := if_neg (by omega)
def A0 (n : Int) : NA := ⟨n, 0, 0, [], []⟩
theorem absN_new (b : Nat) (n : Int) : absN (newN b n) = A0 n := rfl
theorem al1 : nSet (A0 2) 0 7 5 = (0, { A0 2 with tm := [⟨0, 7, 5⟩] }) := by simp [nSet, A0, isB, insT, slot]
theorem al2 : nTick { A0 2 with tm := [⟨0, 7, 5⟩] } 3 = ([], { A0 2 with clk := 3, tm := [⟨0, 7, 5⟩] }) := by rfl
theorem al3 : nTick { A0 2 with clk := 3, tm := [⟨0, 7, 5⟩] } 3 = ([⟨0, 7, 5⟩], { A0 2 with clk := 5 }) := by rfl
theorem al4 : nSend { A0 2 with clk := 5 } 0 1 [120] = (0, { A0 2 with next := 1, clk := 5, fl := [(0, 0, 1, [120])] }) := by simp [nSend, A0, isB, nPut]
theorem al5 : nTake { A0 2 with next := 1, clk := 5, fl := [(0, 0, 1, [120])] } 0 = (0, (0, 0, 1, [120]), { A0 2 with next := 1, clk := 5 }) := by simp [nTake, A0]
end Go.Proofs.Ytemapnfbmhjlbaa
