/- The arguments of layer 12's laws: bytes, words in a row. -/
import Derived.Test.YtlpmmejdfenkiaaOP
import Derived.Test.YtlpmmejdfenkiaaGL
import Derived.Test.YtlpmmejdfenkiaaGF
import Derived.ChangeMaps5
import Derived.Deep.Slices
import Derived.Deep.Fields
namespace Go.Proofs.Ytlpmmejdfenkiaa
open Go.Deep Go.ChangeShapes Go.WideShapes Go.ChangeAt Go.WideElems Go.RowKit Go.ChangeMaps
set_option linter.unusedVariables false
set_option linter.unusedSimpArgs false
theorem cells5 : Try.prog.cellsOf 5 = 1 := by kernel_rfl
theorem bytes5 : Try.prog.bytesOf 5 = 1 := by kernel_rfl
theorem u8_of {x : Int} (h : (Lit.int .u8 x).wf = true) : 0 ≤ x ∧ x < 256 := by
  simp [Lit.wf, IntKind.min, IntKind.max, IntKind.signed, IntKind.bits] at h
  exact ⟨by omega, by omega⟩
theorem cell_lt {w : World} {p : Addr} {v : Value} (h : w.cell? p = some v) : p.block < w.heap.size := by
  rcases Nat.lt_or_ge p.block w.heap.size with h1 | h1
  · exact h1
  · have : w.heap[p.block]? = none := Array.getElem?_eq_none h1
    simp [World.cell?, this] at h
theorem cells_slice {a a' : Option Addr} {l l' c c' : Nat} (h : (Value.slice a l c).cells.toList = [.slice a' l' c']) : Value.slice a l c = .slice a' l' c' := by
  simpa [Value.cells] using h
theorem trodAll_mk5 {H : Type} {enc : TypeId × Value → H} {P : Program} {w : World} {base : Nat} {spare : Nat → Bool} {held : Bool} {t t1 t2 t3 t4 : TypeId} {v v1 v2 v3 v4 : Value} {d d1 d2 d3 d4 : DataW H} {p p1 p2 p3 p4 : List MemPlace} (h : DataW.Trod enc P w base spare held t v d p) (h1 : DataW.Trod enc P w base spare held t1 v1 d1 p1) (h2 : DataW.Trod enc P w base spare held t2 v2 d2 p2) (h3 : DataW.Trod enc P w base spare held t3 v3 d3 p3) (h4 : DataW.Trod enc P w base spare held t4 v4 d4 p4) :
    DataW.TrodAll enc P w base spare held [t, t1, t2, t3, t4] [v, v1, v2, v3, v4] [d, d1, d2, d3, d4] (p ++ (p1 ++ (p2 ++ (p3 ++ p4)))) := ⟨p, p1 ++ (p2 ++ (p3 ++ p4)), h, trodAll_mk4 h1 h2 h3 h4, rfl⟩
section
variable {H : Type} {enc : TypeId × Value → H} {W : World}
/-- Bytes. -/
theorem open_data {fuel : Nat} {cs : List Value} {x : DataW H × List MemPlace} (h : DataW.trod enc Try.prog W 0 (fun _ => true) true fuel 28 cs = some x) (hsz : ∀ n ∈ x.1.weights Try.prog 28, n ≤ reachBytes) :
    ∃ sa n cap f, cs = [.slice sa n cap] ∧ DataV W sa n f ∧ n ≤ 140737488351232 := by
  have hr : reachBytes = 140737488351232 := rfl
  rcases open_ints Try.underlying28 Try.underlying5 cells5 h with ⟨rfl, rfl⟩ | ⟨a, len, cap, zs, rfl, _, hl, hm, hz, rfl, hcell, hwz⟩
  · exact ⟨none, 0, 0, fun _ => 0, rfl, fun k hk => by omega, by omega⟩
  · simp only [if_true] at hz
    have hw : (len + (zs.length - len)) * 1 ≤ reachBytes := by
      refine hsz _ ?_
      simp [DataW.weights, Try.underlying28, bytes5, lits, Nat.min_eq_left (show len ≤ zs.length by omega)]
    refine ⟨some a, len, cap, fun k => zs.getD k 0, rfl, fun k hk => ?_, by omega⟩
    have h1 := hcell k (by omega)
    have hb := cell_lt h1
    rw [add_block] at hb
    obtain ⟨b0, b1⟩ := u8_of (hwz (zs.getD k 0) (by simp [List.getD, List.getElem?_eq_getElem (show k < zs.length by omega)]))
    exact ⟨a, rfl, hb, h1, b0, b1⟩
/-- One word. -/
theorem open_w {fuel : Nat} {cs : List Value} {x : DataW H × List MemPlace} (hl : cs.length = 4) (h : DataW.trod enc Try.prog W 0 (fun _ => true) true fuel 30 cs = some x) : ∃ q : Wq, cs = wC q ∧ q.ok := by
  obtain ⟨c0, c1, c2, c3, rfl⟩ := list4 cs (by simpa using hl)
  obtain ⟨y0, y1, y2, y3, m, hx, hy0, hy1, hy2, hy3⟩ := trod_array4 Try.underlying30 Try.cells22 h
  obtain ⟨x0, e0, rfl, w0⟩ := DataW.trod_int Try.underlying22 hy0
  obtain ⟨x1, e1, rfl, w1⟩ := DataW.trod_int Try.underlying22 hy1
  obtain ⟨x2, e2, rfl, w2⟩ := DataW.trod_int Try.underlying22 hy2
  obtain ⟨x3, e3, rfl, w3⟩ := DataW.trod_int Try.underlying22 hy3
  simp at e0 e1 e2 e3
  subst e0 e1 e2 e3
  exact ⟨⟨x0, x1, x2, x3⟩, rfl, u64_of w0, u64_of w1, u64_of w2, u64_of w3⟩
/-- Words. -/
theorem open_ws {fuel : Nat} {cs : List Value} {x : DataW H × List MemPlace} (h : DataW.trod enc Try.prog W 0 (fun _ => true) true fuel 42 cs = some x) :
    ∃ sa n cap ws, cs = [.slice sa n cap] ∧ ws.length = n ∧ WordsV W sa n cap ws ∧ ∀ q ∈ ws, q.ok := by
  rcases open_slice Try.underlying42 h with ⟨rfl, _⟩ | ⟨a, len, cap, m, n, D, Pl, rfl, _, hl, hcap, hm, hx, hel⟩
  · exact ⟨none, 0, 0, [], rfl, rfl, ⟨fun _ => ⟨rfl, rfl⟩, fun ad e => by cases e⟩, by simp⟩
  · simp only [if_true] at hm
    subst hm
    have hX : ∀ i, i < len → ∃ q : Wq, q.ok ∧ ∀ j, j < 4 → W.cell? (a.add (i * 4 + j)) = (wC q)[j]? := fun i hi => by
      obtain ⟨cs', hcs, ht⟩ := hel i (by omega)
      rw [Try.cells30] at hcs
      obtain ⟨_, hlen, hcell⟩ := World.cells?_some hcs
      obtain ⟨q, rfl, hq⟩ := open_w hlen ht
      refine ⟨q, hq, fun j hj => ?_⟩
      have h9 := hcell j (by omega)
      obtain ⟨g, o, spot⟩ := a
      have hspot : spot = none := by
        obtain ⟨cs0, hcs0, ht0⟩ := hel 0 (by omega)
        rw [Try.cells30] at hcs0
        obtain ⟨_, hl0, hc0⟩ := World.cells?_some hcs0
        obtain ⟨q0, rfl, _⟩ := open_w hl0 ht0
        have h2 := World.cell?_spot ((hc0 0 (by omega)).trans (show (wC q0)[0]? = some (.int .u64 q0.x0) from rfl))
        simpa [Addr.add] using h2
      subst hspot
      rw [Addr.add_lit, Addr.add_lit] at h9
      rw [Addr.add_lit, ← Nat.add_assoc, h9]
    obtain ⟨X, hXX⟩ : ∃ X : Nat → Wq, ∀ i, i < len → (X i).ok ∧ ∀ j, j < 4 → W.cell? (a.add (i * 4 + j)) = (wC (X i))[j]? := by
      refine ⟨fun i => if hi : i < len then (hX i hi).choose else ⟨0, 0, 0, 0⟩, fun i hi => ?_⟩
      simp only [dif_pos hi]
      exact (hX i hi).choose_spec
    refine ⟨some a, len, m, (List.range len).map X, rfl, by simp, ⟨fun e => (by cases e), fun ad e j u hu => ?_⟩, fun q hq => ?_⟩
    · injection e with e
      subst e
      have hj : j < len * 4 := by
        have := (List.getElem?_eq_some_iff.1 hu).1
        rw [wL_length] at this
        simpa using this
      have hi : j / 4 < len := by omega
      have h1 := wL_at ((List.range len).map X) (j / 4) (X (j / 4)) (by simp [hi]) (j % 4) (by omega)
      have h2 := (hXX (j / 4) hi).2 (j % 4) (by omega)
      have ej : j / 4 * 4 + j % 4 = j := by omega
      rw [ej] at h1 h2
      have h3 : W.cell? (a.add j) = some u := by rw [h2, ← h1]; exact hu
      have hb := cell_lt h3
      rw [add_block] at hb
      exact ⟨hb, h3⟩
    · simp at hq
      obtain ⟨i, hi, rfl⟩ := hq
      exact (hXX i hi).1
end
end Go.Proofs.Ytlpmmejdfenkiaa
