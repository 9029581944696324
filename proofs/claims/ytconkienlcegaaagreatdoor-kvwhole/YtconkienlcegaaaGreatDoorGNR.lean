/- LAo, NR -/
import Derived.Test.YtconkienlcegaaaGreatDoorRows
import Derived.Test.YtconkienlcegaaaGreatDoorGKZ
import Derived.ProofKit
import Derived.LaidMore
import Derived.OpenShut
import Derived.Stop.Joined
import Derived.Stop.LaidErr
import Derived.Carry
import Derived.Lib.LaidTab
import Derived.Test.YtconkienlcegaaaGreatDoorNQ
import Derived.ChangeSlices
import Derived.SizedLaws
import Derived.Deep.Slices
import Derived.Deep.Fields
import Derived.Deep.Grids
namespace Go.Proofs.YtconkienlcegaaaGreatDoor
open Go.ChangeShapes Go.WideShapes Go.ChangeAt Go.WideElems Go.RowKit
theorem own : ownKnob Tryz.prog.godebug = none := by kernel_rfl
theorem laidOut : laidOutB Tryz.prog = true := by kernel_rfl
abbrev laidP : List (String × DataW Unit) := [("math/bits.deBruijn32tab", Rows.laid_math_bits_deBruijn32tab), ("math/bits.deBruijn64tab", Rows.laid_math_bits_deBruijn64tab), ("internal/strconv.uint64pow10", Rows.laid_internal_strconv_uint64pow10), ("strconv.ErrRange", Rows.laid_strconv_ErrRange), ("strconv.ErrSyntax", Rows.laid_strconv_ErrSyntax), ("conclave/wal.halfSums", Rows.laid_conclave_wal_halfSums)]
set_option maxRecDepth 100000 in
theorem door_met (os : Os) (args : Array Value) : laidMetH Tryz.prog laidP ((World.doorLaid Tryz.prog 400 os).forCall (fun _ _ => 0) ⟨#[], args, []⟩).memory :=
 laidMetH_of_parts3 (fuel := 8) (laidMet_of_run' 8 (by kernel_rfl) (by kernel_rfl)) (by kernel_rfl) (by kernel_rfl)
theorem star : "*" ++ "errors.errorString" = "*errors.errorString" := by decide
theorem row236 (u : TypeId) (h : Tryz.prog.typeName? 3 u = some "*errors.errorString") : u = 236 :=
 typeName_ptr_named (nm := "errors.errorString") (by rw [star]; kernel_rfl) (by kernel_rfl) (by decide) u (by rw [star]; exact h)
/-- What the condition on the variables gives the walks. -/
theorem vars_of_laid {W : World} (h : laidMetH Tryz.prog laidP W) : Vars W := by
 rw [MakeChecks.laidMetH_plain _ _ _ (by kernel_rfl)] at h; have h2 := h.tail.tail; have ht := Lib.tabIs_of_head (k := .u64) (zs := Lib.pow10Tab) (g := 4) (t := 245) (e := 132) (n := 20) (by kernel_rfl) (by kernel_rfl) Tryz.underlying245 Tryz.underlying132 (by kernel_rfl) (by kernel_rfl) h2; obtain ⟨a0, sa, hva, _, _, _⟩ := laid_sentinel h2.tail gRan (by kernel_rfl) (ti := 170) Tryz.underlying170 row236 Tryz.underlying236 Tryz.underlying238 rfl rfl Tryz.underlying9 (by kernel_rfl) (by kernel_rfl); obtain ⟨b0, sb, hvb, _, _, _⟩ := laid_sentinel h2.tail.tail gSyn (by kernel_rfl) (ti := 170) Tryz.underlying170 row236 Tryz.underlying236 Tryz.underlying238 rfl rfl Tryz.underlying9 (by kernel_rfl) (by kernel_rfl); have hh := Lib.tabIs_of_head (k := .u32) (zs := (List.range 16).map fun i => J (tab i)) (g := 1) (t := 208) (e := 127) (n := 16) (by kernel_rfl) (by kernel_rfl) Tryz.underlying208 Tryz.underlying127 (by kernel_rfl) (by kernel_rfl) h2.tail.tail.tail; refine ⟨fun i hi => ?_, ht, ⟨_, _, hvb⟩, ⟨_, _, hva⟩⟩; rw [World.var?_cell (P := Tryz.prog) (n := "conclave/wal.halfSums") (by kernel_rfl) hh i]; rw [List.getElem?_toArray, List.getElem?_map, List.getElem?_map, List.getElem?_range hi]; rfl
end Go.Proofs.YtconkienlcegaaaGreatDoor
namespace Go.Proofs.YtconkienlcegaaaGreatDoor
open Go.Deep Go.ChangeShapes Go.WideShapes Go.ChangeAt Go.WideElems Go.RowKit
set_option linter.unusedVariables false
set_option linter.unusedSimpArgs false
theorem nc3 : Tryz.prog.cellsOf 3 = 1 := by kernel_rfl
theorem nc4 : Tryz.prog.cellsOf 4 = 1 := by kernel_rfl
theorem nc5 : Tryz.prog.cellsOf 5 = 1 := by kernel_rfl
theorem nc23 : Tryz.prog.cellsOf 23 = 1 := by kernel_rfl
theorem nc37 : Tryz.prog.cellsOf 37 = 1 := by kernel_rfl
theorem nc83 : Tryz.prog.cellsOf 83 = 3 := by kernel_rfl
theorem nc123 : Tryz.prog.cellsOf 123 = 2 := by kernel_rfl
theorem nb5 : Tryz.prog.bytesOf 5 = 1 := by kernel_rfl
theorem nb37 : Tryz.prog.bytesOf 37 = 24 := by kernel_rfl
theorem nb83 : Tryz.prog.bytesOf 83 = 56 := by kernel_rfl
theorem nb123 : Tryz.prog.bytesOf 123 = 16 := by kernel_rfl
theorem nlist3 {α : Type} : ∀ {l : List α}, l.length = 3 → ∃ c0 c1 c2, l = [c0, c1, c2]
 | [c0, c1, c2], _ => ⟨c0, c1, c2, rfl⟩
theorem nlist2 {α : Type} : ∀ {l : List α}, l.length = 2 → ∃ c0 c1, l = [c0, c1]
 | [c0, c1], _ => ⟨c0, c1, rfl⟩
theorem nwf8 {x : Int} (h : (Lit.int .u8 x).wf = true) : 0 ≤ x ∧ x < 256 := by
 simp [Lit.wf, IntKind.min, IntKind.max, IntKind.signed, IntKind.bits] at h
 exact ⟨by omega, by omega⟩
theorem nweights_all {H : Type} {P : Program} {e : TypeId} {x : Nat} {d : DataW H} : ∀ {l : List (DataW H)}, d ∈ l → x ∈ d.weights P e → x ∈ DataW.weightsAll P e l
 | [], h, _ => by cases h
 | a :: r, h, hx => by
   simp only [DataW.weightsAll, List.mem_append]; rcases List.mem_cons.1 h with rfl | h
   · exact Or.inl hx
   · exact Or.inr (nweights_all h hx)
theorem nweights_elem {H : Type} {P : Program} {t e : TypeId} {x : Nat} {d : DataW H} {elems spare : List (DataW H)} (hu : P.underlying t = some (.slice e)) (hd : d ∈ elems) (hx : x ∈ d.weights P e) : x ∈ (DataW.slice elems spare).weights P t := by
 simp only [DataW.weights, hu, List.mem_cons, List.mem_append]; exact Or.inr (Or.inl (nweights_all hd hx))
theorem nweights_len {H : Type} {P : Program} {t e : TypeId} {elems spare : List (DataW H)} (hu : P.underlying t = some (.slice e)) : (elems.length + spare.length) * P.bytesOf e ∈ (DataW.slice elems spare).weights P t := by
 simp [DataW.weights, hu]
theorem reach_num : reachBytes = 140737488351232 := by decide
theorem ncellLow {w : World} {p : Addr} {v : Value} (h : w.cell? p = some v) : p.block < w.heap.size := by
 unfold World.cell? at h; by_cases hl : p.block < w.heap.size
 · exact hl
 · rw [Array.getElem?_eq_none (by omega)] at h
   simp at h
section
variable {H : Type} {enc : TypeId × Value → H} {W : World}
/-- Bytes. -/
theorem nopen_bs {fuel : Nat} {cs : List Value} {x : DataW H × List MemPlace} (h : DataW.trod enc Tryz.prog W 0 (fun _ => true) true fuel 23 cs = some x) (hw : ∀ n ∈ x.1.weights Tryz.prog 23, n ≤ 140737488351232) :
 ∃ va vc bs, cs = [.slice va bs.length vc] ∧ BytesV W (.slice va bs.length vc) bs ∧ KByt bs ∧ bs.length ≤ 140737488351232 := by
 rcases open_ints Tryz.underlying23 Tryz.underlying5 nc5 h with ⟨rfl, rfl⟩ | ⟨a, len, cap, zs, rfl, _, hl, hm, hz, rfl, hcell, hwz⟩
 · exact ⟨none, 0, [], rfl, Or.inl ⟨rfl, rfl⟩, (fun c (hc : c ∈ ([] : List Int)) => by cases hc), Nat.zero_le _⟩
 · simp only [if_true] at hz
   have hlen : (zs.take len).length = len := by rw [List.length_take]; omega
   refine ⟨some a, cap, zs.take len, by rw [hlen], Or.inr ⟨a, cap, rfl, fun j u hu => ?_⟩, fun c hc => nwf8 (hwz c (List.mem_of_mem_take hc)), ?_⟩
   · have hj : j < (zs.take len).length := by
      have := (List.getElem?_eq_some_iff.1 hu).1
      rwa [vB_length] at this
     have h1 := hcell j (by omega); rw [h1]; have h2 : (zs.take len)[j]? = some (zs.getD j 0) := by
      rw [List.getElem?_take, if_pos (by omega), List.getElem?_eq_getElem (by omega)]; simp [List.getD, List.getElem?_eq_getElem (show j < zs.length by omega)]
     have h3 : (vB (zs.take len))[j]? = some (.int .u8 (zs.getD j 0)) := by unfold vB; rw [List.getElem?_map, h2]; rfl
     rw [h3] at hu; exact congrArg some (Option.some.inj hu)
   · have h9 := hw _ (nweights_len Tryz.underlying23)
     rw [nb5] at h9; simp only [lits, List.length_map] at h9; omega
theorem nbytes_low {v : Value} {bs : List Int} (h : BytesV W v bs) : ∀ b, dBlock v bs = some b → b < W.heap.size := fun b hb => by
 rcases h with ⟨rfl, rfl⟩ | ⟨ad, cap, rfl, hc⟩
 · cases hb
 · cases bs with
   | nil => cases hb
   | cons x r =>
     have h0 := hc 0 _ rfl; have e : b = ad.block := by
      have : (Value.slice (some ad) (x :: r).length cap).ownBlock = some b := hb; exact (Option.some.inj this).symm
     rw [e]; exact ncellLow h0
/-- A change. -/
theorem nopen_ch {fuel : Nat} {cs : List Value} {x : DataW H × List MemPlace} (h : DataW.trod enc Tryz.prog W 0 (fun _ => true) true fuel 83 cs = some x) (hw : ∀ n ∈ x.1.weights Tryz.prog 83, n ≤ 140737488351232) :
 ∃ (kk vv : Value) (c : Ch), cs = [kk, vv, .bool c.gone] ∧ KBD W (fun x => x < W.heap.size) kk c.key ∧ KBD W (fun x => x < W.heap.size) vv c.val ∧ KByt c.key ∧ KByt c.val := by
 obtain ⟨xs, n, _, rfl, hcl, hxl, hf⟩ := DataW.trod_struct Tryz.underlying83 h; rw [nc83] at hcl; obtain ⟨c0, c1, c2, rfl⟩ := nlist3 hcl; obtain ⟨x0, x1, x2, rfl⟩ := nlist3 (show xs.length = 3 from hxl); have g0 : DataW.trod enc Tryz.prog W 0 (fun _ => true) true n 23 (([c0, c1, c2].drop 0).take (Tryz.prog.cellsOf 23)) = some x0 := hf 0 _ rfl; rw [nc23] at g0; have g1 : DataW.trod enc Tryz.prog W 0 (fun _ => true) true n 23 (([c0, c1, c2].drop 1).take (Tryz.prog.cellsOf 23)) = some x1 := hf 1 _ rfl; rw [nc23] at g1; have g2 : DataW.trod enc Tryz.prog W 0 (fun _ => true) true n 4 (([c0, c1, c2].drop 2).take (Tryz.prog.cellsOf 4)) = some x2 := hf 2 _ rfl; rw [nc4] at g2; have hws : ∀ m ∈ DataW.weightsEach Tryz.prog [23, 23, 4] [x0.1, x1.1, x2.1], m ≤ 140737488351232 := fun m hm => hw m (by
  simp only [DataW.weights, Tryz.underlying83]; exact hm)
 obtain ⟨va, vc, bs, e0, b0, k0, l0⟩ := nopen_bs g0 (fun m hm => hws m (DataW.weights_mem_each (j := 0) (t := 23) rfl rfl m hm)); obtain ⟨va1, vc1, bs1, e1, b1, k1, l1⟩ := nopen_bs g1 (fun m hm => hws m (DataW.weights_mem_each (j := 1) (t := 23) rfl rfl m hm)); obtain ⟨g, e2, _⟩ := DataW.trod_bool Tryz.underlying4 g2; injection e0 with e0; injection e1 with e1; injection e2 with e2
 subst e0 e1 e2; exact ⟨_, _, ⟨bs, bs1, g⟩, rfl, ⟨b0, nbytes_low b0, by show bs.length ≤ _; omega⟩, ⟨b1, nbytes_low b1, by show bs1.length ≤ _; omega⟩, k0, k1⟩
set_option maxRecDepth 100000 in
/-- Changes. -/
theorem nopen_chs {fuel : Nat} {cs : List Value} {x : DataW H × List MemPlace} (h : DataW.trod enc Tryz.prog W 0 (fun _ => true) true fuel 37 cs = some x) (hw : ∀ n ∈ x.1.weights Tryz.prog 37, n ≤ 140737488351232) :
 ∃ v l, cs = [v] ∧ ChsV W (fun x => x < W.heap.size) v l ∧ (∀ c ∈ l, KByt c.key ∧ KByt c.val) ∧ l.length * 56 ≤ 140737488355328 := by
 obtain ⟨d, ps⟩ := x; rcases open_slice Tryz.underlying37 h with ⟨rfl, _⟩ | ⟨a, len, cap, m, n, D, Pl, rfl, _, hl, hcap, hm, hx, hel⟩
 · exact ⟨.slice none 0 0, [], rfl, ChsV.mk [] none 0 0 0 (fun _ => .nilIface) (fun _ => .nilIface) (by simp) (by simp) (by simp) (fun h => absurd h (by simp)) (fun h => absurd h (by simp)) (fun i c h => by simp at h) (fun i c h => by simp at h) (fun i c h => by simp at h) (fun i c h => by simp at h) (fun i c h => by simp at h), (fun c (hc : c ∈ ([] : List Ch)) => by cases hc), Nat.zero_le _⟩
 · simp only [if_true] at hm
   subst hm; injection hx with hd hp
   subst hd; have hwl := hw _ (nweights_len Tryz.underlying37); rw [nb83] at hwl; simp only [List.length_map, List.length_range] at hwl; have hk : ∀ k, ∃ (kk vv : Value) (c : Ch), k < len → (W.cell? ((a.add (k * 3)).add 0) = some kk ∧ W.cell? ((a.add (k * 3)).add 1) = some vv ∧ W.cell? ((a.add (k * 3)).add 2) = some (.bool c.gone)) ∧ KBD W (fun x => x < W.heap.size) kk c.key ∧ KBD W (fun x => x < W.heap.size) vv c.val ∧ KByt c.key ∧ KByt c.val := fun k => by
    by_cases hkl : k < len
    · obtain ⟨cs', hcs, ht⟩ := hel k (by omega)
      rw [nc83] at hcs; obtain ⟨_, hlen, hcell⟩ := World.cells?_some hcs; obtain ⟨kk, vv, c, rfl, h1, h2, h3, h4⟩ := nopen_ch ht (fun n hn => hw n (nweights_elem Tryz.underlying37 (List.mem_map.2 ⟨k, by simpa using hkl, rfl⟩) hn)); exact ⟨kk, vv, c, fun _ => ⟨⟨hcell 0 (by omega), hcell 1 (by omega), hcell 2 (by omega)⟩, h1, h2, h3, h4⟩⟩
    · exact ⟨.nilIface, .nilIface, ⟨[], [], false⟩, fun h => absurd h hkl⟩
   obtain ⟨kk, hk⟩ := Classical.axiomOfChoice hk; obtain ⟨vv, hk⟩ := Classical.axiomOfChoice hk; obtain ⟨cc, hk⟩ := Classical.axiomOfChoice hk; have hll : ((List.range len).map cc).length = len := by simp
   have hat : ∀ i c, ((List.range len).map cc)[i]? = some c → i < len ∧ c = cc i := fun i c hi => by
    have hi' : i < len := by
     have := (List.getElem?_eq_some_iff.1 hi).1; omega
    rw [List.getElem?_map, List.getElem?_range hi'] at hi; exact ⟨hi', (Option.some.inj hi).symm⟩
   obtain ⟨g, o, spot⟩ := a; have hsp : 0 < len → spot = none := fun h0 => by
    have h2 := World.cell?_spot (hk 0 h0).1.1
    simpa [Addr.add] using h2
   have hc : ∀ i, i < len → (W.cell? ⟨g, o + i * 3, none⟩ = some (kk i) ∧ W.cell? ⟨g, o + i * 3 + 1, none⟩ = some (vv i) ∧ W.cell? ⟨g, o + i * 3 + 2, none⟩ = some (.bool (cc i).gone)) := fun i hi => by
    have h3 := (hk i hi).1; rw [hsp (by omega)] at h3; simp only [Addr.add_lit, Nat.add_zero] at h3; exact h3
   unfold maxLen at hcap; refine ⟨_, (List.range len).map cc, rfl, ?_, fun c hcm => ?_, by omega⟩
   · have := ChsV.mk (w := W) (D := fun x => x < W.heap.size) ((List.range len).map cc) (some ⟨g, o, spot⟩) m g o kk vv (by omega) (by omega) (by omega) (fun h0 => by rw [hsp (by omega)]) (fun h0 => ncellLow (hc 0 (by omega)).1)
      (fun i c hi => (hc i (hat i c hi).1).1) (fun i c hi => (hc i (hat i c hi).1).2.1) (fun i c hi => by rw [(hat i c hi).2]; exact (hc i (hat i c hi).1).2.2)
      (fun i c hi => by rw [(hat i c hi).2]; exact (hk i (hat i c hi).1).2.1) (fun i c hi => by rw [(hat i c hi).2]; exact (hk i (hat i c hi).1).2.2.1)
     rw [hll] at this; exact this
   · obtain ⟨i, hi, e⟩ := List.getElem_of_mem hcm
     have h9 := hat i c (by rw [List.getElem?_eq_getElem hi, e]); rw [h9.2]; exact (hk i h9.1).2.2.2
set_option maxRecDepth 100000 in
/-- Lists of changes. -/
theorem nopen_rows {fuel : Nat} {cs : List Value} {x : DataW H × List MemPlace} (h : DataW.trod enc Tryz.prog W 0 (fun _ => true) true fuel 78 cs = some x) (hw : ∀ n ∈ x.1.weights Tryz.prog 78, n ≤ 140737488351232) :
 ∃ la lc ls, cs = [.slice la ls.length lc] ∧ RowsC W la ls ∧ (ls.length + 1) * 24 ≤ 140737488355328 ∧ ∀ p ∈ ls, p.2.length * 56 ≤ 140737488355328 := by
 obtain ⟨d, ps⟩ := x; rcases open_slice1 Tryz.underlying78 nc37 h with ⟨rfl, _⟩ | ⟨a, len, cap, m, n, V, D, Pl, rfl, _, hl, hcap, hm, hx, hel⟩
 · exact ⟨none, 0, [], rfl, fun j p hj => by simp at hj, by simp, fun p hp => by cases hp⟩
 · simp only [if_true] at hm
   subst hm; injection hx with hd hp
   subst hd; have hwl := hw _ (nweights_len Tryz.underlying78); rw [nb37] at hwl; simp only [List.length_map, List.length_range] at hwl; have hk : ∀ k, ∃ l : List Ch, k < len → (W.cell? (a.add k) = some (V k) ∧ ChsV W (fun x => x < W.heap.size) (V k) l ∧ (∀ c ∈ l, KByt c.key ∧ KByt c.val) ∧ l.length * 56 ≤ 140737488355328) := fun k => by
    by_cases hkl : k < len
    · obtain ⟨hcell, ht⟩ := hel k (by omega)
      obtain ⟨v, l, e, h1, h2, h3⟩ := nopen_chs ht (fun n hn => hw n (nweights_elem Tryz.underlying78 (List.mem_map.2 ⟨k, by simpa using hkl, rfl⟩) hn)); injection e with e
      subst e; exact ⟨l, fun _ => ⟨hcell, h1, h2, h3⟩⟩
    · exact ⟨[], fun h => absurd h hkl⟩
   obtain ⟨f, hf⟩ := Classical.axiomOfChoice hk; have hll : ((List.range len).map fun k => (V k, f k)).length = len := by simp
   have hat : ∀ i p, ((List.range len).map fun k => (V k, f k))[i]? = some p → i < len ∧ p = (V i, f i) := fun i c hi => by
    have hi' : i < len := by
     have := (List.getElem?_eq_some_iff.1 hi).1; omega
    rw [List.getElem?_map, List.getElem?_range hi'] at hi; exact ⟨hi', (Option.some.inj hi).symm⟩
   refine ⟨some a, m, (List.range len).map fun k => (V k, f k), by rw [hll], fun j p hj => ?_, by rw [hll]; omega, fun p hp => ?_⟩
   · obtain ⟨hj1, rfl⟩ := hat j p hj
     obtain ⟨h1, h2, h3, _⟩ := hf j hj1; obtain ⟨g, o, spot⟩ := a; have hspot : spot = none := by simpa [Addr.add] using World.cell?_spot (hf 0 (by omega)).1
     subst hspot; rw [Addr.add_lit] at h1; exact ⟨g, o, rfl, h1, h2, h3⟩
   · obtain ⟨i, hi, rfl⟩ := List.mem_map.1 hp
     exact (hf i (List.mem_range.1 hi)).2.2.2
/-- Truths. -/
theorem nopen_bools {fuel : Nat} {cs : List Value} {x : DataW H × List MemPlace} (h : DataW.trod enc Tryz.prog W 0 (fun _ => true) true fuel 79 cs = some x) :
 ∃ sa sc bs, cs = [.slice sa bs.length sc] ∧ BoolsV W sa bs := by
 rcases Deep.open_bools Tryz.underlying79 Tryz.underlying4 nc4 h with ⟨rfl, _⟩ | ⟨a, len, cap, B, rfl, _, hl, hm, _, hcell⟩
 · exact ⟨none, 0, [], rfl, fun j x hj => by simp at hj⟩
 · refine ⟨some a, cap, (List.range len).map B, by simp, fun j x hj => ?_⟩
   have hjl : j < len := by
    have := (List.getElem?_eq_some_iff.1 hj).1
    simpa using this
   rw [List.getElem?_map, List.getElem?_range hjl] at hj; injection hj with hj
   obtain ⟨b, o, spot⟩ := a; have hspot : spot = none := by simpa [Addr.add] using World.cell?_spot (hcell 0 (by omega))
   subst hspot; have := hcell j (by omega); rw [Addr.add_lit] at this; exact ⟨b, o, rfl, by rw [this, ← hj]⟩
/-- Numbers. -/
theorem nopen_is {fuel : Nat} {cs : List Value} {x : DataW H × List MemPlace} (h : DataW.trod enc Tryz.prog W 0 (fun _ => true) true fuel 38 cs = some x) :
 ∃ v ks, cs = [v] ∧ IntsV W v ks ∧ ks.length ≤ 9223372036854775807 := by
 rcases open_ints Tryz.underlying38 Tryz.underlying3 nc3 h with ⟨rfl, rfl⟩ | ⟨a, len, cap, zs, rfl, _, hl, hm, hz, rfl, hcell, hwz⟩
 · exact ⟨_, [], rfl, ⟨none, 0, rfl, fun j x hj => by simp at hj⟩, by simp⟩
 · simp only [if_true] at hz
   have hlen : (zs.take len).length = len := by rw [List.length_take]; omega
   unfold maxLen at hm; refine ⟨_, zs.take len, rfl, ⟨some a, cap, by rw [hlen], fun j x hj => ?_⟩, by omega⟩; have hj' : j < len := by
    have := (List.getElem?_eq_some_iff.1 hj).1; omega
   have h1 := hcell j (by omega); obtain ⟨ab, ao, spot⟩ := a; have hspot : spot = none := by simpa [Addr.add] using World.cell?_spot (hcell 0 (by omega))
   subst hspot; refine ⟨ab, ao, rfl, ?_⟩; rw [Addr.add_lit] at h1; rw [h1]; rw [List.getElem?_take, if_pos hj'] at hj; simp [List.getD, hj]
/-- A fault. -/
theorem nopen_flt {fuel : Nat} {cs : List Value} {x : DataW H × List MemPlace} (h : DataW.trod enc Tryz.prog W 0 (fun _ => true) true fuel 123 cs = some x) :
 ∃ p : Int × Int, cs = [.int .i64 p.1, .int .i64 p.2] ∧ (Lit.int .i64 p.1).wf = true ∧ (Lit.int .i64 p.2).wf = true := by
 obtain ⟨xs, n, _, rfl, hcl, hxl, hf⟩ := DataW.trod_struct Tryz.underlying123 h; rw [nc123] at hcl; obtain ⟨c0, c1, rfl⟩ := nlist2 hcl; obtain ⟨x0, x1, rfl⟩ := nlist2 (show xs.length = 2 from hxl); have g0 : DataW.trod enc Tryz.prog W 0 (fun _ => true) true n 3 (([c0, c1].drop 0).take (Tryz.prog.cellsOf 3)) = some x0 := hf 0 _ rfl; rw [nc3] at g0; have g1 : DataW.trod enc Tryz.prog W 0 (fun _ => true) true n 3 (([c0, c1].drop 1).take (Tryz.prog.cellsOf 3)) = some x1 := hf 1 _ rfl; rw [nc3] at g1; obtain ⟨a, e0, _, w0⟩ := DataW.trod_int Tryz.underlying3 g0; obtain ⟨b, e1, _, w1⟩ := DataW.trod_int Tryz.underlying3 g1; injection e0 with e0
 injection e1 with e1
 subst e0 e1; exact ⟨(a, b), rfl, w0, w1⟩
set_option maxRecDepth 100000 in
/-- Faults. -/
theorem nopen_pl {fuel : Nat} {cs : List Value} {x : DataW H × List MemPlace} (h : DataW.trod enc Tryz.prog W 0 (fun _ => true) true fuel 39 cs = some x) :
 ∃ pa pc ps, cs = [.slice pa ps.length pc] ∧ FltV W pa ps ∧ FW ps ∧ (pa = none → pc = 0 ∧ ps = []) ∧ (ps = [] ∨ ∃ n ∈ x.1.weights Tryz.prog 39, ps.length * 16 ≤ n) := by
 obtain ⟨d, q⟩ := x; rcases open_slice Tryz.underlying39 h with ⟨rfl, _⟩ | ⟨a, len, cap, m, n, D, Pl, rfl, _, hl, hcap, hm, hx, hel⟩
 · exact ⟨none, 0, [], rfl, fun j p hj => by simp at hj, fun p hp => by simp at hp, fun _ => ⟨rfl, rfl⟩, Or.inl rfl⟩
 · simp only [if_true] at hm
   subst hm; injection hx with hd hp
   subst hd; have hsp : 0 < len → a.spot = none := fun h0 => by
    obtain ⟨cs', hcs, ht⟩ := hel 0 (by omega); rw [nc123] at hcs; obtain ⟨_, hlen, hcell⟩ := World.cells?_some hcs; obtain ⟨p, rfl, _, _⟩ := nopen_flt ht; have h2 := World.cell?_spot (hcell 0 (by omega))
    simpa [Addr.add] using h2
   have hex : ∀ k, ∃ p : Int × Int, k < len → (W.cell? (a.add (k * 2)) = some (.int .i64 p.1) ∧ W.cell? (a.add (k * 2 + 1)) = some (.int .i64 p.2) ∧ (Lit.int .i64 p.1).wf = true ∧ (Lit.int .i64 p.2).wf = true) := by
    intro k; by_cases hk : k < len
    · obtain ⟨cs', hcs, ht⟩ := hel k (by omega)
      rw [nc123] at hcs; obtain ⟨_, hlen, hcell⟩ := World.cells?_some hcs; obtain ⟨p, rfl, w0, w1⟩ := nopen_flt ht; have h0 := hcell 0 (by omega); have h1 := hcell 1 (by omega); obtain ⟨g, o, spot⟩ := a; have hspot : spot = none := by
       exact hsp (by omega)
      subst hspot; rw [Addr.add_lit, Addr.add_lit] at h0 h1; rw [Addr.add_lit, Addr.add_lit]; refine ⟨p, fun _ => ⟨by simpa using h0, by simpa [Nat.add_assoc] using h1, w0, w1⟩⟩
    · exact ⟨(0, 0), fun h => absurd h hk⟩
   obtain ⟨f, hf⟩ := Classical.axiomOfChoice hex; have hfl : ((List.range len).map f).length = len := by simp
   refine ⟨some a, m, (List.range len).map f, by rw [hfl], fun j p hj => ?_, fun p hp => ?_, (fun h => by cases h), Or.inr ⟨(len + (m - len)) * 16, ?_, by rw [hfl]; omega⟩⟩
   · have hjl : j < len := by have := (List.getElem?_eq_some_iff.1 hj).1; omega
     rw [List.getElem?_map, List.getElem?_range hjl] at hj; injection hj with hj
     subst hj; obtain ⟨h0, h1, _⟩ := hf j hjl; obtain ⟨g, o, spot⟩ := a; have hspot : spot = none := by
      exact hsp (by omega)
     subst hspot; rw [Addr.add_lit] at h0 h1; exact ⟨g, o, rfl, h0, by rw [← h1, Nat.add_assoc]⟩
   · obtain ⟨k, hk, rfl⟩ := List.mem_map.1 hp
     exact (hf k (List.mem_range.1 hk)).2.2
   · show _ ∈ DataW.weights Tryz.prog 39 _
     unfold DataW.weights; rw [Tryz.underlying39]; simp [nb123]
end
end Go.Proofs.YtconkienlcegaaaGreatDoor
