/- LB, LC, laid into one text. -/
import Derived.Test.YtconkienlcegaaaGreatDoorLA
import Derived.ChangeSlices
import Derived.SizedLaws
import Derived.Deep.Slices
import Derived.Deep.Fields
import Derived.Test.YtconkienlcegaaaGreatDoorM4
/- kv: the arguments of KvBack. -/
namespace Go.Proofs.YtconkienlcegaaaGreatDoor
open Go.Deep Go.ChangeShapes Go.WideShapes Go.ChangeAt Go.WideElems Go.RowKit
set_option linter.unusedVariables false
theorem cells5 : Tryz.prog.cellsOf 5 = 1 := by kernel_rfl
theorem cells23 : Tryz.prog.cellsOf 23 = 1 := by kernel_rfl
theorem cells4 : Tryz.prog.cellsOf 4 = 1 := by kernel_rfl
theorem cells83 : Tryz.prog.cellsOf 83 = 3 := by kernel_rfl
theorem list3 {α : Type} : ∀ {l : List α}, l.length = 3 → ∃ c0 c1 c2, l = [c0, c1, c2]
  | [c0, c1, c2], _ => ⟨c0, c1, c2, rfl⟩
theorem wf8 {x : Int} (h : (Lit.int .u8 x).wf = true) : 0 ≤ x ∧ x < 256 := by
  simp [Lit.wf, IntKind.min, IntKind.max, IntKind.signed, IntKind.bits] at h
  exact ⟨by omega, by omega⟩
theorem bulk_app {H : Type} (a b : List (DataW H)) : Rows.uptoBulkAll (a ++ b) = Rows.uptoBulkAll a + Rows.uptoBulkAll b := by
  induction a with
  | nil => simp [Rows.uptoBulkAll]
  | cons x r ih => simp only [List.cons_append, Rows.uptoBulkAll, ih]; omega
theorem bulk_lits {H : Type} (zs : List Int) : Rows.uptoBulkAll (lits (H := H) .u8 zs) = zs.length := by
  induction zs with
  | nil => rfl
  | cons x r ih =>
    show Rows.uptoBulk (DataW.lit (.int .u8 x)) + Rows.uptoBulkAll (lits (H := H) .u8 r) = _
    rw [ih]
    show 1 + r.length = _
    simp; omega
theorem bulk_mem {H : Type} {d : DataW H} : ∀ {l : List (DataW H)}, d ∈ l → Rows.uptoBulk d ≤ Rows.uptoBulkAll l
  | x :: r, h => by
    simp only [Rows.uptoBulkAll]
    rcases List.mem_cons.1 h with rfl | h
    · omega
    · have := bulk_mem h; omega
theorem bulk_range {H : Type} (f : Nat → DataW H) (h : ∀ r, 1 ≤ Rows.uptoBulk (f r)) : ∀ i, i ≤ Rows.uptoBulkAll ((List.range i).map f)
  | 0 => Nat.zero_le _
  | i + 1 => by
    have ih := bulk_range f h i
    have h1 := h i
    rw [List.range_succ, List.map_append, bulk_app]
    simp only [List.map_cons, List.map_nil, Rows.uptoBulkAll]
    omega
theorem bulk_pos {H : Type} (d : DataW H) : 1 ≤ Rows.uptoBulk d := by
  cases d with
  | lit l => cases l <;> simp [Rows.uptoBulk]
  | _ => simp [Rows.uptoBulk]
theorem cellLow {w : World} {p : Addr} {v : Value} (h : w.cell? p = some v) : p.block < w.heap.size := by
  unfold World.cell? at h
  by_cases hl : p.block < w.heap.size
  · exact hl
  · rw [Array.getElem?_eq_none (by omega)] at h
    simp at h
section
variable {H : Type} {enc : TypeId × Value → H} {W : World}
/-- Bytes. -/
theorem open_bs {fuel : Nat} {cs : List Value} {x : DataW H × List MemPlace} (h : DataW.trod enc Tryz.prog W 0 (fun _ => true) true fuel 23 cs = some x) (hb : Rows.uptoBulk x.1 ≤ 1048576) :
    ∃ va vc bs, cs = [.slice va bs.length vc] ∧ BytesV W (.slice va bs.length vc) bs ∧ KByt bs ∧ bs.length ≤ vc ∧ vc ≤ 9223372036854775807 ∧ bs.length ≤ 1048576 := by
  rcases open_ints Tryz.underlying23 Tryz.underlying5 cells5 h with ⟨rfl, rfl⟩ | ⟨a, len, cap, zs, rfl, _, hl, hm, hz, rfl, hcell, hwz⟩
  · exact ⟨none, 0, [], rfl, Or.inl ⟨rfl, rfl⟩, (fun c (hc : c ∈ ([] : List Int)) => by cases hc), Nat.le_refl _, Nat.zero_le _, Nat.zero_le _⟩
  · simp only [if_true] at hz
    have hlen : (zs.take len).length = len := by rw [List.length_take]; omega
    unfold maxLen at hm
    refine ⟨some a, cap, zs.take len, by rw [hlen], Or.inr ⟨a, cap, rfl, fun j u hu => ?_⟩, fun c hc => wf8 (hwz c (List.mem_of_mem_take hc)), by omega, by omega, ?_⟩
    · have hj : j < (zs.take len).length := by
        have := (List.getElem?_eq_some_iff.1 hu).1
        rwa [vB_length] at this
      have h1 := hcell j (by omega)
      rw [h1]
      have h2 : (zs.take len)[j]? = some (zs.getD j 0) := by
        rw [List.getElem?_take, if_pos (by omega), List.getElem?_eq_getElem (by omega)]
        simp [List.getD, List.getElem?_eq_getElem (show j < zs.length by omega)]
      have h3 : (vB (zs.take len))[j]? = some (.int .u8 (zs.getD j 0)) := by unfold vB; rw [List.getElem?_map, h2]; rfl
      rw [h3] at hu
      exact congrArg some (Option.some.inj hu)
    · simp only [Rows.uptoBulk, bulk_lits] at hb
      omega
theorem bytes_low {v : Value} {bs : List Int} (h : BytesV W v bs) : ∀ b, dBlock v bs = some b → b < W.heap.size := fun b hb => by
  rcases h with ⟨rfl, rfl⟩ | ⟨ad, cap, rfl, hc⟩
  · cases hb
  · cases bs with
    | nil => cases hb
    | cons x r =>
      have h0 := hc 0 _ rfl
      have e : b = ad.block := by
        have : (Value.slice (some ad) (x :: r).length cap).ownBlock = some b := hb
        exact (Option.some.inj this).symm
      rw [e]
      exact cellLow h0
/-- A change. -/
theorem open_ch {fuel : Nat} {cs : List Value} {x : DataW H × List MemPlace} (h : DataW.trod enc Tryz.prog W 0 (fun _ => true) true fuel 83 cs = some x) (hb : Rows.uptoBulk x.1 ≤ 1048576) :
    ∃ (kk vv : Value) (c : Ch), cs = [kk, vv, .bool c.gone] ∧ KBD W (fun x => x < W.heap.size) kk c.key ∧ KBD W (fun x => x < W.heap.size) vv c.val ∧ KByt c.key ∧ KByt c.val := by
  obtain ⟨xs, n, _, rfl, hcl, hxl, hf⟩ := DataW.trod_struct Tryz.underlying83 h
  rw [cells83] at hcl
  obtain ⟨c0, c1, c2, rfl⟩ := list3 hcl
  obtain ⟨x0, x1, x2, rfl⟩ := list3 (show xs.length = 3 from hxl)
  have g0 : DataW.trod enc Tryz.prog W 0 (fun _ => true) true n 23 (([c0, c1, c2].drop 0).take (Tryz.prog.cellsOf 23)) = some x0 := hf 0 _ rfl
  rw [cells23] at g0
  have g1 : DataW.trod enc Tryz.prog W 0 (fun _ => true) true n 23 (([c0, c1, c2].drop 1).take (Tryz.prog.cellsOf 23)) = some x1 := hf 1 _ rfl
  rw [cells23] at g1
  have g2 : DataW.trod enc Tryz.prog W 0 (fun _ => true) true n 4 (([c0, c1, c2].drop 2).take (Tryz.prog.cellsOf 4)) = some x2 := hf 2 _ rfl
  rw [cells4] at g2
  have hb0 : Rows.uptoBulk x0.1 + (Rows.uptoBulk x1.1 + (Rows.uptoBulk x2.1 + 0)) + 1 ≤ 1048576 := hb
  obtain ⟨va, vc, bs, e0, b0, k0, _, _, l0⟩ := open_bs g0 (by omega)
  obtain ⟨va1, vc1, bs1, e1, b1, k1, _, _, l1⟩ := open_bs g1 (by omega)
  obtain ⟨g, e2, _⟩ := DataW.trod_bool Tryz.underlying4 g2
  injection e0 with e0; injection e1 with e1; injection e2 with e2
  subst e0 e1 e2
  exact ⟨_, _, ⟨bs, bs1, g⟩, rfl, ⟨b0, bytes_low b0, by show bs.length ≤ _; omega⟩, ⟨b1, bytes_low b1, by show bs1.length ≤ _; omega⟩, k0, k1⟩
set_option maxRecDepth 100000 in
/-- Changes. -/
theorem open_chs {fuel : Nat} {cs : List Value} {d : DataW H} {ps : List MemPlace} (h : DataW.trod enc Tryz.prog W 0 (fun _ => true) true fuel 37 cs = some (d, ps)) (hb : Rows.uptoBulk d ≤ 1048576) :
    ∃ v l, cs = [v] ∧ ChsV W (fun x => x < W.heap.size) v l ∧ (∀ c ∈ l, KByt c.key ∧ KByt c.val) ∧ l.length ≤ 1048576 := by
  rcases open_slice Tryz.underlying37 h with ⟨rfl, _⟩ | ⟨a, len, cap, m, n, D, Pl, rfl, _, hl, hcap, hm, hx, hel⟩
  · exact ⟨.slice none 0 0, [], rfl, ChsV.mk [] none 0 0 0 (fun _ => .nilIface) (fun _ => .nilIface) (by simp) (by simp) (by simp) (fun h => absurd h (by simp)) (fun h => absurd h (by simp)) (fun i c h => by simp at h) (fun i c h => by simp at h) (fun i c h => by simp at h) (fun i c h => by simp at h) (fun i c h => by simp at h), (fun c (hc : c ∈ ([] : List Ch)) => by cases hc), Nat.zero_le _⟩
  · simp only [if_true] at hm
    subst hm
    injection hx with hd hp
    subst hd
    simp only [Rows.uptoBulk] at hb
    have hln : len ≤ 1048576 := by
      have := bulk_range D (fun r => bulk_pos _) len
      omega
    have hk : ∀ k, ∃ (kk vv : Value) (c : Ch), k < len → (W.cell? ((a.add (k * 3)).add 0) = some kk ∧ W.cell? ((a.add (k * 3)).add 1) = some vv ∧ W.cell? ((a.add (k * 3)).add 2) = some (.bool c.gone)) ∧ KBD W (fun x => x < W.heap.size) kk c.key ∧ KBD W (fun x => x < W.heap.size) vv c.val ∧ KByt c.key ∧ KByt c.val := fun k => by
      by_cases hkl : k < len
      · obtain ⟨cs', hcs, ht⟩ := hel k (by omega)
        rw [cells83] at hcs
        obtain ⟨_, hlen, hcell⟩ := World.cells?_some hcs
        have hbk : Rows.uptoBulk (D k) ≤ 1048576 := by
          have := bulk_mem (l := (List.range len).map D) (d := D k) (List.mem_map.2 ⟨k, by simpa using hkl, rfl⟩)
          omega
        obtain ⟨kk, vv, c, rfl, h1, h2, h3, h4⟩ := open_ch ht hbk
        exact ⟨kk, vv, c, fun _ => ⟨⟨hcell 0 (by omega), hcell 1 (by omega), hcell 2 (by omega)⟩, h1, h2, h3, h4⟩⟩
      · exact ⟨.nilIface, .nilIface, ⟨[], [], false⟩, fun h => absurd h hkl⟩
    obtain ⟨kk, hk⟩ := Classical.axiomOfChoice hk
    obtain ⟨vv, hk⟩ := Classical.axiomOfChoice hk
    obtain ⟨cc, hk⟩ := Classical.axiomOfChoice hk
    have hll : ((List.range len).map cc).length = len := by simp
    have hat : ∀ i c, ((List.range len).map cc)[i]? = some c → i < len ∧ c = cc i := fun i c hi => by
      have hi' : i < len := by
        have := (List.getElem?_eq_some_iff.1 hi).1
        omega
      rw [List.getElem?_map, List.getElem?_range hi'] at hi
      exact ⟨hi', (Option.some.inj hi).symm⟩
    obtain ⟨g, o, spot⟩ := a
    have hsp : 0 < len → spot = none := fun h0 => by
      have h2 := World.cell?_spot (hk 0 h0).1.1
      simpa [Addr.add] using h2
    have hc : ∀ i, i < len → (W.cell? ⟨g, o + i * 3, none⟩ = some (kk i) ∧ W.cell? ⟨g, o + i * 3 + 1, none⟩ = some (vv i) ∧ W.cell? ⟨g, o + i * 3 + 2, none⟩ = some (.bool (cc i).gone)) := fun i hi => by
      have h3 := (hk i hi).1
      rw [hsp (by omega)] at h3
      simp only [Addr.add_lit, Nat.add_zero] at h3
      exact h3
    unfold maxLen at hcap
    refine ⟨_, (List.range len).map cc, rfl, ?_, fun c hcm => ?_, by omega⟩
    · have := ChsV.mk (w := W) (D := fun x => x < W.heap.size) ((List.range len).map cc) (some ⟨g, o, spot⟩) m g o kk vv (by omega) (by omega) (by omega) (fun h0 => by rw [hsp (by omega)]) (fun h0 => cellLow (hc 0 (by omega)).1)
        (fun i c hi => (hc i (hat i c hi).1).1) (fun i c hi => (hc i (hat i c hi).1).2.1) (fun i c hi => by rw [(hat i c hi).2]; exact (hc i (hat i c hi).1).2.2)
        (fun i c hi => by rw [(hat i c hi).2]; exact (hk i (hat i c hi).1).2.1) (fun i c hi => by rw [(hat i c hi).2]; exact (hk i (hat i c hi).1).2.2.1)
      rw [hll] at this
      exact this
    · obtain ⟨i, hi, e⟩ := List.getElem_of_mem hcm
      have h9 := hat i c (by rw [List.getElem?_eq_getElem hi, e])
      rw [h9.2]
      exact (hk i h9.1).2.2.2
end
end Go.Proofs.YtconkienlcegaaaGreatDoor
/- kv: the reference's read. -/
namespace Go.Proofs.YtconkienlcegaaaGreatDoor
open Go.RowKit Go.Maps Go.Joins
set_option linter.unusedSimpArgs false
set_option linter.unusedVariables false
theorem kor256b (y : Nat) (x : Int) (hy : y < 16777216) (h0 : 0 ≤ x) (h1 : x < 256) : bits .or .u32 ((y : Int) * 256) x = ((y * 256 + x.toNat : Nat) : Int) := by
  obtain ⟨x, rfl⟩ := Int.eq_ofNat_of_zero_le h0
  have hx : x < 256 := by omega
  have e0 : ((y : Int) * 256) = ((y * 256 : Nat) : Int) := by simp
  have hsh : y * 2 ^ 8 ||| x = y * 2 ^ 8 + x := by rw [← Nat.shiftLeft_eq, ← Nat.shiftLeft_add_eq_or_of_lt (by omega)]
  rw [e0]
  have h : bits .or .u32 ((y * 256 : Nat) : Int) ((x : Nat) : Int) = IntKind.u32.wrap (((BitVec.ofInt 32 ((y * 256 : Nat) : Int)) ||| (BitVec.ofInt 32 ((x : Nat) : Int))).toNat : Int) := rfl
  rw [h, BitVec.toNat_or, BitVec.ofInt_natCast, BitVec.ofInt_natCast, BitVec.toNat_ofNat, BitVec.toNat_ofNat, Nat.mod_eq_of_lt (by omega), Nat.mod_eq_of_lt (by omega), show y * 256 = y * 2 ^ 8 from by omega, hsh, IntKind.wrap_u32]
  omega
set_option maxRecDepth 100000 in
set_option maxHeartbeats 8000000 in
/-- The reference's read -/
theorem rread_any {w : World} {a : Option Addr} {cap : Nat} {bs : List Int} (h : BytesV w (.slice a bs.length cap) bs) (hb : KByt bs) (hl : bs.length ≤ 4) :
    Calls Tryz.prog 62 #[.slice a bs.length cap] w fun e w' => e = .returned (.int .u32 ((kNum bs : Nat) : Int)) ∧ w' = w := by
  have HS : Hid (BytesV w (.slice a bs.length cap) bs) := h
  have HB : Hid (KByt bs) := hb
  obtain ⟨N, hN⟩ : ∃ N, N = bs.length := ⟨_, rfl⟩
  rw [← hN] at hl HS ⊢
  have HN : Hid (N = bs.length) := hN
  clear h hb hN
  go_enter Tryz.func62, Tryz.ntmps62
  go_wp2_with fail
  go_loopw [3, 4] (fun i1 i2 wr => ∃ (j : Nat), j ≤ N ∧ i1 = .int .u32 (kNum (bs.take j) : Nat) ∧ i2 = .int .i64 j ∧ wr = w) (fun _ i2 _ => N - (intOf i2).toNat)
  case atStart => exact ⟨0, Nat.zero_le _, by simp [kNum], rfl, rfl⟩
  case round =>
    obtain ⟨j, hj, rfl, rfl, hwr⟩ := hrel
    subst hwr
    by_cases hjk : j < N
    · have hki : (j : Int) < N := by omega
      obtain ⟨y, hy⟩ : ∃ y, bs[j]? = some y := ⟨_, List.getElem?_eq_getElem (by have := HN.out; omega)⟩
      have hyb := HB.out y (List.mem_of_getElem? hy)
      obtain ⟨g, o, rfl, kc⟩ := HS.out.at hy
      have hst := kNum_take hy
      have hlt := kNum_lt (bs.take j) (HB.out.take j)
      have hlj : (bs.take j).length = j := by rw [List.length_take]; have := HN.out; omega
      rw [hlj] at hlt
      have hp : (256 : Nat) ^ j ≤ 256 ^ 3 := Nat.pow_le_pow_right (by decide) (by omega)
      have hp6 : (256 : Nat) ^ 3 = 16777216 := by decide
      obtain ⟨s, hs⟩ : ∃ s, s = kNum (bs.take j) := ⟨_, rfl⟩
      rw [← hs] at hst hlt ⊢
      have hsb : s < 16777216 := by omega
      have hor := kor256b s y (by omega) hyb.1 hyb.2
      have hw1 : IntKind.u32.wrap ((s : Int) * 256) = (s : Int) * 256 := by rw [IntKind.wrap_u32]; omega
      have hw2 : IntKind.u32.wrap y = y := by rw [IntKind.wrap_u32]; omega
      have HST : Hid (kNum (bs.take (j + 1)) = s * 256 + y.toNat) := hst
      clear hst hs hy hlt hp hp6 hlj
      go_wp2
      go_roundw
      case rel => exact ⟨j + 1, by omega, by rw [HST.out]; congr 1; have := hyb.1; omega, by go_num, by trivial⟩
      case measure => simp [intOf]; omega
    · have hki : ¬ (j : Int) < N := by omega
      have hE : kNum (bs.take j) = kNum bs := by rw [List.take_of_length_le (by have := HN.out; omega)]
      rw [hE]
      go_wp2
      go_ret
      exact ⟨rfl, rfl⟩
end Go.Proofs.YtconkienlcegaaaGreatDoor
