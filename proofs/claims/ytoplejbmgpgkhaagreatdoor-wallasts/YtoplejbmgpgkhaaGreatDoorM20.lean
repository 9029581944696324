/- PF, PR, PS, laid into one text. -/
import Derived.Test.YtoplejbmgpgkhaaGreatDoorM16
import Derived.Test.YtoplejbmgpgkhaaGreatDoorM19
import Derived.Test.YtoplejbmgpgkhaaGreatDoorM10
import Derived.BigQuiet
/- disk: both disks side by side, whatever their plans. -/
namespace Go.Proofs.YtoplejbmgpgkhaaGreatDoor
open Go.RowKit Go.Maps Go.Joins
set_option linter.unusedSimpArgs false
set_option linter.unusedVariables false
/-- The kind of a plan's fault at a step. -/
def pK (l : List (Int × Int)) (x : Int) : Int := match l.find? (fun p => p.1 == x) with
  | some p => p.2
  | none => 0
/-- Both disks, side by side. -/
structure Tw (w : World) (bd br : Nat) (S : DS) (R : RS) (ro : Int) : Prop where
  disk : DiskIs w bd S
  gb : GB S ro
  ref : RefIs w br R
  hb : HB R ro
  same : absP S = absR R.A
  apart : ∀ b, R.own b ≠ 0 → S.role b = .none
  down : S.down = R.down
  steps : S.steps = R.n
  armed : S.armed = R.frm
  plan : ∀ x, 1 ≤ x → S.plan x = pK R.plan x
theorem Tw.below {w w' : World} {bd br : Nat} {S : DS} {R : RS} {ro : Int} (h : Tw w bd br S R ro) (hb : Below w.heap.size w w') : Tw w' bd br S R ro :=
  ⟨h.disk.below hb, h.gb, h.ref.below hb, h.hb, h.same, h.apart, h.down, h.steps, h.armed, h.plan⟩
theorem Tw.kind {w : World} {bd br : Nat} {S : DS} {R : RS} {ro : Int} (h : Tw w bd br S R ro) : stK S = rplK R := by
  have hc := h.gb.cnt
  unfold Cnt at hc
  unfold stK
  rw [h.plan _ (by omega), h.steps, h.armed]
  rfl
theorem Tw.stepE {w : World} {bd br : Nat} {S : DS} {R : RS} {ro : Int} (h : Tw w bd br S R ro) {ns : List ByteArray} {a b : ByteArray} (hn : okN ns = (nameB a && nameB b)) : rstE R a b = stepE S ns := by
  unfold rstE Proofs.YtoplejbmgpgkhaaGreatDoor.stepE
  rw [h.kind, hn, h.down]
theorem Tw.stepD {w : World} {bd br : Nat} {S : DS} {R : RS} {ro : Int} (h : Tw w bd br S R ro) {ns : List ByteArray} {a b : ByteArray} (hn : okN ns = (nameB a && nameB b)) : (rstS R a b).down = (stepS S ns).down ∧ (rstS R a b).n = (stepS S ns).steps := by
  have hk := h.kind
  have hd := h.down
  have hs := h.steps
  unfold rstS stepS
  rw [hn, hk, hd]
  cases hR : R.down
  · cases hN : (nameB a && nameB b)
    · exact ⟨by simp [hR, hd], by simp [hs]⟩
    · exact ⟨by simp, by simp [hs]⟩
  · exact ⟨by simp [hR, hd], by simp [hs]⟩
theorem stepS_le (S : DS) (ns : List ByteArray) : S.steps ≤ (stepS S ns).steps ∧ (stepS S ns).steps ≤ S.steps + 1 := by
  unfold stepS
  split
  · exact ⟨by omega, by omega⟩
  · split
    · exact ⟨by show S.steps ≤ S.steps + 1; omega, by show S.steps + 1 ≤ S.steps + 1; omega⟩
    · exact ⟨by omega, by omega⟩
theorem Tw.first {w w1 : World} {bd br : Nat} {S S' : DS} {R : RS} {ro : Int} (h : Tw w bd br S R ro) (hD : DiskIs w1 bd S') (hF : Fr w w1 S S') : Mid w w1 bd br S S' R :=
  ⟨hD, h.ref.kept (fun b hb => hF.block b (h.ref.own_lt hb) (h.apart b hb)) hF.size, fun b hb => hF.role b (h.ref.own_lt hb) (h.apart b hb),
   ⟨hF.os, hF.tape, hF.output, hF.size, fun b hb h1 _ => hF.block b hb h1, fun b hb h1 h2 => ⟨hF.role b hb h1, h2⟩⟩⟩
theorem Tw.next {w w2 : World} {bd br : Nat} {S S' : DS} {R R' : RS} {ro : Int} {l : List Tf} {ns : List ByteArray} {a b : ByteArray} (hn : okN ns = (nameB a && nameB b)) (h : Tw w bd br S R ro) (hD : DiskIs w2 bd S') (hR : RefIs w2 br R') (hap : ∀ b, R'.own b ≠ 0 → S'.role b = .none) (hp : GS S S' (stepS S ns).down (stepS S ns).steps l) (hr : HS R R' (rstS R a b).down (rstS R a b).n l) (hw : Wf l ro) (hst : S.steps < 4611686018427387903) : Tw w2 bd br S' R' ro := by
  have hc := h.gb.cnt
  unfold Cnt at hc
  have h1 := stepS_le S ns
  have h2 := h.stepD hn
  have hs := h.steps
  have ha := h.armed
  refine ⟨hD, ⟨?_, hp.room.trans h.gb.rm, h.gb.r0, by rw [hp.abs]; exact hw⟩, hR, ⟨⟨?_, ?_, ?_⟩, ?_, hr.room.trans h.hb.rm, h.gb.r0, by rw [hr.abs]; exact hw, ?_⟩, by rw [hp.abs, hr.abs], hap, by rw [hp.down, hr.down, h2.1], by rw [hp.steps, hr.n, h2.2], by rw [hp.armed, hr.frm]; exact ha, fun x hx => by rw [hp.plan, hr.plan]; exact h.plan x hx⟩
  · unfold Cnt
    rw [hp.armed, hp.steps]
    omega
  · rw [hr.plan]; exact h.hb.planR.len
  · rw [hr.plan]; exact h.hb.planR.kind
  · intro _
    rw [hr.frm, hr.n, h2.2, ← ha]
    omega
  · unfold Rn
    rw [hr.n, h2.2]
    omega
  · rw [hr.abs, ← hp.abs]
    exact hD.srt
end Go.Proofs.YtoplejbmgpgkhaaGreatDoor
/- disk: the document's RightPlan. -/
namespace Go.Proofs.YtoplejbmgpgkhaaGreatDoor
open Go.RowKit Go.Maps Go.Joins
set_option linter.unusedSimpArgs false
set_option linter.unusedVariables false
/-- Faults that lie in memory. -/
def FltV (w : World) (va : Option Addr) (ps : List (Int × Int)) : Prop := ∀ (j : Nat) (p : Int × Int), ps[j]? = some p → ∃ b o, va = some ⟨b, o, none⟩ ∧ w.cell? ⟨b, o + j * 2, none⟩ = some (.int .i64 p.1) ∧ w.cell? ⟨b, o + j * 2 + 1, none⟩ = some (.int .i64 p.2)
theorem FltV.below {w w' : World} {va : Option Addr} {ps : List (Int × Int)} (h : FltV w va ps) (hb : Below w.heap.size w w') : FltV w' va ps := fun j p hj => by
  obtain ⟨b, o, e, h1, h2⟩ := h j p hj
  exact ⟨b, o, e, (hb.cell (p := ⟨b, o + j * 2, none⟩) (cell_lt h1)).trans h1, (hb.cell (p := ⟨b, o + j * 2 + 1, none⟩) (cell_lt h2)).trans h2⟩
structure OkTo (ps : List (Int × Int)) (k : Nat) : Prop where
  each : ∀ (j : Nat) (p : Int × Int), j < k → ps[j]? = some p → 1 ≤ p.1 ∧ 1 ≤ p.2 ∧ p.2 ≤ 3
  two : ∀ (i j : Nat) (p q : Int × Int), i < j → j < k → ps[i]? = some p → ps[j]? = some q → p.1 ≠ q.1
def Right (ps : List (Int × Int)) : Prop := ps.length ≤ 64 ∧ OkTo ps ps.length
def RR (e : Ending) (ps : List (Int × Int)) : Prop := (e = .returned (.bool true) ∧ Right ps) ∨ (e = .returned (.bool false) ∧ ¬ Right ps)
set_option maxRecDepth 100000 in
set_option maxHeartbeats 8000000 in
theorem rright_any {w : World} (va : Option Addr) (vc : Nat) (ps : List (Int × Int)) (hv : FltV w va ps) :
    Calls Tryz.prog 67 #[.slice va ps.length vc] w fun e w' => RR e ps ∧ Below w.heap.size w w' := by
  by_cases h64 : 64 < ps.length
  · clear hv
    go_enter Tryz.func67, Tryz.ntmps67
    go_wp2
    go_ret
    exact ⟨Or.inr ⟨rfl, fun h => by have := h.1; omega⟩, Below.refl _ _⟩
  have HV : Hid (FltV w va ps) := hv
  clear hv
  go_enter Tryz.func67, Tryz.ntmps67
  go_wp2
  go_loopw [3] (fun i wr => ∃ k : Nat, k ≤ ps.length ∧ i = .int .i64 k ∧ OkTo ps k ∧ Below w.heap.size w wr) (fun i _ => ps.length - (intOf i).toNat)
  case atStart => exact ⟨0, Nat.zero_le _, rfl, ⟨fun j p hj => by omega, fun i j p q _ hj => by omega⟩, Below.refl _ _⟩
  case round =>
    obtain ⟨k, hk, rfl, hok, hb⟩ := hrel
    have HO : Hid (OkTo ps k ∧ Below w.heap.size w wr) := ⟨hok, hb⟩
    by_cases hkn : k < ps.length
    · obtain ⟨p, hp⟩ : ∃ p, ps[k]? = some p := ⟨_, List.getElem?_eq_getElem hkn⟩
      obtain ⟨g, o, rfl, c0, c1⟩ := (HV.out.below hb) k p hp
      have HP : Hid (ps[k]? = some p) := hp
      have hki : (k : Int) < ps.length := by omega
      clear hok hb hp
      by_cases h1 : p.1 < 1
      · go_wp2
        go_ret
        exact ⟨Or.inr ⟨rfl, fun h => by have := h.2.each k p hkn HP.out; omega⟩, HO.out.2⟩
      by_cases h2 : p.2 < 1
      · go_wp2
        go_ret
        exact ⟨Or.inr ⟨rfl, fun h => by have := h.2.each k p hkn HP.out; omega⟩, HO.out.2⟩
      by_cases h3 : 3 < p.2
      · go_wp2
        go_ret
        exact ⟨Or.inr ⟨rfl, fun h => by have := h.2.each k p hkn HP.out; omega⟩, HO.out.2⟩
      go_wp2
      go_loopw [4] (fun i w2 => ∃ m : Nat, m ≤ k ∧ i = .int .i64 m ∧ (∀ (j : Nat) (q : Int × Int), j < m → ps[j]? = some q → q.1 ≠ p.1) ∧ Below w.heap.size w w2) (fun i _ => k - (intOf i).toNat)
      case atStart => exact ⟨0, Nat.zero_le _, rfl, fun j q hj => by omega, HO.out.2⟩
      case round =>
        obtain ⟨m, hm, rfl, hno, hb2⟩ := hrel
        have HO2 : Hid ((∀ (j : Nat) (q : Int × Int), j < m → ps[j]? = some q → q.1 ≠ p.1) ∧ Below w.heap.size w wr) := ⟨hno, hb2⟩
        obtain ⟨g', o', hgo, d0, d1⟩ := (HV.out.below hb2) k p HP.out
        injection hgo with hgo
        injection hgo with e1 e2 _
        subst e1 e2
        by_cases hmk : m < k
        · obtain ⟨q, hq⟩ : ∃ q, ps[m]? = some q := ⟨_, List.getElem?_eq_getElem (by omega)⟩
          obtain ⟨g', o', hgo, q0, q1⟩ := (HV.out.below hb2) m q hq
          injection hgo with hgo
          injection hgo with e1 e2 _
          subst e1 e2
          have HQ : Hid (ps[m]? = some q) := hq
          have hmi : (m : Int) < k := by omega
          have hmn : (m : Int) < ps.length := by omega
          clear hno hb2 hq c0 c1
          by_cases heq : q.1 = p.1
          · have heq' : (q.1 == p.1) = true := by simpa using heq
            have HE : Hid (q.1 = p.1) := heq
            clear heq
            go_wp2
            go_quiet (fail)
            go_wp2
            go_ret
            refine ⟨Or.inr ⟨rfl, fun h => absurd HE.out (h.2.two m k q p hmk hkn HQ.out HP.out)⟩, HO2.out.2.os, HO2.out.2.tape, HO2.out.2.output, HO2.out.2.size, HO2.out.2.block⟩
          · have heq' : (q.1 == p.1) = false := by simpa using heq
            have HE : Hid (q.1 ≠ p.1) := heq
            clear heq
            go_wp2
            go_quiet (fail)
            go_wp2
            go_roundw
            case rel =>
              refine ⟨m + 1, by omega, by go_num, fun j r hj hr => ?_, HO2.out.2.os, HO2.out.2.tape, HO2.out.2.output, HO2.out.2.size, HO2.out.2.block⟩
              by_cases ej : j = m
              · subst ej
                rw [HQ.out] at hr
                injection hr with hr
                rw [← hr]
                exact HE.out
              · exact HO2.out.1 j r (by omega) hr
            case measure => simp [intOf]; omega
        · obtain rfl : m = k := by omega
          clear hno hb2 c0 c1
          go_wp2
          go_roundw
          case rel =>
            refine ⟨m + 1, by omega, by go_num, ⟨fun j r hj hr => ?_, fun i j r q hij hj hr hq => ?_⟩, HO2.out.2⟩
            · by_cases ej : j = m
              · subst ej
                rw [HP.out] at hr
                injection hr with hr
                rw [← hr]
                omega
              · exact HO.out.1.each j r (by omega) hr
            · by_cases ej : j = m
              · subst ej
                rw [HP.out] at hq
                injection hq with hq
                rw [← hq]
                exact HO2.out.1 i r hij hr
              · exact HO.out.1.two i j r q hij (by omega) hr hq
          case measure => simp [intOf]; omega
    · obtain rfl : k = ps.length := by omega
      clear hok hb hkn
      go_wp2
      go_ret
      exact ⟨Or.inl ⟨rfl, by omega, HO.out.1⟩, HO.out.2⟩
end Go.Proofs.YtoplejbmgpgkhaaGreatDoor
/- disk: the document's Arm. -/
namespace Go.Proofs.YtoplejbmgpgkhaaGreatDoor
open Go.RowKit Go.Maps Go.Joins
set_option linter.unusedSimpArgs false
set_option linter.unusedVariables false
theorem info82b : (Tryz.prog.info? 106).map (fun i => (i.zero, i.size, i.bytes)) = some (some (.agg #[.int .i64 0, .int .i64 0]), 2, 16) := by kernel_rfl
theorem info82c : ∃ i, Tryz.prog.info? 106 = some i ∧ i.zero = some (.agg #[.int .i64 0, .int .i64 0]) ∧ i.size = 2 ∧ i.bytes = 16 := by
  have := info82b
  cases h : Tryz.prog.info? 106 with
  | none => rw [h] at this; cases this
  | some i =>
    rw [h] at this
    simp at this
    exact ⟨i, rfl, this.1, this.2.1, this.2.2⟩
theorem plL_length (ps : List (Int × Int)) : (plL ps).length = ps.length * 2 := by
  induction ps with
  | nil => rfl
  | cons p ps ih =>
    have e : plL (p :: ps) = .int .i64 p.1 :: .int .i64 p.2 :: plL ps := rfl
    rw [e, List.length_cons, List.length_cons, List.length_cons, ih]
    omega
theorem plL_one (ps : List (Int × Int)) : ∀ u ∈ plL ps, u.oneCell' = true := by
  intro u hu
  unfold plL at hu
  obtain ⟨p, _, hp⟩ := List.mem_flatMap.1 hu
  simp at hp
  rcases hp with rfl | rfl <;> rfl
theorem flt_cells {w : World} {ad : Addr} {ps : List (Int × Int)} (h : FltV w (some ad) ps) (j : Nat) (u : Value) (hu : (plL ps)[j]? = some u) : w.cell? (ad.add j) = some u := by
  have hj := (List.getElem?_eq_some_iff.1 hu).1
  rw [plL_length] at hj
  obtain ⟨p, hp⟩ : ∃ p, ps[j / 2]? = some p := ⟨_, List.getElem?_eq_getElem (by omega)⟩
  obtain ⟨b', o, e, h0, h1⟩ := h _ p hp
  injection e with e
  subst e
  have hg := plL_get hp
  rw [Addr.add_lit]
  rcases Nat.mod_two_eq_zero_or_one j with hm | hm
  · have ej : j / 2 * 2 = j := by omega
    rw [ej] at hg h0
    rw [hg.1] at hu
    rw [h0]
    exact hu
  · have ej : j / 2 * 2 + 1 = j := by omega
    rw [ej] at hg
    rw [hg.2] at hu
    have : o + j / 2 * 2 + 1 = o + j := by omega
    rw [this] at h1
    rw [h1]
    exact hu
/-- A new plan. -/
def setP (R : RS) (v : Value) (ps : List (Int × Int)) : RS := { R with pv := v, plan := ps, frm := R.n, own := fun b => if v.ownBlock = some b then 4 else R.own b }
theorem rarm_end {w w1 w2 : World} {br ocap : Nat} {oa : Option Addr} {R : RS} {ps : List (Int × Int)} (hR1 : RefIs w1 br R) (hB0 : Below w.heap.size w w1) (ho : w2.ownsRow w1.heap.size 106 2 (.slice oa ps.length ocap) ps.length (plL ps)) (hB : Below w1.heap.size w1 w2) (hR : RefIs w2 br R) :
    RefIs ((w2.setCell ⟨br, 4, none⟩ (.slice oa ps.length ocap)).setCell ⟨br, 1, none⟩ (.int .i64 R.n)) br (setP R (.slice oa ps.length ocap) ps) ∧ RFr w ((w2.setCell ⟨br, 4, none⟩ (.slice oa ps.length ocap)).setCell ⟨br, 1, none⟩ (.int .i64 R.n)) R (setP R (.slice oa ps.length ocap) ps) := by
  have hlt1 := hR1.lt
  have hk : ∀ b, b ≠ br → ((w2.setCell ⟨br, 4, none⟩ (.slice oa ps.length ocap)).setCell ⟨br, 1, none⟩ (.int .i64 R.n)).heap[b]? = w2.heap[b]? := fun b hb => (Below.heap_setCell _ _ _ _ hb).trans (Below.heap_setCell _ _ _ _ hb)
  have hold : ∀ b, R.own b ≠ 0 → (setP R (.slice oa ps.length ocap) ps).own b = R.own b := fun b hb => if_neg (fun hc => by
    have h1 := (ho.lt b hc).1
    have h2 := hR1.own_lt hb
    omega)
  have hown : ∀ b, R.own b ≠ 0 → R.own b ≠ 1 → b ≠ br := fun b _ h1 e => h1 (by rw [e]; exact hR.rd)
  refine ⟨⟨?_, ?_, ?_, fun b hb => ?_, fun f hf => ?_, fun f hf b hb => ?_, hR.nm, ?_, fun b hb => if_pos hb, fun b hb => ?_⟩, ?_⟩
  · rw [block_setCell (block_setCell hR.disk _) _]
    simp [rC, setP]
  · rw [hold br (by rw [hR.rd]; simp)]
    exact hR.rd
  · exact ownsRow_heap hR.list (fun b hb => hk b (hown b (by rw [hR.rl b hb]; simp) (by rw [hR.rl b hb]; simp)))
  · rw [hold b (by rw [hR.rl b hb]; simp)]
    exact hR.rl b hb
  · exact ownsRow_heap (hR.row f hf) (fun b hb => hk b (hown b (by rw [hR.rr f hf b hb]; simp) (by rw [hR.rr f hf b hb]; simp)))
  · rw [hold b (by rw [hR.rr f hf b hb]; simp)]
    exact hR.rr f hf b hb
  · exact ownsRow_le (ownsRow_heap ho (fun b hb => hk b (fun e => by have := (ho.lt b hb).1; omega))) (Nat.zero_le _)
  · show (if (Value.slice oa ps.length ocap).ownBlock = some b then 4 else R.own b) = 0
    have hb' : w2.heap.size ≤ b := by simpa using hb
    rw [if_neg (fun hc => by have := (ho.lt b hc).2; omega)]
    exact hR.fresh b hb'
  · refine ⟨hB.os.trans hB0.os, hB.tape.trans hB0.tape, hB.output.trans hB0.output, by simpa using Nat.le_trans hB0.size hB.size, fun b h0 h1 => ?_, fun b h0 h1 => ?_⟩
    · exact (hk b (fun e => by rw [e, hR.rd] at h1; cases h1)).trans ((hB.block b (Nat.lt_of_lt_of_le h0 hB0.size)).trans (hB0.block b h0))
    · show (if (Value.slice oa ps.length ocap).ownBlock = some b then 4 else R.own b) = 0
      rw [if_neg (fun hc => by have := (ho.lt b hc).1; have := hB0.size; omega)]
      exact h1
set_option maxRecDepth 100000 in
set_option maxHeartbeats 8000000 in
theorem rarm_no {w : World} {br : Nat} (va : Option Addr) (vc : Nat) (ps : List (Int × Int)) (hv : FltV w va ps) (hn : ¬ Right ps) :
    Calls Tryz.prog 27 #[.pointer (some ⟨br, 0, none⟩), .slice va ps.length vc] w fun e w' => e = .returned (.int .i64 1) ∧ Below w.heap.size w w' := by
  have hr := rright_any va vc ps hv
  have HN : Hid (¬ Right ps) := hn
  clear hv hn
  go_enter Tryz.func27, Tryz.ntmps27
  go_wp2_with (first
    | (go_at_call 67
       refine Calls.mono hr ?_
       clear hr
       rintro e w1 ⟨hrr, hb⟩
       rcases hrr with ⟨_, h2⟩ | ⟨rfl, _⟩
       · exact absurd h2 HN.out)
    | go_in)
  go_ret
  exact ⟨rfl, hb⟩
set_option maxRecDepth 100000 in
set_option maxHeartbeats 8000000 in
theorem rarm_ok {w : World} {br : Nat} {R : RS} (h : RefIs w br R) (ad : Addr) (vc : Nat) (ps : List (Int × Int)) (hv : FltV w (some ad) ps) (hn : Right ps) :
    Calls Tryz.prog 27 #[.pointer (some ⟨br, 0, none⟩), .slice (some ad) ps.length vc] w fun e w' => e = .returned (.int .i64 0) ∧ ∃ v, RefIs w' br (setP R v ps) ∧ RFr w w' R (setP R v ps) := by
  have hr := rright_any (some ad) vc ps hv
  have HN : Hid (Right ps) := hn
  have HV : Hid (FltV w (some ad) ps) := hv
  have HR : Hid (RefIs w br R) := h
  have hlt := h.lt
  have h64 := hn.1
  clear hv hn h
  go_enter Tryz.func27, Tryz.ntmps27
  go_wp2_with (first
    | (go_at_call 67
       refine Calls.mono hr ?_
       clear hr
       rintro e w1 ⟨hrr, hb⟩
       rcases hrr with ⟨rfl, _⟩ | ⟨_, h2⟩
       rotate_left
       · exact absurd HN.out h2
       have HB : Hid (Below w.heap.size w w1) := hb
       have HR1 : Hid (RefIs w1 br R) := HR.out.below hb
       have hlt1 := HR1.out.lt
       clear hb)
    | (at_builtin
       obtain ⟨i0, hi, hz0, hz1, hz2⟩ := info82c
       refine wpList_append_own_at _ rfl _ _ 38 rfl w1.heap.size 106 i0 _ 2 16 Tryz.underlying38 hi hz0 hz1 hz2 rfl (by decide) (.slice (some ⟨w1.heap.size, 0, none⟩) 0 0) 0 [] rfl ⟨rfl, Or.inr ⟨w1.heap.size, 0, #[], by simp, Nat.le_refl _, by have := heap_alloc_new w1 (.cells #[] 106); simpa using this, Nat.le_refl _, by decide, rfl, rfl⟩⟩ ad ps.length vc (plL ps) rfl (plL_length ps) (fun j u hu => flt_cells ((HV.out.below HB.out).below (by go_grown)) j u hu) (plL_one ps) (by unfold maxLen; omega) (by omega) (by simp) ?_
       intro v' w2 ho hg _ ha
       rw [List.nil_append, Nat.zero_add] at ho
       have hB : Below w1.heap.size w1 w2 := ((Below.refl _ w1).alloc (Nat.le_refl _) _).grown hg (by simp) (fun jj hjj => by have h9 : w1.heap.size = jj := (by simpa [Value.ownBlock] using hjj); omega)
       obtain ⟨oa, ocap, hov⟩ := row_form ho
       subst hov
       have H2 : Hid (w2.ownsRow w1.heap.size 106 2 (.slice oa ps.length ocap) ps.length (plL ps) ∧ Below w1.heap.size w1 w2 ∧ RefIs w2 br R) := ⟨ho, hB, HR1.out.below hB⟩
       obtain ⟨pa, pc, hpv⟩ := row_form (HR1.out.below hB).plan
       have d4 : w2.cell? ⟨br, 4, none⟩ = some (.slice pa R.plan.length pc) := by rw [cell_of_block (HR1.out.below hB).disk]; show some R.pv = _; rw [hpv]
       have d2 : w2.cell? ⟨br, 2, none⟩ = some (.int .i64 R.n) := by rw [cell_of_block (HR1.out.below hB).disk]; rfl
       have d1 : w2.cell? ⟨br, 1, none⟩ = some (.int .i64 R.frm) := by rw [cell_of_block (HR1.out.below hB).disk]; rfl
       have f4 : w2.frozen? ⟨br, 4, none⟩ = false := unfrozen_of_block (HR1.out.below hB).disk 4
       have f1 : w2.frozen? ⟨br, 1, none⟩ = false := unfrozen_of_block (HR1.out.below hB).disk 1
       clear ho hg ha hB hpv)
    | go_in)
  go_ret
  exact ⟨rfl, .slice oa ps.length ocap, rarm_end HR1.out HB.out H2.out.1 H2.out.2.1 H2.out.2.2⟩
set_option maxRecDepth 100000 in
set_option maxHeartbeats 8000000 in
theorem rarm_nil {w : World} {br : Nat} {R : RS} (h : RefIs w br R) :
    Calls Tryz.prog 27 #[.pointer (some ⟨br, 0, none⟩), .slice none 0 0] w fun e w' => e = .returned (.int .i64 0) ∧ ∃ v, RefIs w' br (setP R v []) ∧ RFr w w' R (setP R v []) := by
  have hn : Right [] := ⟨by simp, ⟨fun j p hj => by simp at hj, fun i j p q _ hj => by simp at hj⟩⟩
  have hr := rright_any (w := w) none 0 [] (fun j p hj => by simp at hj)
  have HN : Hid (Right []) := hn
  have HR : Hid (RefIs w br R) := h
  have hlt := h.lt
  clear hn h
  go_enter Tryz.func27, Tryz.ntmps27
  go_wp2_with (first
    | (go_at_call 67
       refine Calls.mono hr ?_
       clear hr
       rintro e w1 ⟨hrr, hb⟩
       rcases hrr with ⟨rfl, _⟩ | ⟨_, h2⟩
       rotate_left
       · exact absurd HN.out h2
       have HB : Hid (Below w.heap.size w w1) := hb
       have HR1 : Hid (RefIs w1 br R) := HR.out.below hb
       clear hb)
    | (at_builtin
       obtain ⟨i0, hi, hz0, hz1, hz2⟩ := info82c
       have ho : (w1.alloc (.cells #[] 106)).ownsRow w1.heap.size 106 2 (.slice (some ⟨w1.heap.size, 0, none⟩) 0 0) 0 [] := ⟨rfl, Or.inr ⟨w1.heap.size, 0, #[], by simp, Nat.le_refl _, by have := heap_alloc_new w1 (.cells #[] 106); simpa using this, Nat.le_refl _, by decide, rfl, rfl⟩⟩
       have hB : Below w1.heap.size w1 (w1.alloc (.cells #[] 106)) := by go_grown
       have H2 : Hid ((w1.alloc (.cells #[] 106)).ownsRow w1.heap.size 106 2 (.slice (some ⟨w1.heap.size, 0, none⟩) 0 0) 0 [] ∧ Below w1.heap.size w1 (w1.alloc (.cells #[] 106)) ∧ RefIs (w1.alloc (.cells #[] 106)) br R) := ⟨ho, hB, HR1.out.below hB⟩
       refine wpList_append_own_none rfl _ _ 38 rfl w1.heap.size 106 i0 2 Tryz.underlying38 hi (.slice (some ⟨w1.heap.size, 0, none⟩) 0 0) 0 [] rfl H2.out.1 rfl ?_
       obtain ⟨pa, pc, hpv⟩ := row_form H2.out.2.2.plan
       have d4 : (w1.alloc (.cells #[] 106)).cell? ⟨br, 4, none⟩ = some (.slice pa R.plan.length pc) := by rw [cell_of_block H2.out.2.2.disk]; show some R.pv = _; rw [hpv]
       have d2 : (w1.alloc (.cells #[] 106)).cell? ⟨br, 2, none⟩ = some (.int .i64 R.n) := by rw [cell_of_block H2.out.2.2.disk]; rfl
       have d1 : (w1.alloc (.cells #[] 106)).cell? ⟨br, 1, none⟩ = some (.int .i64 R.frm) := by rw [cell_of_block H2.out.2.2.disk]; rfl
       have f4 : (w1.alloc (.cells #[] 106)).frozen? ⟨br, 4, none⟩ = false := unfrozen_of_block H2.out.2.2.disk 4
       have f1 : (w1.alloc (.cells #[] 106)).frozen? ⟨br, 1, none⟩ = false := unfrozen_of_block H2.out.2.2.disk 1
       generalize w1.alloc (.cells #[] 106) = w2 at H2 d4 d2 d1 f4 f1 ⊢
       clear ho hB hpv)
    | go_in)
  go_ret
  exact ⟨rfl, .slice (some ⟨w1.heap.size, 0, none⟩) 0 0, rarm_end (ps := []) HR1.out HB.out H2.out.1 H2.out.2.1 H2.out.2.2⟩
end Go.Proofs.YtoplejbmgpgkhaaGreatDoor
