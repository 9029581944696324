/- PE, PF, PR, PU, PV, PK, PL, PO, PW, WG, laid into one text. -/
import Derived.Test.YtconkienlcegaaaGreatDoorM11
import Derived.Test.YtconkienlcegaaaGreatDoorM13
import Derived.Test.YtconkienlcegaaaGreatDoorM10
import Derived.BigQuiet
import Derived.Deep.AppendLies
import Derived.Maps.Views
import Derived.Test.YtconkienlcegaaaGreatDoorM12
import Derived.Test.YtconkienlcegaaaGreatDoorRows
import Derived.Carry
import Derived.ChangeSlices
import Derived.ChangeMaps5
import Derived.SizedLaws
import Derived.Deep.Slices
import Derived.Deep.Fields
/- disk: the document's calls by what they tell, on a disk that may be down or have a plan. -/
namespace Go.Proofs.YtconkienlcegaaaGreatDoor
open Go.RowKit Go.Maps Go.Joins
set_option linter.unusedSimpArgs false
set_option linter.unusedVariables false
structure HB (R : RS) (ro : Int) : Prop where
  planR : PlanR R
  cnt : Rn R
  rm : R.room = ro
  r0 : 0 ≤ ro ∧ ro ≤ 1073741824
  wf : Wf (absR R.A) ro
  srt : Srt (absR R.A)
structure HS (R R' : RS) (dn : Bool) (n : Int) (l : List Tf) : Prop where
  room : R'.room = R.room
  down : R'.down = dn
  plan : R'.plan = R.plan
  frm : R'.frm = R.frm
  n : R'.n = n
  abs : absR R'.A = l
theorem HB.len {R : RS} {ro : Int} (h : HB R ro) : R.A.length ≤ 16 := by
  have := h.wf.len
  unfold absR at this
  rw [List.length_map] at this
  exact this
theorem HS.up (R : RS) : HS R { R with n := R.n + 1, down := false } false (R.n + 1) (absR R.A) := ⟨rfl, rfl, rfl, rfl, rfl, rfl⟩
theorem HS.st (R : RS) (a b : ByteArray) : HS R (rstS R a b) (rstS R a b).down (rstS R a b).n (absR R.A) := by
  unfold rstS
  split
  · exact ⟨rfl, rfl, rfl, rfl, rfl, rfl⟩
  · split <;> exact ⟨rfl, rfl, rfl, rfl, rfl, rfl⟩
end Go.Proofs.YtconkienlcegaaaGreatDoor
/- disk: both disks side by side, whatever their plans. -/
namespace Go.Proofs.YtconkienlcegaaaGreatDoor
open Go.RowKit Go.Maps Go.Joins
set_option linter.unusedSimpArgs false
set_option linter.unusedVariables false
/-- The kind of a plan's fault at a step. -/
def pK (l : List (Int × Int)) (x : Int) : Int := match l.find? (fun p => p.1 == x) with
  | some p => p.2
  | none => 0
/-- Both disks, side by side. -/
structure Tw (w : World) (bd br : Nat) (S : DS) (R : RS) (ro : Int) : Prop where
  disk : DiskIs w bd S
  gb : GB S ro
  ref : RefIs w br R
  hb : HB R ro
  same : absP S = absR R.A
  apart : ∀ b, R.own b ≠ 0 → S.role b = .none
  down : S.down = R.down
  steps : S.steps = R.n
  armed : S.armed = R.frm
  plan : ∀ x, 1 ≤ x → S.plan x = pK R.plan x
theorem Tw.below {w w' : World} {bd br : Nat} {S : DS} {R : RS} {ro : Int} (h : Tw w bd br S R ro) (hb : Below w.heap.size w w') : Tw w' bd br S R ro :=
  ⟨h.disk.below hb, h.gb, h.ref.below hb, h.hb, h.same, h.apart, h.down, h.steps, h.armed, h.plan⟩
theorem Tw.kind {w : World} {bd br : Nat} {S : DS} {R : RS} {ro : Int} (h : Tw w bd br S R ro) : stK S = rplK R := by
  have hc := h.gb.cnt
  unfold Cnt at hc
  unfold stK
  rw [h.plan _ (by omega), h.steps, h.armed]
  rfl
theorem Tw.stepE {w : World} {bd br : Nat} {S : DS} {R : RS} {ro : Int} (h : Tw w bd br S R ro) {ns : List ByteArray} {a b : ByteArray} (hn : okN ns = (nameB a && nameB b)) : rstE R a b = stepE S ns := by
  unfold rstE Proofs.YtconkienlcegaaaGreatDoor.stepE
  rw [h.kind, hn, h.down]
theorem Tw.stepD {w : World} {bd br : Nat} {S : DS} {R : RS} {ro : Int} (h : Tw w bd br S R ro) {ns : List ByteArray} {a b : ByteArray} (hn : okN ns = (nameB a && nameB b)) : (rstS R a b).down = (stepS S ns).down ∧ (rstS R a b).n = (stepS S ns).steps := by
  have hk := h.kind
  have hd := h.down
  have hs := h.steps
  unfold rstS stepS
  rw [hn, hk, hd]
  cases hR : R.down
  · cases hN : (nameB a && nameB b)
    · exact ⟨by simp [hR, hd], by simp [hs]⟩
    · exact ⟨by simp, by simp [hs]⟩
  · exact ⟨by simp [hR, hd], by simp [hs]⟩
theorem stepS_le (S : DS) (ns : List ByteArray) : S.steps ≤ (stepS S ns).steps ∧ (stepS S ns).steps ≤ S.steps + 1 := by
  unfold stepS
  split
  · exact ⟨by omega, by omega⟩
  · split
    · exact ⟨by show S.steps ≤ S.steps + 1; omega, by show S.steps + 1 ≤ S.steps + 1; omega⟩
    · exact ⟨by omega, by omega⟩
theorem Tw.first {w w1 : World} {bd br : Nat} {S S' : DS} {R : RS} {ro : Int} (h : Tw w bd br S R ro) (hD : DiskIs w1 bd S') (hF : Fr w w1 S S') : Mid w w1 bd br S S' R :=
  ⟨hD, h.ref.kept (fun b hb => hF.block b (h.ref.own_lt hb) (h.apart b hb)) hF.size, fun b hb => hF.role b (h.ref.own_lt hb) (h.apart b hb),
   ⟨hF.os, hF.tape, hF.output, hF.size, fun b hb h1 _ => hF.block b hb h1, fun b hb h1 h2 => ⟨hF.role b hb h1, h2⟩⟩⟩
theorem Tw.next {w w2 : World} {bd br : Nat} {S S' : DS} {R R' : RS} {ro : Int} {l : List Tf} {ns : List ByteArray} {a b : ByteArray} (hn : okN ns = (nameB a && nameB b)) (h : Tw w bd br S R ro) (hD : DiskIs w2 bd S') (hR : RefIs w2 br R') (hap : ∀ b, R'.own b ≠ 0 → S'.role b = .none) (hp : GS S S' (stepS S ns).down (stepS S ns).steps l) (hr : HS R R' (rstS R a b).down (rstS R a b).n l) (hw : Wf l ro) (hst : S.steps < 4611686018427387903) : Tw w2 bd br S' R' ro := by
  have hc := h.gb.cnt
  unfold Cnt at hc
  have h1 := stepS_le S ns
  have h2 := h.stepD hn
  have hs := h.steps
  have ha := h.armed
  refine ⟨hD, ⟨?_, hp.room.trans h.gb.rm, h.gb.r0, by rw [hp.abs]; exact hw⟩, hR, ⟨⟨?_, ?_, ?_⟩, ?_, hr.room.trans h.hb.rm, h.gb.r0, by rw [hr.abs]; exact hw, ?_⟩, by rw [hp.abs, hr.abs], hap, by rw [hp.down, hr.down, h2.1], by rw [hp.steps, hr.n, h2.2], by rw [hp.armed, hr.frm]; exact ha, fun x hx => by rw [hp.plan, hr.plan]; exact h.plan x hx⟩
  · unfold Cnt
    rw [hp.armed, hp.steps]
    omega
  · rw [hr.plan]; exact h.hb.planR.len
  · rw [hr.plan]; exact h.hb.planR.kind
  · intro _
    rw [hr.frm, hr.n, h2.2, ← ha]
    omega
  · unfold Rn
    rw [hr.n, h2.2]
    omega
  · rw [hr.abs, ← hp.abs]
    exact hD.srt
end Go.Proofs.YtconkienlcegaaaGreatDoor
/- disk: the document's RightPlan. -/
namespace Go.Proofs.YtconkienlcegaaaGreatDoor
open Go.RowKit Go.Maps Go.Joins
set_option linter.unusedSimpArgs false
set_option linter.unusedVariables false
/-- Faults that lie in memory. -/
def FltV (w : World) (va : Option Addr) (ps : List (Int × Int)) : Prop := ∀ (j : Nat) (p : Int × Int), ps[j]? = some p → ∃ b o, va = some ⟨b, o, none⟩ ∧ w.cell? ⟨b, o + j * 2, none⟩ = some (.int .i64 p.1) ∧ w.cell? ⟨b, o + j * 2 + 1, none⟩ = some (.int .i64 p.2)
theorem FltV.below {w w' : World} {va : Option Addr} {ps : List (Int × Int)} (h : FltV w va ps) (hb : Below w.heap.size w w') : FltV w' va ps := fun j p hj => by
  obtain ⟨b, o, e, h1, h2⟩ := h j p hj
  exact ⟨b, o, e, (hb.cell (p := ⟨b, o + j * 2, none⟩) (cell_lt h1)).trans h1, (hb.cell (p := ⟨b, o + j * 2 + 1, none⟩) (cell_lt h2)).trans h2⟩
end Go.Proofs.YtconkienlcegaaaGreatDoor
/- disk: Arm. -/
namespace Go.Proofs.YtconkienlcegaaaGreatDoor
open Go.RowKit Go.Maps Go.Joins
set_option linter.unusedSimpArgs false
set_option linter.unusedVariables false
def hasP (l : List (Int × Int)) (x : Int) : Bool := l.any (fun p => p.1 == x)
/-- The program's map of a plan. -/
structure PlD (D : DataW Unit) (l : List (Int × Int)) : Prop where
  map : IsMap D
  kind : ∀ x, D.atKey (.int .i64 x) (.lit (.int .i64 0)) = .lit (.int .i64 (pK l x))
  has : ∀ x, Maps.has D (.int .i64 x) = hasP l x
theorem PlD.nil : PlD (.map []) [] := ⟨isMap_empty, fun _ => rfl, fun _ => rfl⟩
theorem pK_snoc {l : List (Int × Int)} {p : Int × Int} (h : hasP l p.1 = false) (x : Int) : pK (l ++ [p]) x = if x = p.1 then p.2 else pK l x := by
  unfold pK
  rw [List.find?_append]
  by_cases e : x = p.1
  · subst e
    have : l.find? (fun q => q.1 == p.1) = none := by
      rw [List.find?_eq_none]
      intro q hq
      unfold hasP at h
      rw [List.any_eq_false] at h
      simpa using h q hq
    rw [this]
    simp
  · rw [if_neg e]
    have : [p].find? (fun q => q.1 == x) = none := by
      rw [List.find?_eq_none]
      intro q hq
      simp at hq
      subst hq
      simpa using fun h => e h.symm
    rw [this, Option.or_none]
theorem PlD.put {D : DataW Unit} {l : List (Int × Int)} (h : PlD D l) {p : Int × Int} (hn : hasP l p.1 = false) : PlD (D.put (.int .i64 p.1) (.lit (.int .i64 p.2))) (l ++ [p]) := by
  have hk : WideAt.IsKeyLit (.int .i64 p.1) := trivial
  refine ⟨(?_ : IsMap _), fun x => ?_, fun x => ?_⟩
  · obtain ⟨es, rfl⟩ := h.map
    exact ⟨_, rfl⟩
  · rw [pK_snoc hn]
    by_cases e : x = p.1
    · subst e
      rw [atKey_put_same h.map hk, if_pos rfl]
    · rw [atKey_put_other (fun hc => e (by injection hc)), h.kind, if_neg e]
  · unfold hasP
    rw [List.any_append]
    by_cases e : x = p.1
    · subst e
      rw [has_put_same h.map hk]
      simp
    · rw [has_put_other (fun hc => e (by injection hc)), h.has]
      have : [p].any (fun q => q.1 == x) = false := by simpa using fun h => e h.symm
      rw [this, Bool.or_false]
      rfl
end Go.Proofs.YtconkienlcegaaaGreatDoor
/- disk: does, Arm. -/
namespace Go.Proofs.YtconkienlcegaaaGreatDoor
open Go.RowKit Go.Maps Go.Joins
set_option linter.unusedSimpArgs false
set_option linter.unusedVariables false
theorem FltV.fr {w w' : World} {S S' : DS} {va : Option Addr} {ps : List (Int × Int)} (h : FltV w va ps) (hr : ∀ b o, va = some ⟨b, o, none⟩ → ps ≠ [] → S.role b = .none) (hF : Fr w w' S S') : FltV w' va ps := by
  intro j p hj
  obtain ⟨b, o, rfl, h0, h1⟩ := h j p hj
  have hne : ps ≠ [] := by rintro rfl; simp at hj
  have hb := hF.block b (cell_lt h0) (hr b o rfl hne)
  exact ⟨b, o, rfl, (World.cell?_of_block (a := ⟨b, o + j * 2, none⟩) hb).trans h0, (World.cell?_of_block (a := ⟨b, o + j * 2 + 1, none⟩) hb).trans h1⟩
end Go.Proofs.YtconkienlcegaaaGreatDoor
/- disk: the document's Spoil. -/
namespace Go.Proofs.YtconkienlcegaaaGreatDoor
open Go.RowKit Go.Maps Go.Joins
set_option linter.unusedSimpArgs false
set_option linter.unusedVariables false
/-- One file of the list is another, with bytes in a block of their own. -/
def setB (R : RS) (k : Nat) (f' : RF) (z : Nat) : RS := { R with A := R.A.set k f', own := fun b => if z ≤ b ∧ f'.bv.ownBlock = some b then 3 else R.own b }
end Go.Proofs.YtconkienlcegaaaGreatDoor
/- disk: Spoil of both by what it tells. -/
namespace Go.Proofs.YtconkienlcegaaaGreatDoor
open Go.RowKit Go.Maps Go.Joins
set_option linter.unusedSimpArgs false
set_option linter.unusedVariables false
theorem GS.same (S : DS) : GS S S S.down S.steps (absP S) := ⟨rfl, rfl, rfl, rfl, rfl, rfl⟩
theorem HS.same (R : RS) : HS R R R.down R.n (absR R.A) := ⟨rfl, rfl, rfl, rfl, rfl, rfl⟩
end Go.Proofs.YtconkienlcegaaaGreatDoor
/- disk: Boot of both by what it leaves; names in their order. -/
namespace Go.Proofs.YtconkienlcegaaaGreatDoor
open Go.RowKit Go.Maps Go.Joins
set_option linter.unusedSimpArgs false
set_option linter.unusedVariables false
theorem before_lt : ∀ (x y : List UInt8), bytesBefore x y = true → x < y
  | [], [], h => by simp [bytesBefore] at h
  | [], b :: y, _ => List.nil_lt_cons b y
  | a :: x, [], h => by simp [bytesBefore] at h
  | a :: x, b :: y, h => by
    rw [List.cons_lt_cons_iff]
    simp only [bytesBefore, Bool.or_eq_true, Bool.and_eq_true, decide_eq_true_eq, beq_iff_eq] at h
    rcases h with h | ⟨h1, h2⟩
    · exact Or.inl h
    · exact Or.inr ⟨h1, before_lt x y h2⟩
theorem names_sorted {w : World} {bd : Nat} {S : DS} (h : DiskIs w bd S) {ss : List (List UInt8)} (hp : ss.Perm (S.fs.map (·.1))) : ss.mergeSort (fun x y => decide (x ≤ y)) = S.fs.map (·.1) := by
  have hs : (S.fs.map (·.1)).Pairwise (fun a b => decide (a ≤ b) = true) := by
    have h1 := h.srt
    unfold Srt absP at h1
    rw [List.pairwise_map] at h1 ⊢
    exact h1.imp fun {a b} h2 => by
      simp only [decide_eq_true_eq]
      exact List.le_of_lt (before_lt _ _ h2)
  refine List.Perm.eq_of_pairwise (le := fun a b => decide (a ≤ b) = true) (fun a b _ _ h1 h2 => ?_) (List.pairwise_mergeSort (fun a b c h1 h2 => ?_) (fun a b => ?_) ss) hs ((List.mergeSort_perm ss _).trans hp)
  · simp only [decide_eq_true_eq] at h1 h2
    exact List.le_antisymm h1 h2
  · simp only [decide_eq_true_eq] at h1 h2 ⊢
    exact List.le_trans h1 h2
  · simp only [Bool.or_eq_true, decide_eq_true_eq]
    exact List.le_total a b
def keepT (p : Tf) (ks : List Int) (j : Nat) : Int := match ks[j]? with
  | none => p.2.2
  | some x => min (max x p.2.2) p.2.1.length
def bootT (l : List Tf) (ks : List Int) : List Tf := l.mapIdx fun j p => (p.1, p.2.1.take (keepT p ks j).toNat, keepT p ks j)
theorem cut_abs {w : World} {bd : Nat} {S S' : DS} {ks : List Int} {ss : List (List UInt8)} (h : DiskIs w bd S) (hp : ss.Perm (S.fs.map (·.1))) (hc : Cutto (upS S) S' (ss.mergeSort (fun x y => decide (x ≤ y))) ks ss.length) : absP S' = bootT (absP S) ks := by
  rw [names_sorted h hp] at hc
  have hfs : S'.fs = S.fs := hc.fs
  have hlen : ss.length = S.fs.length := by rw [hp.length_eq, List.length_map]
  apply List.ext_getElem?
  intro j
  unfold absP bootT
  rw [List.getElem?_mapIdx, List.getElem?_map, List.getElem?_map, hfs]
  by_cases hj : j < S.fs.length
  · obtain ⟨p, hpj⟩ : ∃ p, S.fs[j]? = some p := ⟨_, List.getElem?_eq_getElem hj⟩
    have hd := hc.done j p.1 (by omega) (by rw [List.getElem?_map, hpj]; rfl)
    rw [hpj]
    show some (p.1, (S'.fl p.1).bs, (S'.fl p.1).safe) = _
    rw [hd.1, hd.2]
    rfl
  · rw [List.getElem?_eq_none (by omega)]
    rfl
theorem boot_sum {ks : List Int} : ∀ {l : List Tf} {o : Nat}, sumT (l.mapIdx fun j p => ((p.1, p.2.1.take (keepT p ks (o + j)).toNat, keepT p ks (o + j)) : Tf)) ≤ sumT l
  | [], _ => by simp [sumT]
  | p :: l, o => by
    rw [List.mapIdx_cons]
    have ih := boot_sum (ks := ks) (l := l) (o := o + 1)
    have e : (List.mapIdx ((fun j p => ((p.1, p.2.1.take (keepT p ks (o + j)).toNat, keepT p ks (o + j)) : Tf)) ∘ fun x => x + 1) l) = l.mapIdx fun j p => ((p.1, p.2.1.take (keepT p ks (o + 1 + j)).toNat, keepT p ks (o + 1 + j)) : Tf) := by
      congr 1
      funext j p
      simp only [Function.comp]
      rw [show o + (j + 1) = o + 1 + j by omega]
    simp only [sumT]
    rw [List.length_take]
    have e2 : (List.mapIdx (fun i p => ((p.1, p.2.1.take (keepT p ks (o + (i + 1))).toNat, keepT p ks (o + (i + 1))) : Tf)) l) = l.mapIdx fun j p => ((p.1, p.2.1.take (keepT p ks (o + 1 + j)).toNat, keepT p ks (o + 1 + j)) : Tf) := by
      congr 1
      funext j p
      rw [show o + (j + 1) = o + 1 + j by omega]
    rw [e2]
    omega
theorem boot_wf {l : List Tf} {ro : Int} (h : Wf l ro) (ks : List Int) : Wf (bootT l ks) ro := by
  refine ⟨by unfold bootT; rw [List.length_mapIdx]; exact h.len, ?_, fun p hp => ?_⟩
  · have h1 := boot_sum (ks := ks) (l := l) (o := 0)
    simp only [Nat.zero_add] at h1
    have h2 := h.sum
    unfold bootT
    omega
  · unfold bootT at hp
    obtain ⟨j, hj, hpj⟩ := List.mem_mapIdx.1 hp
    have hs := h.safe _ (List.getElem_mem hj)
    subst hpj
    simp only
    rw [List.length_take]
    unfold keepT
    split <;> omega
end Go.Proofs.YtconkienlcegaaaGreatDoor
/- disk: does whole; both Lists; DiskPlays' walk. -/
namespace Go.Proofs.YtconkienlcegaaaGreatDoor
open Go.RowKit Go.Maps Go.Joins Go.Sort
set_option linter.unusedSimpArgs false
set_option linter.unusedVariables false
/-- A slice of names. -/
def StrV (w : World) (v : Value) (l : List ByteArray) : Prop := ∃ a cap, v = .slice a l.length cap ∧ ∀ j s, l[j]? = some s → ∃ g, a = some ⟨g, 0, none⟩ ∧ w.cell? ⟨g, j, none⟩ = some (.string s)
theorem StrV.below {w w' : World} {v : Value} {l : List ByteArray} (h : StrV w v l) (hb : Below w.heap.size w w') : StrV w' v l := by
  obtain ⟨a, cap, rfl, hc⟩ := h
  refine ⟨a, cap, rfl, fun j s hj => ?_⟩
  obtain ⟨g, rfl, h1⟩ := hc j s hj
  exact ⟨g, rfl, (hb.cell (p := ⟨g, j, none⟩) (cell_lt h1)).trans h1⟩
theorem StrV.of_own {w : World} {base : Nat} {v : Value} {l : List ByteArray} (h : w.ownsRow base 9 1 v l.length (l.map Value.string)) : StrV w v l := by
  obtain ⟨a, cap, rfl⟩ := row_form h
  refine ⟨a, cap, rfl, fun j s hj => ?_⟩
  have hl := (List.getElem?_eq_some_iff.1 hj).1
  rcases h.2 with ⟨_, h0⟩ | ⟨g, cap', cur, e, _⟩
  · omega
  · injection e with e1 e2 e3
    subst e1
    have h0 := h.cells (g := g) rfl j (.string s) (by rw [List.getElem?_map, hj]; rfl)
    rw [Addr.add_lit, Nat.zero_add] at h0
    exact ⟨g, rfl, h0⟩
/-- Both disks behind k calls. -/
structure Pv (w w' : World) (bd br : Nat) (S : DS) (R : RS) (ro : Int) (k : Int) : Prop where
  tw : Tw w' bd br S R ro
  bel : Below w.heap.size w w'
  off : ∀ b, b < w.heap.size → S.role b = .none ∧ R.own b = 0
  st : S.steps ≤ k
theorem Pv.next {w w' w2 : World} {bd br : Nat} {S S' : DS} {R R' : RS} {ro k : Int} (h : Pv w w' bd br S R ro k) (hT : Tw w2 bd br S' R' ro) (hF : F2 w' w2 S R S' R') (hs : S'.steps ≤ S.steps + 1) : Pv w w2 bd br S' R' ro (k + 1) :=
  ⟨hT, ⟨hF.os.trans h.bel.os, hF.tape.trans h.bel.tape, hF.output.trans h.bel.output, Nat.le_trans h.bel.size hF.size, fun b hb => (hF.block b (Nat.lt_of_lt_of_le hb h.bel.size) (h.off b hb).1 (h.off b hb).2).trans (h.bel.block b hb)⟩, fun b hb => hF.off b (Nat.lt_of_lt_of_le hb h.bel.size) (h.off b hb).1 (h.off b hb).2, by have := h.st; omega⟩
theorem Pv.below {w w' w2 : World} {bd br : Nat} {S : DS} {R : RS} {ro k : Int} (h : Pv w w' bd br S R ro k) (hb : Below w'.heap.size w' w2) : Pv w w2 bd br S R ro k :=
  ⟨h.tw.below hb, h.bel.trans (hb.mono h.bel.size), h.off, h.st⟩
theorem Pv.new {w w1 w2 : World} {bd : Nat} {S : DS} {r : Int} (h0 : 0 ≤ r) (h1 : r ≤ 1073741824) (hD : DiskIs w1 bd S) (hb : Below w.heap.size w w1) (hS : S = { room := r, bm := w.heap.size, down := false, steps := 0, armed := 0, pl := none, plan := fun _ => 0, fs := [], fl := S.fl, role := S.role }) (hr : ∀ b, b < w.heap.size → S.role b = .none)
    (hR : RefIs w2 w1.heap.size { room := r, frm := 0, n := 0, lv := .slice none 0 0, A := [], pv := .slice none 0 0, plan := [], down := false, own := fun b => if b = w1.heap.size then 1 else 0 }) (hb2 : Below w1.heap.size w1 w2) :
    Pv w w2 bd w1.heap.size S { room := r, frm := 0, n := 0, lv := .slice none 0 0, A := [], pv := .slice none 0 0, plan := [], down := false, own := fun b => if b = w1.heap.size then 1 else 0 } r 0 := by
  have ha : absP S = [] := by rw [hS]; rfl
  refine ⟨⟨hD.below hb2, ⟨?_, by rw [hS], ⟨h0, h1⟩, by rw [ha]; exact wf_nil h0⟩, hR, ⟨PlanR.nil rfl, ?_, rfl, ⟨h0, h1⟩, wf_nil h0, List.Pairwise.nil⟩, by rw [ha]; rfl, fun b hb' => ?_, by rw [hS], by rw [hS], by rw [hS], fun x _ => by rw [hS]; rfl⟩, hb.trans (hb2.mono hb.size), fun b hb' => ⟨hr b hb', if_neg (by have := hb.size; omega)⟩, by rw [hS]; exact Int.le_refl 0⟩
  · rw [hS]
    unfold Cnt
    show (0 : Int) ≤ 0 ∧ (0 : Int) ≤ 0 ∧ (0 : Int) < 4611686018427387904
    omega
  · unfold Rn
    show (0 : Int) ≤ 0 ∧ (0 : Int) < 4611686018427387904
    omega
  · have : b = w1.heap.size := by
      by_cases e : b = w1.heap.size
      · exact e
      · exact absurd (if_neg e) hb'
    subst this
    exact hD.fresh _ (Nat.le_refl _)
end Go.Proofs.YtconkienlcegaaaGreatDoor
/- wal: a log on its disk. -/
namespace Go.Proofs.YtconkienlcegaaaGreatDoor
open Go.RowKit Go.Maps Go.Joins
set_option linter.unusedSimpArgs false
set_option linter.unusedVariables false
/-- A disk, told apart from memory. -/
structure DA where
  l : List Tf
  down : Bool
  steps : Int
  armed : Int
  plan : Int → Int
  room : Int
def absD (S : DS) : DA := ⟨absP S, S.down, S.steps, S.armed, S.plan, S.room⟩
def DA.k (A : DA) : Int := A.plan (A.steps + 1 - A.armed)
def DA.sE (A : DA) (s : ByteArray) : Int := if A.down then 32 else if nameB s then faultE A.k else 1
def DA.sS (A : DA) (s : ByteArray) : DA := if A.down then A else if nameB s then { A with down := decide (A.k = 3), steps := A.steps + 1 } else A
/-- A call: its error, the disk behind it. -/
def dDo (A : DA) (s : ByteArray) (e : Int) (l' : List Tf) : Int × DA := (if A.sE s = 0 then e else A.sE s, { A.sS s with l := if A.sE s = 0 then l' else A.l })
def dSync (A : DA) (s : ByteArray) : Int × DA := dDo A s (eFind A.l s) (lSync A.l s)
def dRead (A : DA) (s : ByteArray) : Int × DA := dDo A s (eFind A.l s) A.l
def dBytes (A : DA) (s : ByteArray) : List Int := if A.sE s = 0 then (match fT A.l (nb s) with | some p => p.2.1 | none => []) else []
def dTru (A : DA) (s : ByteArray) (x : Int) : Int × DA := dDo A s (eTru A.l s x) (lTru A.l s x)
def dApp (A : DA) (s : ByteArray) (bs : List Int) : Int × DA := dDo A s (eApp A.l A.room s bs) (lApp A.l A.room s bs)
theorem okN_one (s : ByteArray) : okN [s] = nameB s := by simp [okN]
theorem stepE_abs (S : DS) (s : ByteArray) : stepE S [s] = (absD S).sE s := by unfold stepE DA.sE; rw [okN_one]; rfl
theorem stepS_abs (S : DS) (s : ByteArray) : (stepS S [s]).down = ((absD S).sS s).down ∧ (stepS S [s]).steps = ((absD S).sS s).steps := by
  unfold stepS DA.sS
  rw [okN_one]
  show _ = (if S.down = true then absD S else if nameB s = true then { absD S with down := decide ((absD S).k = 3), steps := S.steps + 1 } else absD S).down ∧ _ = (if S.down = true then absD S else if nameB s = true then { absD S with down := decide ((absD S).k = 3), steps := S.steps + 1 } else absD S).steps
  split
  · exact ⟨rfl, rfl⟩
  · split
    · exact ⟨rfl, rfl⟩
    · exact ⟨rfl, rfl⟩
theorem sS_rest (A : DA) (s : ByteArray) : (A.sS s).armed = A.armed ∧ (A.sS s).plan = A.plan ∧ (A.sS s).room = A.room := by
  unfold DA.sS
  split
  · exact ⟨rfl, rfl, rfl⟩
  · split
    · exact ⟨rfl, rfl, rfl⟩
    · exact ⟨rfl, rfl, rfl⟩
theorem gs_abs {S S' : DS} {s : ByteArray} {e : Int} {l' : List Tf} (h : GS S S' (stepS S [s]).down (stepS S [s]).steps (gL (stepE S [s]) (absP S) l')) : absD S' = (dDo (absD S) s e l').2 := by
  obtain ⟨a1, a2⟩ := stepS_abs S s
  obtain ⟨b1, b2, b3⟩ := sS_rest (absD S) s
  have e1 : (dDo (absD S) s e l').2 = ⟨if (absD S).sE s = 0 then l' else absP S, ((absD S).sS s).down, ((absD S).sS s).steps, ((absD S).sS s).armed, ((absD S).sS s).plan, ((absD S).sS s).room⟩ := rfl
  have e2 : absD S' = ⟨absP S', S'.down, S'.steps, S'.armed, S'.plan, S'.room⟩ := rfl
  rw [e1, e2, h.abs, h.down, h.steps, h.armed, h.plan, h.room, a1, a2, b1, b2, b3]
  unfold gL
  rw [stepE_abs]
  rfl
theorem gI_abs (S : DS) (s : ByteArray) (e : Int) (l' : List Tf) : gI (stepE S [s]) e = (dDo (absD S) s e l').1 := by
  unfold gI
  rw [stepE_abs]
  rfl
theorem dDo_steps (A : DA) (s : ByteArray) (e : Int) (l' : List Tf) : A.steps ≤ (dDo A s e l').2.steps ∧ (dDo A s e l').2.steps ≤ A.steps + 1 := by
  show A.steps ≤ (A.sS s).steps ∧ (A.sS s).steps ≤ A.steps + 1
  unfold DA.sS
  split
  · omega
  · split
    · show A.steps ≤ A.steps + 1 ∧ A.steps + 1 ≤ A.steps + 1
      omega
    · omega
theorem GB.next {S S' : DS} {ro : Int} {s : ByteArray} {e : Int} {l' : List Tf} (h : GB S ro) (hG : GS S S' (stepS S [s]).down (stepS S [s]).steps (gL (stepE S [s]) (absP S) l')) (hw : Wf l' ro) (hst : S.steps < 4611686018427387903) : GB S' ro := by
  have h1 := gs_abs (e := e) hG
  have h2 := dDo_steps (absD S) s e l'
  have h3 : S'.steps = (dDo (absD S) s e l').2.steps := congrArg DA.steps h1
  have h4 : (absD S).steps = S.steps := rfl
  have hc := h.cnt
  unfold Cnt at hc
  refine ⟨?_, hG.room.trans h.rm, h.r0, ?_⟩
  · unfold Cnt
    rw [hG.armed]
    omega
  · rw [hG.abs]
    unfold gL
    split
    · exact hw
    · exact h.wf
/-- What lies beside a disk and a log stays. -/
structure F3 (w w' : World) (S : DS) (L : LS) (S' : DS) (L' : LS) : Prop where
  os : w'.os = w.os
  tape : w'.tape = w.tape
  output : w'.output = w.output
  size : w.heap.size ≤ w'.heap.size
  block : ∀ b, b < w.heap.size → S.role b = .none → L.own b = 0 → w'.heap[b]? = w.heap[b]?
  off : ∀ b, b < w.heap.size → S.role b = .none → L.own b = 0 → S'.role b = .none ∧ L'.own b = 0
theorem F3.refl (w : World) (S : DS) (L : LS) : F3 w w S L S L := ⟨rfl, rfl, rfl, Nat.le_refl _, fun _ _ _ _ => rfl, fun _ _ h h' => ⟨h, h'⟩⟩
theorem F3.trans {w w' w'' : World} {S S' S'' : DS} {L L' L'' : LS} (h : F3 w w' S L S' L') (k : F3 w' w'' S' L' S'' L'') : F3 w w'' S L S'' L'' :=
  ⟨k.os.trans h.os, k.tape.trans h.tape, k.output.trans h.output, Nat.le_trans h.size k.size,
   fun b hb h1 h2 => (k.block b (Nat.lt_of_lt_of_le hb h.size) (h.off b hb h1 h2).1 (h.off b hb h1 h2).2).trans (h.block b hb h1 h2),
   fun b hb h1 h2 => k.off b (Nat.lt_of_lt_of_le hb h.size) (h.off b hb h1 h2).1 (h.off b hb h1 h2).2⟩
theorem F3.below {w w' : World} {S : DS} {L : LS} (h : Below w.heap.size w w') : F3 w w' S L S L := ⟨h.os, h.tape, h.output, h.size, fun b hb _ _ => h.block b hb, fun _ _ h1 h2 => ⟨h1, h2⟩⟩
/-- A log and its disk. -/
structure DL (w : World) (bd bl : Nat) (S : DS) (L : LS) (ro : Int) : Prop where
  disk : DiskIs w bd S
  gb : GB S ro
  log : LogIs w bl L
  bdq : L.bd = bd
  apart : ∀ b, L.own b ≠ 0 → S.role b = .none
  vars : Vars w
  voff : ∀ b, b < 5 → S.role b = .none ∧ L.own b = 0
theorem DL.below {w w' : World} {bd bl : Nat} {S : DS} {L : LS} {ro : Int} (h : DL w bd bl S L ro) (hb : Below w.heap.size w w') : DL w' bd bl S L ro :=
  ⟨h.disk.below hb, h.gb, h.log.below hb, h.bdq, h.apart, h.vars.below hb, h.voff⟩
theorem DL.disked {w w' : World} {bd bl : Nat} {S S' : DS} {L : LS} {ro : Int} (h : DL w bd bl S L ro) (hD : DiskIs w' bd S') (hF : Fr w w' S S') (hG : GB S' ro) : DL w' bd bl S' L ro ∧ F3 w w' S L S' L := by
  have hvl := h.vars.lt
  refine ⟨⟨hD, hG, h.log.kept (fun b hb => hF.block b (h.log.own_lt hb) (h.apart b hb)) hF.size, h.bdq, fun b hb => hF.role b (h.log.own_lt hb) (h.apart b hb), h.vars.kept (fun b hb => hF.block b (by omega) (h.voff b hb).1), fun b hb => ⟨hF.role b (by omega) (h.voff b hb).1, (h.voff b hb).2⟩⟩, ⟨hF.os, hF.tape, hF.output, hF.size, fun b hb h1 _ => hF.block b hb h1, fun b hb h1 h2 => ⟨hF.role b hb h1, h2⟩⟩⟩
theorem DL.off {w : World} {bd bl : Nat} {S : DS} {L : LS} {ro : Int} (h : DL w bd bl S L ro) (b : Nat) (hb : S.role b ≠ .none) : L.own b = 0 := by
  cases h1 : L.own b with
  | zero => rfl
  | succ n => exact absurd (h.apart b (by rw [h1]; simp)) hb
theorem DL.logged {w w' : World} {bd bl : Nat} {S : DS} {L L' : LS} {ro : Int} (h : DL w bd bl S L ro) (hL : LogIs w' bl L') (hF : LFr w w' L L') (hq : L'.bd = L.bd) : DL w' bd bl S L' ro ∧ F3 w w' S L S L' := by
  have hvl := h.vars.lt
  refine ⟨⟨h.disk.kept (fun b hb => hF.block b (h.disk.role_lt hb) (h.off b hb)) hF.size, h.gb, hL, hq.trans h.bdq, fun b hb => ?_, h.vars.kept (fun b hb => hF.block b (by omega) (h.voff b hb).2), fun b hb => ⟨(h.voff b hb).1, hF.own b (by omega) (h.voff b hb).2⟩⟩, ⟨hF.os, hF.tape, hF.output, hF.size, fun b hb _ h2 => hF.block b hb h2, fun b hb h1 h2 => ⟨h1, hF.own b hb h2⟩⟩⟩
  rcases Nat.lt_or_ge b w.heap.size with h1 | h1
  · by_cases h2 : L.own b = 0
    · exact absurd (hF.own b h1 h2) hb
    · exact h.apart b h2
  · exact h.disk.fresh b h1
/-- "db" -/
def logB : ByteArray := ⟨#[100, 98]⟩
theorem logB_size : logB.size = 2 := rfl
theorem fileB_size (n : Int) : (fileB logB n).size ≤ 100 := by
  unfold fileB
  split
  · simp
  · rename_i h
    have := Lib.itoa_length_le n (by omega) (by omega)
    simp only [ByteArray.size_append, logB_size]
    show 2 + 1 + (Lib.itoa n).toArray.size ≤ 100
    simp
    omega
end Go.Proofs.YtconkienlcegaaaGreatDoor
