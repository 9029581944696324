/- PT, PU, PV, laid into one text. -/
import Derived.Test.YtoplejbmgpgkhaaGreatDoorM20
import Derived.Test.YtoplejbmgpgkhaaGreatDoorM19
import Derived.Deep.AppendLies
import Derived.Maps.Views
import Derived.Test.YtoplejbmgpgkhaaGreatDoorM16
/- disk: Plan; Arm. -/
namespace Go.Proofs.YtoplejbmgpgkhaaGreatDoor
open Go.RowKit Go.Maps Go.Joins
set_option linter.unusedSimpArgs false
set_option linter.unusedVariables false
theorem info79b : (Tryz.prog.info? 105).map (fun i => (i.zero, i.size, i.bytes)) = some (some (.agg #[.int .i64 0, .int .i64 0]), 2, 16) := by kernel_rfl
theorem info79c : ∃ i, Tryz.prog.info? 105 = some i ∧ i.zero = some (.agg #[.int .i64 0, .int .i64 0]) ∧ i.size = 2 ∧ i.bytes = 16 := by
  have := info79b
  cases h : Tryz.prog.info? 105 with
  | none => rw [h] at this; cases this
  | some i =>
    rw [h] at this
    simp at this
    exact ⟨i, rfl, this.1, this.2.1, this.2.2⟩
theorem plL_append (a b : List (Int × Int)) : plL (a ++ b) = plL a ++ plL b := by simp [plL]
theorem own_flt {w : World} {base : Nat} {oa : Option Addr} {n oc : Nat} {ps : List (Int × Int)} (h : w.ownsRow base 105 2 (.slice oa n oc) ps.length (plL ps)) : FltV w oa ps := by
  intro j p hj
  have hl := (List.getElem?_eq_some_iff.1 hj).1
  rcases h.2 with ⟨_, h0⟩ | ⟨g, cap, cur, e, _⟩
  · omega
  · injection e with e1 e2 e3
    subst e1
    have h0 := h.cells (g := g) rfl (j * 2) _ (plL_get hj).1
    have h1 := h.cells (g := g) rfl (j * 2 + 1) _ (plL_get hj).2
    rw [Addr.add_lit] at h0 h1
    exact ⟨g, 0, rfl, h0, by rw [← h1, Nat.add_assoc]⟩
set_option maxRecDepth 100000 in
set_option maxHeartbeats 8000000 in
theorem plan_any {w : World} (va : Option Addr) (vc : Nat) (ps : List (Int × Int)) (hv : FltV w va ps) (hl : ps.length * 16 ≤ 140737488351232) :
    Calls Tryz.prog 26 #[.slice va ps.length vc] w fun e w' => ∃ oa oc, e = .returned (.slice oa ps.length oc) ∧ FltV w' oa ps ∧ Below w.heap.size w w' := by
  have HV : Hid (FltV w va ps) := hv
  clear hv
  go_enter Tryz.func26, Tryz.ntmps26
  go_wp2
  go_loopw [3, 4] (fun o i wr => ∃ k : Nat, k ≤ ps.length ∧ i = .int .i64 k ∧ wr.ownsRow w.heap.size 105 2 o k (plL (ps.take k)) ∧ Below w.heap.size w wr) (fun _ i _ => ps.length - (intOf i).toNat)
  case atStart => exact ⟨0, Nat.zero_le _, rfl, World.ownsRow_nil _ _ _ _, Below.refl _ _⟩
  case round =>
    obtain ⟨k, hk, rfl, hown, hb⟩ := hrel
    obtain ⟨oa, ocap, hov⟩ := row_form hown
    subst hov
    by_cases hkl : k < ps.length
    · obtain ⟨p, hp⟩ : ∃ p, ps[k]? = some p := ⟨_, List.getElem?_eq_getElem hkl⟩
      obtain ⟨g, o, rfl, c0, c1⟩ := HV.out k p hp
      have hg0 : g < w.heap.size := cell_lt c0
      have c0 := (hb.cell (p := ⟨g, o + k * 2, none⟩) (cell_lt c0)).trans c0
      have c1 := (hb.cell (p := ⟨g, o + k * 2 + 1, none⟩) (cell_lt c1)).trans c1
      have hki : (k : Int) < ps.length := by omega
      have HO : Hid (wr.ownsRow w.heap.size 105 2 (.slice oa k ocap) k (plL (ps.take k)) ∧ Below w.heap.size w wr ∧ ps[k]? = some p) := ⟨hown, hb, hp⟩
      clear hown hb hp
      go_wp2_with fail
      refine wp_region_held_drew (S := fun w' => w'.cell? ⟨g, o + k * 2, none⟩ = some (.int .i64 p.1) ∧ w'.cell? ⟨g, o + k * 2 + 1, none⟩ = some (.int .i64 p.2)) (by kernel_rfl) ⟨c0, c1⟩ (fun hHeld => ?_)
      refine wpAnyH_take (i := 0) (v := .slice oa k ocap) rfl (by kernel_rfl) (by kernel_rfl) (by kernel_rfl) (fun _ _ _ h => h) (Or.inl ⟨by rfl, fun w9 hSw => ?_⟩) hHeld ?_
      · go_simp
      simp only [List.getElem_toArray, List.getElem_cons_succ, List.getElem_cons_zero, Act.put, List.setIfInBounds_toArray, List.set_cons_zero, List.set_cons_succ]
      refine wpAnyH_take (i := 1) (v := .slice (some ⟨g, o, none⟩) ps.length vc) rfl (by kernel_rfl) (by kernel_rfl) (by kernel_rfl) (fun _ _ _ h => h) (Or.inl ⟨by rfl, fun w9 hSw => ?_⟩) hHeld ?_
      · go_simp
      simp only [List.getElem_toArray, List.getElem_cons_succ, List.getElem_cons_zero, Act.put, List.setIfInBounds_toArray, List.set_cons_zero, List.set_cons_succ]
      refine wpAnyH_take (i := 2) (v := .int .i64 k) rfl (by kernel_rfl) (by kernel_rfl) (by kernel_rfl) (fun _ _ _ h => h) (Or.inl ⟨by rfl, fun w9 hSw => ?_⟩) hHeld ?_
      · go_simp
      simp only [List.getElem_toArray, List.getElem_cons_succ, List.getElem_cons_zero, Act.put, List.setIfInBounds_toArray, List.set_cons_zero, List.set_cons_succ]
      refine wpAnyH_take (i := 3) (v := .pointer (some ⟨g, o + k * 2, none⟩)) rfl (by kernel_rfl) (by kernel_rfl) (by kernel_rfl) (fun _ _ _ h => h) (Or.inl ⟨by rfl, fun w9 hSw => ?_⟩) hHeld ?_
      · go_simp
      simp only [List.getElem_toArray, List.getElem_cons_succ, List.getElem_cons_zero, Act.put, List.setIfInBounds_toArray, List.set_cons_zero, List.set_cons_succ]
      refine wpAnyH_take (i := 4) (v := .pointer (some ⟨g, o + k * 2, none⟩)) rfl (by kernel_rfl) (by kernel_rfl) (by kernel_rfl) (fun _ _ _ h => h) (Or.inl ⟨by rfl, fun w9 hSw => ?_⟩) hHeld ?_
      · go_simp
      simp only [List.getElem_toArray, List.getElem_cons_succ, List.getElem_cons_zero, Act.put, List.setIfInBounds_toArray, List.set_cons_zero, List.set_cons_succ]
      refine wpAnyH_take (i := 5) (v := .int .i64 p.1) rfl (by kernel_rfl) (by kernel_rfl) (by kernel_rfl) (fun _ _ _ h => h) (Or.inl ⟨by rfl, fun w9 hSw => ?_⟩) hHeld ?_
      · have hc := hSw.1
        go_simp
      simp only [List.getElem_toArray, List.getElem_cons_succ, List.getElem_cons_zero, Act.put, List.setIfInBounds_toArray, List.set_cons_zero, List.set_cons_succ]
      refine wpAnyH_take (i := 6) (v := .slice (some ⟨g, o, none⟩) ps.length vc) rfl (by kernel_rfl) (by kernel_rfl) (by kernel_rfl) (fun _ _ _ h => h) (Or.inl ⟨by rfl, fun w9 hSw => ?_⟩) hHeld ?_
      · go_simp
      simp only [List.getElem_toArray, List.getElem_cons_succ, List.getElem_cons_zero, Act.put, List.setIfInBounds_toArray, List.set_cons_zero, List.set_cons_succ]
      refine wpAnyH_take (i := 7) (v := .int .i64 k) rfl (by kernel_rfl) (by kernel_rfl) (by kernel_rfl) (fun _ _ _ h => h) (Or.inl ⟨by rfl, fun w9 hSw => ?_⟩) hHeld ?_
      · go_simp
      simp only [List.getElem_toArray, List.getElem_cons_succ, List.getElem_cons_zero, Act.put, List.setIfInBounds_toArray, List.set_cons_zero, List.set_cons_succ]
      refine wpAnyH_take (i := 8) (v := .pointer (some ⟨g, o + k * 2, none⟩)) rfl (by kernel_rfl) (by kernel_rfl) (by kernel_rfl) (fun _ _ _ h => h) (Or.inl ⟨by rfl, fun w9 hSw => ?_⟩) hHeld ?_
      · go_simp
      simp only [List.getElem_toArray, List.getElem_cons_succ, List.getElem_cons_zero, Act.put, List.setIfInBounds_toArray, List.set_cons_zero, List.set_cons_succ]
      refine wpAnyH_take (i := 9) (v := .pointer (some ⟨g, o + k * 2 + 1, none⟩)) rfl (by kernel_rfl) (by kernel_rfl) (by kernel_rfl) (fun _ _ _ h => h) (Or.inl ⟨by rfl, fun w9 hSw => ?_⟩) hHeld ?_
      · go_simp
      simp only [List.getElem_toArray, List.getElem_cons_succ, List.getElem_cons_zero, Act.put, List.setIfInBounds_toArray, List.set_cons_zero, List.set_cons_succ]
      refine wpAnyH_take (i := 10) (v := .int .i64 p.2) rfl (by kernel_rfl) (by kernel_rfl) (by kernel_rfl) (fun _ _ _ h => h) (Or.inl ⟨by rfl, fun w9 hSw => ?_⟩) hHeld ?_
      · have hc := hSw.2
        go_simp
      simp only [List.getElem_toArray, List.getElem_cons_succ, List.getElem_cons_zero, Act.put, List.setIfInBounds_toArray, List.set_cons_zero, List.set_cons_succ]
      refine wpAnyH_take (i := 11) (v := .agg #[.int .i64 p.1, .int .i64 p.2]) rfl (by kernel_rfl) (by kernel_rfl) (by kernel_rfl) (fun _ _ _ h => h) (Or.inl ⟨by rfl, fun w9 hSw => ?_⟩) hHeld ?_
      · go_simp
      simp only [List.getElem_toArray, List.getElem_cons_succ, List.getElem_cons_zero, Act.put, List.setIfInBounds_toArray, List.set_cons_zero, List.set_cons_succ]
      refine wpAnyH_ready (rs := [12]) (by kernel_rfl) (by simp) ?_
      refine AllReadyH.cons rfl (fun K hK => ?_) AllReadyH.nil
      have hO2 : wr.drew.ownsRow w.heap.size 105 2 (.slice oa k ocap) k (plL (ps.take k)) ∧ Below w.heap.size w wr.drew := ⟨HO.out.1, HO.out.2.1.os, HO.out.2.1.tape, HO.out.2.1.output, HO.out.2.1.size, HO.out.2.1.block⟩
      generalize wr.drew = w1 at hHeld hO2 ⊢
      have hO3 : (w1.alloc (.cells #[.int .i64 p.1, .int .i64 p.2] 105)).ownsRow w.heap.size 105 2 (.slice oa k ocap) k (plL (ps.take k)) ∧ Below w.heap.size w (w1.alloc (.cells #[.int .i64 p.1, .int .i64 p.2] 105)) ∧ (w1.alloc (.cells #[.int .i64 p.1, .int .i64 p.2] 105)).heap[w1.heap.size]? = some (.cells #[.int .i64 p.1, .int .i64 p.2] 105) := ⟨hO2.1.alloc _, hO2.2.alloc hO2.2.size _, heap_alloc_new _ _⟩
      have hS3 : (w1.alloc (.cells #[.int .i64 p.1, .int .i64 p.2] 105)).cell? ⟨g, o + k * 2, none⟩ = some (.int .i64 p.1) ∧ (w1.alloc (.cells #[.int .i64 p.1, .int .i64 p.2] 105)).cell? ⟨g, o + k * 2 + 1, none⟩ = some (.int .i64 p.2) := ⟨(Below.cell (p := ⟨g, o + k * 2, none⟩) (by go_grown) (cell_lt hHeld.1)).trans hHeld.1, (Below.cell (p := ⟨g, o + k * 2 + 1, none⟩) (by go_grown) (cell_lt hHeld.2)).trans hHeld.2⟩
      have HO2 : Hid _ := hO3
      clear hO2 hO3 hHeld
      go_simp
      refine hK.out _ _ hS3 (fun hHeld => ?_)
      clear hK K
      try simp only [List.getElem_toArray, List.getElem_cons_succ, List.getElem_cons_zero, Act.put, List.setIfInBounds_toArray, List.set_cons_zero, List.set_cons_succ]
      refine wpAnyH_ready (rs := [13]) (by kernel_rfl) (by simp) ?_
      refine AllReadyH.cons rfl (fun K hK => ?_) AllReadyH.nil
      generalize w1.alloc (.cells #[.int .i64 p.1, .int .i64 p.2] 105) = w2 at HO2 hHeld hS3 ⊢
      obtain ⟨i0, hi, hz0, hz1, hz2⟩ := info79c
      refine step_append_lies w2 (by rfl) _ _ 49 (by rfl) w.heap.size 105 i0 _ 2 16 Tryz.underlying49 hi hz0 hz1 hz2 rfl (by decide) (.slice oa k ocap) k (plL (ps.take k)) (by rfl) HO2.out.1 ⟨w1.heap.size, 0, none⟩ 1 1 (plL [p]) (by rfl) rfl (fun j u hu => by rw [Addr.add_lit, Nat.zero_add, cell_of_block HO2.out.2.2]; simpa [plL] using hu) (plL_one [p]) (by omega) (by unfold maxLen; omega) (by omega) HO2.out.2.1.size w2.heap.size rfl ?_
      intro g2 cap2 w3 ho hg2 ha2 hlt2
      have H2 : Hid (w3.ownsRow w.heap.size 105 2 (.slice (some ⟨g2, 0, none⟩) (k + 1) cap2) (k + 1) (plL (ps.take k) ++ plL [p]) ∧ Below w.heap.size w w3) := ⟨ho, HO2.out.2.1.grown hg2 HO2.out.2.1.size (fun j hj => (HO2.out.1.lt j hj).1)⟩
      have hne : ∀ b, (Value.slice oa k ocap).ownBlock = some b → w.heap.size ≤ b := fun b hb => (HO2.out.1.lt b hb).1
      have hgl : g < w.heap.size := hg0
      have hS4 : w3.cell? ⟨g, o + k * 2, none⟩ = some (.int .i64 p.1) ∧ w3.cell? ⟨g, o + k * 2 + 1, none⟩ = some (.int .i64 p.2) := ⟨(World.cell?_of_block (a := ⟨g, o + k * 2, none⟩) (hg2.block g (Nat.lt_of_lt_of_le hgl HO2.out.2.1.size) (fun e => by have := hne g e.symm; omega))).trans hHeld.1, (World.cell?_of_block (a := ⟨g, o + k * 2 + 1, none⟩) (hg2.block g (Nat.lt_of_lt_of_le hgl HO2.out.2.1.size) (fun e => by have := hne g e.symm; omega))).trans hHeld.2⟩
      clear ho hg2 ha2 hHeld
      refine hK.out _ _ hS4 (fun hHeld => ?_)
      clear hK K
      try simp only [List.getElem_toArray, List.getElem_cons_succ, List.getElem_cons_zero, Act.put, List.setIfInBounds_toArray, List.set_cons_zero, List.set_cons_succ]
      refine wpAnyH_take (i := 14) (v := .slice (some ⟨g2, 0, none⟩) (k + 1) cap2) rfl (by kernel_rfl) (by kernel_rfl) (by kernel_rfl) (fun _ _ _ h => h) (Or.inl ⟨by rfl, fun w9 hSw => ?_⟩) hHeld ?_
      · go_simp
      simp only [List.getElem_toArray, List.getElem_cons_succ, List.getElem_cons_zero, Act.put, List.setIfInBounds_toArray, List.set_cons_zero, List.set_cons_succ]
      refine wpAnyH_done (by kernel_rfl) ?_ _
      go_wp2
      go_roundw
      case rel =>
        refine ⟨k + 1, by omega, by go_num, ?_, H2.out.2⟩
        have e : ps.take (k + 1) = ps.take k ++ [p] := by rw [List.take_add_one, HO.out.2.2]; rfl
        rw [e, plL_append]
        exact H2.out.1
      case measure => simp [intOf]; omega
    · have hki : decide ((k : Int) < ps.length) = false := by simp; omega
      obtain rfl : k = ps.length := by omega
      rw [List.take_length] at *
      have HO : Hid (wr.ownsRow w.heap.size 105 2 (.slice oa ps.length ocap) ps.length (plL ps) ∧ Below w.heap.size w wr) := ⟨hown, hb⟩
      clear hown hb
      go_wp2
      go_ret
      exact ⟨oa, ocap, rfl, own_flt HO.out.1, HO.out.2⟩
end Go.Proofs.YtoplejbmgpgkhaaGreatDoor
/- disk: Arm. -/
namespace Go.Proofs.YtoplejbmgpgkhaaGreatDoor
open Go.RowKit Go.Maps Go.Joins
set_option linter.unusedSimpArgs false
set_option linter.unusedVariables false
def hasP (l : List (Int × Int)) (x : Int) : Bool := l.any (fun p => p.1 == x)
/-- The program's map of a plan. -/
structure PlD (D : DataW Unit) (l : List (Int × Int)) : Prop where
  map : IsMap D
  kind : ∀ x, D.atKey (.int .i64 x) (.lit (.int .i64 0)) = .lit (.int .i64 (pK l x))
  has : ∀ x, Maps.has D (.int .i64 x) = hasP l x
theorem PlD.nil : PlD (.map []) [] := ⟨isMap_empty, fun _ => rfl, fun _ => rfl⟩
theorem pK_snoc {l : List (Int × Int)} {p : Int × Int} (h : hasP l p.1 = false) (x : Int) : pK (l ++ [p]) x = if x = p.1 then p.2 else pK l x := by
  unfold pK
  rw [List.find?_append]
  by_cases e : x = p.1
  · subst e
    have : l.find? (fun q => q.1 == p.1) = none := by
      rw [List.find?_eq_none]
      intro q hq
      unfold hasP at h
      rw [List.any_eq_false] at h
      simpa using h q hq
    rw [this]
    simp
  · rw [if_neg e]
    have : [p].find? (fun q => q.1 == x) = none := by
      rw [List.find?_eq_none]
      intro q hq
      simp at hq
      subst hq
      simpa using fun h => e h.symm
    rw [this, Option.or_none]
theorem PlD.put {D : DataW Unit} {l : List (Int × Int)} (h : PlD D l) {p : Int × Int} (hn : hasP l p.1 = false) : PlD (D.put (.int .i64 p.1) (.lit (.int .i64 p.2))) (l ++ [p]) := by
  have hk : WideAt.IsKeyLit (.int .i64 p.1) := trivial
  refine ⟨(?_ : IsMap _), fun x => ?_, fun x => ?_⟩
  · obtain ⟨es, rfl⟩ := h.map
    exact ⟨_, rfl⟩
  · rw [pK_snoc hn]
    by_cases e : x = p.1
    · subst e
      rw [atKey_put_same h.map hk, if_pos rfl]
    · rw [atKey_put_other (fun hc => e (by injection hc)), h.kind, if_neg e]
  · unfold hasP
    rw [List.any_append]
    by_cases e : x = p.1
    · subst e
      rw [has_put_same h.map hk]
      simp
    · rw [has_put_other (fun hc => e (by injection hc)), h.has]
      have : [p].any (fun q => q.1 == x) = false := by simpa using fun h => e h.symm
      rw [this, Bool.or_false]
      rfl
theorem hasP_take {ps : List (Int × Int)} {k : Nat} {x : Int} : hasP (ps.take k) x = true ↔ ∃ (j : Nat) (q : Int × Int), j < k ∧ ps[j]? = some q ∧ q.1 = x := by
  unfold hasP
  rw [List.any_eq_true]
  constructor
  · rintro ⟨q, hq, he⟩
    obtain ⟨j, hj⟩ := List.mem_iff_getElem?.1 hq
    rw [List.getElem?_take] at hj
    split at hj
    · exact ⟨j, q, by assumption, hj, by simpa using he⟩
    · cases hj
  · rintro ⟨j, q, hj, hq, he⟩
    exact ⟨q, List.mem_iff_getElem?.2 ⟨j, by rw [List.getElem?_take, if_pos hj]; exact hq⟩, by simpa using he⟩
/-- A disk with a new plan. -/
def armS (S : DS) (b : Nat) (ps : List (Int × Int)) : DS := { S with armed := S.steps, pl := some b, plan := fun x => pK ps x, role := fun x => if x = b then .plan else S.role x }
theorem arm_end {w wr : World} {bd : Nat} {S : DS} {D : DataW Unit} {n : Nat} {ps : List (Int × Int)} (h : DiskIs w bd S) (hB : Below w.heap.size w wr) (hm : wr.ownsMap (H := Unit) Tryz.prog 3 (plainElem Tryz.prog 3) w.heap.size n D) (hD : PlD D ps) :
    DiskIs ((wr.setCell ⟨bd, 5, none⟩ (.map (some w.heap.size))).setCell ⟨bd, 4, none⟩ (.int .i64 S.steps)) bd (armS S w.heap.size ps) ∧ Fr w ((wr.setCell ⟨bd, 5, none⟩ (.map (some w.heap.size))).setCell ⟨bd, 4, none⟩ (.int .i64 S.steps)) S (armS S w.heap.size ps) := by
  have hlt := h.lt
  have hmlt := hm.lt
  have hw := h.below hB
  have hk : ∀ b, b ≠ bd → ((wr.setCell ⟨bd, 5, none⟩ (.map (some w.heap.size))).setCell ⟨bd, 4, none⟩ (.int .i64 S.steps)).heap[b]? = wr.heap[b]? := fun b hb => (Below.heap_setCell _ _ _ _ hb).trans (Below.heap_setCell _ _ _ _ hb)
  have hold : ∀ b, S.role b ≠ .none → (armS S w.heap.size ps).role b = S.role b := fun b hb => if_neg (fun hc => by
    have h2 := h.role_lt hb
    omega)
  have hne : ∀ b, S.role b ≠ .none → S.role b ≠ .disk → b ≠ bd := fun b _ h1 e => h1 (by rw [e]; exact h.rd)
  refine ⟨⟨?_, ?_, ?_, ?_, ?_, fun b hb => ?_, fun p hp => ?_, fun p hp => ?_, fun p hp => ?_, fun p hp b hb => ?_, fun b hb => ?_⟩, ?_⟩
  · rw [block_setCell (block_setCell hw.disk _) _]
    simp [dC, armS]
  · rw [hold bd (by rw [h.rd]; simp)]
    exact h.rd
  · exact ownsMap_heap hw.files (hk S.bm (hne S.bm (by rw [h.rm]; simp) (by rw [h.rm]; simp)))
  · show (armS S w.heap.size ps).role S.bm = .map
    rw [hold _ (by rw [h.rm]; simp)]
    exact h.rm
  · exact ⟨n, D, ownsMap_heap hm (hk _ (by omega)), fun x _ => hD.kind x⟩
  · injection hb with hb
    subst hb
    exact if_pos rfl
  · exact (hk _ (hne _ (by rw [h.rf p hp]; simp) (by rw [h.rf p hp]; simp))).trans (hw.file p hp)
  · show (armS S w.heap.size ps).role p.2 = .file p.1
    rw [hold _ (by rw [h.rf p hp]; simp)]
    exact h.rf p hp
  · exact ownsRow_heap (hw.row p hp) (fun b hb => hk b (hne _ (by rw [h.rr p hp b hb]; simp) (by rw [h.rr p hp b hb]; simp)))
  · show (armS S w.heap.size ps).role b = .bytes p.1
    rw [hold _ (by rw [h.rr p hp b hb]; simp)]
    exact h.rr p hp b hb
  · have hb' : wr.heap.size ≤ b := by simpa using hb
    show (if b = w.heap.size then Role.plan else S.role b) = .none
    rw [if_neg (by omega)]
    exact hw.fresh b hb'
  · refine ⟨hB.os, hB.tape, hB.output, by simpa using hB.size, fun b h0 h1 => ?_, fun b h0 h1 => ?_⟩
    · exact (hk b (fun e => by rw [e, h.rd] at h1; cases h1)).trans (hB.block b h0)
    · show (if b = w.heap.size then Role.plan else S.role b) = .none
      rw [if_neg (by omega)]
      exact h1
/-- Numbers as they are. -/
def FW (ps : List (Int × Int)) : Prop := ∀ p ∈ ps, (Lit.int .i64 p.1).wf = true ∧ (Lit.int .i64 p.2).wf = true
def ArmR (w : World) (bd : Nat) (S : DS) (ps : List (Int × Int)) (e : Ending) (w' : World) : Prop := (Right ps ∧ e = .returned (.int .i64 0) ∧ ∃ b, DiskIs w' bd (armS S b ps) ∧ Fr w w' S (armS S b ps)) ∨ (¬ Right ps ∧ e = .returned (.int .i64 1) ∧ Below w.heap.size w w')
set_option maxRecDepth 100000 in
set_option maxHeartbeats 8000000 in
theorem arm_any {w : World} {bd : Nat} {S : DS} (h : DiskIs w bd S) (va : Option Addr) (vc : Nat) (ps : List (Int × Int)) (hv : FltV w va ps) (hw : FW ps) :
    Calls Tryz.prog 25 #[.pointer (some ⟨bd, 0, none⟩), .slice va ps.length vc] w fun e w' => ArmR w bd S ps e w' := by
  by_cases h64 : 64 < ps.length
  · clear hv
    go_enter Tryz.func25, Tryz.ntmps25
    go_wp2
    go_ret
    exact Or.inr ⟨fun h => by have := h.1; omega, rfl, Below.refl _ _⟩
  have HV : Hid (FltV w va ps ∧ FW ps ∧ DiskIs w bd S) := ⟨hv, hw, h⟩
  have hlt := h.lt
  clear hv hw h
  have hm := fun w => run_makeMap (P := Tryz.prog) 78 w
  go_enter Tryz.func25, Tryz.ntmps25
  go_wp2
  go_loopw [18] (fun i wr => ∃ (k : Nat) (D : DataW Unit), k ≤ ps.length ∧ i = .int .i64 k ∧ OkTo ps k ∧ wr.ownsMap (H := Unit) Tryz.prog 3 (plainElem Tryz.prog 3) w.heap.size k D ∧ PlD D (ps.take k) ∧ Below w.heap.size w wr) (fun i _ => ps.length - (intOf i).toNat)
  case atStart => exact ⟨0, .map [], Nat.zero_le _, rfl, ⟨fun j p hj => by omega, fun i j p q _ hj => by omega⟩, World.ownsMap_made w Tryz.prog 3 _, PlD.nil, by go_grown⟩
  case round =>
    obtain ⟨k, D, hk, rfl, hok, hown, hpl, hb⟩ := hrel
    have HO : Hid (OkTo ps k ∧ wr.ownsMap (H := Unit) Tryz.prog 3 (plainElem Tryz.prog 3) w.heap.size k D ∧ PlD D (ps.take k) ∧ Below w.heap.size w wr) := ⟨hok, hown, hpl, hb⟩
    by_cases hkn : k < ps.length
    · obtain ⟨p, hp⟩ : ∃ p, ps[k]? = some p := ⟨_, List.getElem?_eq_getElem hkn⟩
      obtain ⟨g, o, rfl, c0, c1⟩ := (HV.out.1.below hb) k p hp
      have HP : Hid (ps[k]? = some p) := hp
      have hwp := HV.out.2.1 p (List.mem_of_getElem? hp)
      have hki : (k : Int) < ps.length := by omega
      obtain ⟨v, qs, hrun, hvv⟩ := (hown.alloc (.cells #[.int .i64 p.1, .int .i64 p.2] 105)).look_ok law3 Tryz.underlying78 (zero3 _) (zd := .lit (.int .i64 0)) (zp := []) (plainElem_int Tryz.underlying3 (by decide)) (keyOf_int_mk Tryz.underlying3 hwp.1)
      obtain ⟨c, rfl, _, _⟩ := plainElem_int_inv Tryz.underlying3 hvv
      rw [hpl.has] at hrun
      have HW : Hid ((Lit.int .i64 p.1).wf = true ∧ (Lit.int .i64 p.2).wf = true) := hwp
      clear hok hb hp hown hpl hwp hvv
      cases hh : hasP (ps.take k) p.1 with
      | true =>
        rw [hh] at hrun
        have HH : Hid (hasP (ps.take k) p.1 = true) := hh
        clear hh
        go_wp2
        go_ret
        refine Or.inr ⟨fun h => ?_, rfl, HO.out.2.2.2.alloc HO.out.2.2.2.size _⟩
        obtain ⟨j, q, hj, hq, he⟩ := hasP_take.1 HH.out
        exact absurd he (h.2.two j k q p hj hkn hq HP.out)
      | false =>
        rw [hh] at hrun
        have HH : Hid (hasP (ps.take k) p.1 = false) := hh
        clear hh
        by_cases h1 : p.1 < 1
        · go_wp2
          go_ret
          exact Or.inr ⟨fun h => by have := h.2.each k p hkn HP.out; omega, rfl, HO.out.2.2.2.alloc HO.out.2.2.2.size _⟩
        by_cases h2 : p.2 < 1
        · go_wp2
          go_ret
          exact Or.inr ⟨fun h => by have := h.2.each k p hkn HP.out; omega, rfl, HO.out.2.2.2.alloc HO.out.2.2.2.size _⟩
        by_cases h3 : 3 < p.2
        · go_wp2
          go_ret
          exact Or.inr ⟨fun h => by have := h.2.each k p hkn HP.out; omega, rfl, HO.out.2.2.2.alloc HO.out.2.2.2.size _⟩
        have HO2 : Hid ((wr.alloc (.cells #[.int .i64 p.1, .int .i64 p.2] 105)).ownsMap (H := Unit) Tryz.prog 3 (plainElem Tryz.prog 3) w.heap.size k D) := HO.out.2.1.alloc _
        go_wp2_with (first
          | (at_mapUpdate
             refine wpList_mapUpdate_own _ rfl _ _ _ 78 rfl 3 3 law3 Tryz.underlying78 (plainElem Tryz.prog 3) w.heap.size k D rfl HO2.out (by unfold maxLen; omega) _ _ _ rfl rfl (keyOf_int_mk Tryz.underlying3 HW.out.1) (.lit (.int .i64 p.2)) [] (plainElem_int Tryz.underlying3 HW.out.2) ?_
             intro w4 hown4 hg4
             have H4 : Hid (w4.ownsMap (H := Unit) Tryz.prog 3 (plainElem Tryz.prog 3) w.heap.size (k + 1) (D.put (.int .i64 p.1) (.lit (.int .i64 p.2))) ∧ Below w.heap.size w w4) := ⟨hown4, (HO.out.2.2.2.alloc HO.out.2.2.2.size _).grown hg4 (by have := HO.out.2.2.2.size; simp; omega) (fun j hj => by injection hj with hj; omega)⟩
             clear hown4 hg4)
          | go_in)
        go_roundw
        case rel =>
          have e : ps.take (k + 1) = ps.take k ++ [p] := by rw [List.take_add_one, HP.out]; rfl
          refine ⟨k + 1, _, by omega, by go_num, ⟨fun j r hj hr => ?_, fun i j r q hij hj hr hq => ?_⟩, H4.out.1, ?_, H4.out.2⟩
          · by_cases ej : j = k
            · subst ej
              rw [HP.out] at hr
              injection hr with hr
              rw [← hr]
              omega
            · exact HO.out.1.each j r (by omega) hr
          · by_cases ej : j = k
            · subst ej
              rw [HP.out] at hq
              injection hq with hq
              rw [← hq]
              intro he
              have := hasP_take.2 ⟨i, r, hij, hr, he⟩
              rw [HH.out] at this
              cases this
            · exact HO.out.1.two i j r q hij (by omega) hr hq
          · rw [e]
            exact HO.out.2.2.1.put HH.out
        case measure => simp [intOf]; omega
    · obtain rfl : k = ps.length := by omega
      clear hok hb hkn hown hpl
      have hd := (HV.out.2.2.below HO.out.2.2.2).disk
      have e3 : wr.cell? ⟨bd, 3, none⟩ = some (.int .i64 S.steps) := by rw [cell_of_block hd]; rfl
      have e4 : wr.cell? ⟨bd, 4, none⟩ = some (.int .i64 S.armed) := by rw [cell_of_block hd]; rfl
      have e5 : wr.cell? ⟨bd, 5, none⟩ = some (.map S.pl) := by rw [cell_of_block hd]; rfl
      have f4 : wr.frozen? ⟨bd, 4, none⟩ = false := unfrozen_of_block hd 4
      have f5 : wr.frozen? ⟨bd, 5, none⟩ = false := unfrozen_of_block hd 5
      clear hd
      go_wp2
      go_ret
      have hpl := HO.out.2.2.1
      rw [List.take_length] at hpl
      exact Or.inl ⟨⟨by omega, HO.out.1⟩, rfl, w.heap.size, arm_end HV.out.2.2 HO.out.2.2.2 HO.out.2.1 hpl⟩
end Go.Proofs.YtoplejbmgpgkhaaGreatDoor
/- disk: does, Arm. -/
namespace Go.Proofs.YtoplejbmgpgkhaaGreatDoor
open Go.RowKit Go.Maps Go.Joins
set_option linter.unusedSimpArgs false
set_option linter.unusedVariables false
theorem FltV.fr {w w' : World} {S S' : DS} {va : Option Addr} {ps : List (Int × Int)} (h : FltV w va ps) (hr : ∀ b o, va = some ⟨b, o, none⟩ → ps ≠ [] → S.role b = .none) (hF : Fr w w' S S') : FltV w' va ps := by
  intro j p hj
  obtain ⟨b, o, rfl, h0, h1⟩ := h j p hj
  have hne : ps ≠ [] := by rintro rfl; simp at hj
  have hb := hF.block b (cell_lt h0) (hr b o rfl hne)
  exact ⟨b, o, rfl, (World.cell?_of_block (a := ⟨b, o + j * 2, none⟩) hb).trans h0, (World.cell?_of_block (a := ⟨b, o + j * 2 + 1, none⟩) hb).trans h1⟩
theorem Tw.arm {w w3 : World} {bd br b : Nat} {S : DS} {R : RS} {ro : Int} {ps : List (Int × Int)} {v : Value} (h : Tw w bd br S R ro) (hr : Right ps) (hD : DiskIs w3 bd (armS S b ps)) (hR : RefIs w3 br (setP R v ps)) (hap : ∀ x, (setP R v ps).own x ≠ 0 → (armS S b ps).role x = .none) : Tw w3 bd br (armS S b ps) (setP R v ps) ro := by
  have hc := h.gb.cnt
  unfold Cnt at hc
  refine ⟨hD, ⟨?_, h.gb.rm, h.gb.r0, h.gb.wf⟩, hR, ⟨⟨hr.1, fun p hp => ?_, fun _ => ?_⟩, h.hb.cnt, h.hb.rm, h.hb.r0, h.hb.wf, h.hb.srt⟩, h.same, hap, h.down, h.steps, h.steps, fun x _ => rfl⟩
  · show 0 ≤ S.steps ∧ S.steps ≤ S.steps ∧ S.steps < 4611686018427387904
    omega
  · obtain ⟨j, hj⟩ := List.mem_iff_getElem?.1 hp
    have := hr.2.each j p (List.getElem?_eq_some_iff.1 hj).1 hj
    omega
  · show 0 ≤ R.n ∧ R.n ≤ R.n
    have := h.steps
    omega
/-- The document's Arm, whatever the plan. -/
def RArm (w : World) (br : Nat) (R : RS) (ps : List (Int × Int)) (e : Ending) (w' : World) : Prop := (Right ps ∧ e = .returned (.int .i64 0) ∧ ∃ v, RefIs w' br (setP R v ps) ∧ RFr w w' R (setP R v ps)) ∨ (¬ Right ps ∧ e = .returned (.int .i64 1) ∧ Below w.heap.size w w')
theorem rarm_any {w : World} {br : Nat} {R : RS} (h : RefIs w br R) (va : Option Addr) (vc : Nat) (ps : List (Int × Int)) (hv : FltV w va ps) (hn : va = none → vc = 0 ∧ ps = []) :
    Calls Tryz.prog 27 #[.pointer (some ⟨br, 0, none⟩), .slice va ps.length vc] w fun e w' => RArm w br R ps e w' := by
  by_cases hr : Right ps
  · cases va with
    | none =>
      obtain ⟨rfl, rfl⟩ := hn rfl
      refine (rarm_nil h).mono ?_
      rintro e w' ⟨rfl, v, h1, h2⟩
      exact Or.inl ⟨hr, rfl, v, h1, h2⟩
    | some ad =>
      refine (rarm_ok h ad vc ps hv hr).mono ?_
      rintro e w' ⟨rfl, v, h1, h2⟩
      exact Or.inl ⟨hr, rfl, v, h1, h2⟩
  · refine (rarm_no va vc ps hv hr).mono ?_
    rintro e w' ⟨rfl, h1⟩
    exact Or.inr ⟨hr, rfl, h1⟩
end Go.Proofs.YtoplejbmgpgkhaaGreatDoor
