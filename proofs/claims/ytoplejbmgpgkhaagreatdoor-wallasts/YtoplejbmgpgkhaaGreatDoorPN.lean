/- disk: the document's Boot. -/
import Derived.Test.YtoplejbmgpgkhaaGreatDoorM13
namespace Go.Proofs.YtoplejbmgpgkhaaGreatDoor
open Go.RowKit Go.Maps Go.Joins
set_option linter.unusedSimpArgs false
set_option linter.unusedVariables false
/-- How many bytes of the file number j are left. -/
def keepR (f : RF) (ks : List Int) (j : Nat) : Int := match ks[j]? with
  | none => f.sf
  | some x => min (max x f.sf) f.bs.length
/-- The first k files are cut. -/
structure Bt (A A' : List RF) (ks : List Int) (k : Nat) : Prop where
  len : A'.length = A.length
  done : ∀ j f, j < k → A[j]? = some f → ∃ bv, A'[j]? = some { f with bv := bv, bs := f.bs.take (keepR f ks j).toNat, sf := keepR f ks j }
  todo : ∀ j f, k ≤ j → A[j]? = some f → A'[j]? = some f
theorem boot_round {w w2 : World} {br g bc k : Nat} {ba : Option Addr} {R : RS} {A' : List RF} {f : RF} {ks : List Int} (hR : RefIs w2 br { R with A := A' }) (hF : RFr w w2 R { R with A := A' }) (hkf : A'[k]? = some f) (hgo : R.lv.ownBlock = some g) (hbv : f.bv = .slice ba f.bs.length bc) (hB : Bt R.A A' ks k ∧ R.A[k]? = some f) (m : Nat) (hkl : k < R.A.length) (hm : m ≤ f.bs.length) (hkp : keepR f ks k = (m : Int)) (hk1 : k + 1 ≤ R.A.length) :
    ∃ k' : Nat, k' ≤ R.A.length ∧ Value.int .i64 ((k : Int) + 1) = .int .i64 k' ∧ ∃ A'', Bt R.A A'' ks k' ∧ RefIs ((w2.setCell ⟨g, k * 3 + 1, none⟩ (.slice ba m bc)).setCell ⟨g, k * 3 + 2, none⟩ (.int .i64 (m : Int))) br { R with A := A'' } ∧ RFr w ((w2.setCell ⟨g, k * 3 + 1, none⟩ (.slice ba m bc)).setCell ⟨g, k * 3 + 2, none⟩ (.int .i64 (m : Int))) R { R with A := A'' } := by
  have hrow := hR.row f (List.mem_of_getElem? hkf)
  rw [hbv] at hrow
  have hkl' : k < A'.length := by rw [hB.1.len]; exact hkl
  have hl2 := ownsRow_set hR.list hgo (k * 3 + 1) (.slice ba m bc)
  rw [rfL_set1 A' k f _ (f.bs.take m) hkf] at hl2
  have hl3 := ownsRow_set hl2 hgo (k * 3 + 2) (.int .i64 (m : Int))
  rw [rfL_set2 _ k { f with bv := .slice ba m bc, bs := f.bs.take m } _ (by rw [List.getElem?_set_self hkl']), List.set_set] at hl3
  have hk : ∀ b, b ≠ g → ((w2.setCell ⟨g, k * 3 + 1, none⟩ (.slice ba m bc)).setCell ⟨g, k * 3 + 2, none⟩ (.int .i64 (m : Int))).heap[b]? = w2.heap[b]? := fun b hb => (Below.heap_setCell _ _ _ _ hb).trans (Below.heap_setCell _ _ _ _ hb)
  have hr2 := take_row hrow (m := m) hm
  refine ⟨k + 1, hk1, by simp, A'.set k { f with bv := .slice ba m bc, bs := f.bs.take m, sf := m }, ?_, ?_, ?_⟩
  · refine ⟨by rw [List.length_set]; exact hB.1.len, fun j f' hj hf' => ?_, fun j f' hj hf' => ?_⟩
    · by_cases e : j = k
      · subst e
        rw [hB.2] at hf'
        injection hf' with hf'
        subst hf'
        refine ⟨.slice ba m bc, ?_⟩
        rw [List.getElem?_set_self hkl', hkp]
        simp
      · rw [List.getElem?_set_ne (fun e' => e e'.symm)]
        exact hB.1.done j f' (by omega) hf'
    · rw [List.getElem?_set_ne (by omega)]
      exact hB.1.todo j f' (by omega) hf'
  · exact hR.setF hgo { f with bv := .slice ba m bc, bs := f.bs.take m, sf := m } hk (by simp) (by rw [List.length_set]; exact hl3) hr2 (fun b hb => hR.rr f (List.mem_of_getElem? hkf) b (by rw [hbv]; cases ba <;> exact hb)) (hR.nm f (List.mem_of_getElem? hkf))
  · exact hF.trans (hR.frF hgo _ hk (by simp) ⟨rfl, rfl, rfl⟩)
set_option maxRecDepth 100000 in
set_option maxHeartbeats 8000000 in
/-- Boot -/
theorem rboot_any {w : World} {br : Nat} {R : RS} (h : RefIs w br R) (hl : R.A.length ≤ 100) (hsf : ∀ f ∈ R.A, 0 ≤ f.sf ∧ f.sf ≤ f.bs.length) (va : Option Addr) (vc : Nat) (ks : List Int) (hkl : ks.length ≤ 9223372036854775807) (hvc : ∀ (j : Nat) (x : Int), ks[j]? = some x → ∃ b o, va = some ⟨b, o, none⟩ ∧ w.cell? ⟨b, o + j, none⟩ = some (.int .i64 x) ∧ R.own b = 0) :
    Calls Tryz.prog 24 #[.pointer (some ⟨br, 0, none⟩), .slice va ks.length vc] w fun e w' => e = .returned (.tuple #[]) ∧ ∃ A', Bt R.A A' ks R.A.length ∧ RefIs w' br { R with A := A', pv := .slice none 0 0, plan := [], down := false } ∧ RFr w w' R { R with A := A', pv := .slice none 0 0, plan := [], down := false } := by
  have HR : Hid (RefIs w br R) := h
  have hbrd := h.rd
  have HSF : Hid (∀ f ∈ R.A, 0 ≤ f.sf ∧ f.sf ≤ f.bs.length) := hsf
  have HVC : Hid (∀ j x, ks[j]? = some x → ∃ b o, va = some ⟨b, o, none⟩ ∧ w.cell? ⟨b, o + j, none⟩ = some (.int .i64 x) ∧ R.own b = 0) := hvc
  have hlt := h.lt
  clear h hvc hsf
  go_enter Tryz.func24, Tryz.ntmps24
  go_wp2
  go_loopw [4] (fun i wr => ∃ k : Nat, k ≤ R.A.length ∧ i = .int .i64 k ∧ ∃ A', Bt R.A A' ks k ∧ RefIs wr br { R with A := A' } ∧ RFr w wr R { R with A := A' }) (fun i _ => R.A.length - (intOf i).toNat)
  case atStart => exact ⟨0, Nat.zero_le _, rfl, R.A, ⟨rfl, fun j f hj => by omega, fun j f _ hf => hf⟩, HR.out, RFr.refl _ _⟩
  case round =>
    obtain ⟨k, hk, rfl, A', hBt, hRr, hFr⟩ := hrel
    have hA' := hBt.len
    have HW : Hid (RefIs wr br { R with A := A' } ∧ RFr w wr R { R with A := A' }) := ⟨hRr, hFr⟩
    by_cases hkn : k < R.A.length
    · obtain ⟨f, hf⟩ : ∃ f, R.A[k]? = some f := ⟨_, List.getElem?_eq_getElem hkn⟩
      have hf' : A'[k]? = some f := hBt.todo k f (Nat.le_refl _) hf
      have hs0 := HSF.out f (List.mem_of_getElem? hf)
      obtain ⟨sf0, hsf0⟩ : ∃ m : Nat, f.sf = m := ⟨f.sf.toNat, by omega⟩
      obtain ⟨g, cap, hlv, hog, hgl, hlc, hcc⟩ := hRr.cell (R := { R with A := A' }) hf'
      have c3 : wr.cell? ⟨br, 3, none⟩ = some (.slice (some ⟨g, 0, none⟩) A'.length cap) := by rw [cell_of_block hRr.disk]; show some R.lv = _; rw [show R.lv = _ from hlv]
      have hc1 := hcc 1 _ rfl
      have hc2 := hcc 2 _ rfl
      obtain ⟨ba, bc, hbv⟩ := row_form (hRr.row f (List.mem_of_getElem? hf'))
      have hc1' : wr.cell? ⟨g, k * 3 + 1, none⟩ = some (.slice ba f.bs.length bc) := by rw [← hbv]; exact hc1
      have hc2' : wr.cell? ⟨g, k * 3 + 2, none⟩ = some (.int .i64 (sf0 : Int)) := by rw [← hsf0]; exact hc2
      have hrw := hRr.row f (List.mem_of_getElem? hf')
      rw [hbv] at hrw
      have hcap := row_cap hrw
      have h63 := hcap.2.1
      have hbcl : f.bs.length ≤ bc := hcap.1
      have hgo : R.lv.ownBlock = some g := by rw [show R.lv = _ from hlv]; rfl
      have hfz : wr.frozen? ⟨g, k * 3 + 2, none⟩ = false ∧ wr.frozen? ⟨g, k * 3 + 1, none⟩ = false := by
        rcases hRr.list.2 with ⟨h0, _⟩ | ⟨g', cap', cur, h0, _, hc, _⟩
        · rw [show R.lv = _ from h0] at hgo; cases hgo
        · rw [show R.lv = _ from h0] at hgo
          have e1 : g' = g := by simpa [Value.ownBlock] using hgo
          subst e1
          exact ⟨unfrozen_of_block hc _, unfrozen_of_block hc _⟩
      have hbrg : br ≠ g := fun e => by rw [e] at hbrd; rw [show R.own g = _ from hog] at hbrd; cases hbrd
      have hsle : sf0 ≤ f.bs.length := by omega
      have hkx : ∀ x, ks[k]? = some x → ∃ b o, va = some ⟨b, o, none⟩ ∧ wr.cell? ⟨b, o + k, none⟩ = some (.int .i64 x) := fun x hx => by
        obtain ⟨b, o, h1, h2, h3⟩ := HVC.out k x hx
        exact ⟨b, o, h1, by rw [World.cell?_of_block (hFr.block b (cell_lt h2) h3)]; exact h2⟩
      have hkeep : keepR f ks k = (match ks[k]? with | none => (sf0 : Int) | some x => min (max x sf0) f.bs.length) := by unfold keepR; rw [hsf0]
      have HKF : Hid (A'[k]? = some f) := hf'
      have HLV : Hid (R.lv.ownBlock = some g) := hgo
      have HBV : Hid (f.bv = .slice ba f.bs.length bc) := hbv
      have HBt : Hid (Bt R.A A' ks k ∧ R.A[k]? = some f) := ⟨hBt, hf⟩
      have hki : (k : Int) < R.A.length := by omega
      rw [hA'] at c3
      clear hcc hc1 hc2 hbv hrw hcap hgo hlv hog hf hf' hs0 hsf0 hRr hFr hBt hA'
      generalize hLn : f.bs.length = Ln at *
      have HLn : Hid (f.bs.length = Ln) := hLn
      clear hLn
      generalize hAl : R.A.length = Al at *
      have HAl : Hid (R.A.length = Al) := hAl
      clear hAl
      have HC : Hid (wr.cell? ⟨br, 3, none⟩ = some (.slice (some ⟨g, 0, none⟩) Al cap) ∧ wr.cell? ⟨g, k * 3 + 1, none⟩ = some (.slice ba Ln bc) ∧ wr.cell? ⟨g, k * 3 + 2, none⟩ = some (.int .i64 (sf0 : Int)) ∧ wr.frozen? ⟨g, k * 3 + 2, none⟩ = false ∧ wr.frozen? ⟨g, k * 3 + 1, none⟩ = false) := ⟨c3, hc1', hc2', hfz⟩
      clear hfz
      cases hks : ks[k]? with
      | none =>
        have hkk : ks.length ≤ k := by rw [List.getElem?_eq_none_iff] at hks; exact hks
        have hd1 : decide ((k : Int) < ks.length) = false := by simp; omega
        rw [hks] at hkeep
        have HKP : Hid (keepR f ks k = (sf0 : Int)) := hkeep
        clear hkeep hkx hks
        go_wp2
        clear c3 hc1' hc2'
        have hnc : ((sf0 : Nat) : Int) ≤ (bc : Int) := by omega
        refine wp_region_held_drew (S := fun w' => w'.cell? ⟨br, 3, none⟩ = some (.slice (some ⟨g, 0, none⟩) Al cap)) (by kernel_rfl) HC.out.1 (fun hHeld => ?_)
        refine wpAnyH_take (i := 0) (v := .pointer (some ⟨br, 0, none⟩)) rfl (by kernel_rfl) (by kernel_rfl) (by kernel_rfl) (fun _ _ _ h => h) (Or.inl ⟨by rfl, fun w9 hSw => ?_⟩) hHeld ?_
        · go_simp
        simp only [List.getElem_toArray, List.getElem_cons_succ, List.getElem_cons_zero, Act.put, List.setIfInBounds_toArray, List.set_cons_zero, List.set_cons_succ]
        refine wpAnyH_take (i := 1) (v := .pointer (some ⟨br, 0, none⟩)) rfl (by kernel_rfl) (by kernel_rfl) (by kernel_rfl) (fun _ _ _ h => h) (Or.inl ⟨by rfl, fun w9 hSw => ?_⟩) hHeld ?_
        · go_simp
        simp only [List.getElem_toArray, List.getElem_cons_succ, List.getElem_cons_zero, Act.put, List.setIfInBounds_toArray, List.set_cons_zero, List.set_cons_succ]
        refine wpAnyH_take (i := 2) (v := .pointer (some ⟨br, 3, none⟩)) rfl (by kernel_rfl) (by kernel_rfl) (by kernel_rfl) (fun _ _ _ h => h) (Or.inl ⟨by rfl, fun w9 hSw => ?_⟩) hHeld ?_
        · go_simp
        simp only [List.getElem_toArray, List.getElem_cons_succ, List.getElem_cons_zero, Act.put, List.setIfInBounds_toArray, List.set_cons_zero, List.set_cons_succ]
        refine wpAnyH_take (i := 3) (v := .slice (some ⟨g, 0, none⟩) Al cap) rfl (by kernel_rfl) (by kernel_rfl) (by kernel_rfl) (fun _ _ _ h => h) (Or.inl ⟨by rfl, fun w9 hSw => ?_⟩) hHeld ?_
        · have hc : w9.cell? ⟨br, 3, none⟩ = some (.slice (some ⟨g, 0, none⟩) Al cap) := hSw
          go_simp
        simp only [List.getElem_toArray, List.getElem_cons_succ, List.getElem_cons_zero, Act.put, List.setIfInBounds_toArray, List.set_cons_zero, List.set_cons_succ]
        refine wpAnyH_take (i := 4) (v := .int .i64 (k : Int)) rfl (by kernel_rfl) (by kernel_rfl) (by kernel_rfl) (fun _ _ _ h => h) (Or.inl ⟨by rfl, fun w9 hSw => ?_⟩) hHeld ?_
        · go_simp
        simp only [List.getElem_toArray, List.getElem_cons_succ, List.getElem_cons_zero, Act.put, List.setIfInBounds_toArray, List.set_cons_zero, List.set_cons_succ]
        refine wpAnyH_take (i := 5) (v := .pointer (some ⟨br, 0, none⟩)) rfl (by kernel_rfl) (by kernel_rfl) (by kernel_rfl) (fun _ _ _ h => h) (Or.inl ⟨by rfl, fun w9 hSw => ?_⟩) hHeld ?_
        · go_simp
        simp only [List.getElem_toArray, List.getElem_cons_succ, List.getElem_cons_zero, Act.put, List.setIfInBounds_toArray, List.set_cons_zero, List.set_cons_succ]
        refine wpAnyH_take (i := 6) (v := .pointer (some ⟨br, 0, none⟩)) rfl (by kernel_rfl) (by kernel_rfl) (by kernel_rfl) (fun _ _ _ h => h) (Or.inl ⟨by rfl, fun w9 hSw => ?_⟩) hHeld ?_
        · go_simp
        simp only [List.getElem_toArray, List.getElem_cons_succ, List.getElem_cons_zero, Act.put, List.setIfInBounds_toArray, List.set_cons_zero, List.set_cons_succ]
        refine wpAnyH_take (i := 7) (v := .pointer (some ⟨br, 3, none⟩)) rfl (by kernel_rfl) (by kernel_rfl) (by kernel_rfl) (fun _ _ _ h => h) (Or.inl ⟨by rfl, fun w9 hSw => ?_⟩) hHeld ?_
        · go_simp
        simp only [List.getElem_toArray, List.getElem_cons_succ, List.getElem_cons_zero, Act.put, List.setIfInBounds_toArray, List.set_cons_zero, List.set_cons_succ]
        refine wpAnyH_take (i := 8) (v := .slice (some ⟨g, 0, none⟩) Al cap) rfl (by kernel_rfl) (by kernel_rfl) (by kernel_rfl) (fun _ _ _ h => h) (Or.inl ⟨by rfl, fun w9 hSw => ?_⟩) hHeld ?_
        · have hc : w9.cell? ⟨br, 3, none⟩ = some (.slice (some ⟨g, 0, none⟩) Al cap) := hSw
          go_simp
        simp only [List.getElem_toArray, List.getElem_cons_succ, List.getElem_cons_zero, Act.put, List.setIfInBounds_toArray, List.set_cons_zero, List.set_cons_succ]
        refine wpAnyH_take (i := 9) (v := .int .i64 (k : Int)) rfl (by kernel_rfl) (by kernel_rfl) (by kernel_rfl) (fun _ _ _ h => h) (Or.inl ⟨by rfl, fun w9 hSw => ?_⟩) hHeld ?_
        · go_simp
        simp only [List.getElem_toArray, List.getElem_cons_succ, List.getElem_cons_zero, Act.put, List.setIfInBounds_toArray, List.set_cons_zero, List.set_cons_succ]
        refine wpAnyH_take (i := 10) (v := .pointer (some ⟨g, k * 3, none⟩)) rfl (by kernel_rfl) (by kernel_rfl) (by kernel_rfl) (fun _ _ _ h => h) (Or.inl ⟨by rfl, fun w9 hSw => ?_⟩) hHeld ?_
        · go_simp
        simp only [List.getElem_toArray, List.getElem_cons_succ, List.getElem_cons_zero, Act.put, List.setIfInBounds_toArray, List.set_cons_zero, List.set_cons_succ]
        refine wpAnyH_take (i := 11) (v := .pointer (some ⟨g, k * 3 + 1, none⟩)) rfl (by kernel_rfl) (by kernel_rfl) (by kernel_rfl) (fun _ _ _ h => h) (Or.inl ⟨by rfl, fun w9 hSw => ?_⟩) hHeld ?_
        · go_simp
        simp only [List.getElem_toArray, List.getElem_cons_succ, List.getElem_cons_zero, Act.put, List.setIfInBounds_toArray, List.set_cons_zero, List.set_cons_succ]
        refine wpAnyH_take (i := 13) (v := .int .i64 (sf0 : Int)) rfl (by kernel_rfl) (by kernel_rfl) (by kernel_rfl) (fun _ _ _ h => h) (Or.inl ⟨by rfl, fun w9 hSw => ?_⟩) hHeld ?_
        · go_simp
        simp only [List.getElem_toArray, List.getElem_cons_succ, List.getElem_cons_zero, Act.put, List.setIfInBounds_toArray, List.set_cons_zero, List.set_cons_succ]
        refine wpAnyH_ready (rs := [12]) (by kernel_rfl) (by simp) ?_
        refine AllReadyH.cons rfl (fun K hK => ?_) AllReadyH.nil
        have hc1' : wr.drew.cell? ⟨g, k * 3 + 1, none⟩ = some (.slice ba Ln bc) := HC.out.2.1
        have hf1' : wr.drew.frozen? ⟨g, k * 3 + 1, none⟩ = false := HC.out.2.2.2.2
        have hc2' : wr.drew.cell? ⟨g, k * 3 + 2, none⟩ = some (.int .i64 (sf0 : Int)) := HC.out.2.2.1
        have hf2' : wr.drew.frozen? ⟨g, k * 3 + 2, none⟩ = false := HC.out.2.2.2.1
        have HD2 : Hid (RefIs wr.drew br { R with A := A' } ∧ RFr w wr.drew R { R with A := A' }) := ⟨HW.out.1.kept (fun _ _ => rfl) (Nat.le_refl _), ⟨HW.out.2.os, HW.out.2.tape, HW.out.2.output, HW.out.2.size, HW.out.2.block, HW.out.2.own⟩⟩
        generalize wr.drew = w2 at hHeld hc1' hf1' hc2' hf2' HD2 ⊢
        go_simp
        refine hK.out _ _ hHeld (fun hHeld => ?_)
        clear hK K
        try simp only [List.getElem_toArray, List.getElem_cons_succ, List.getElem_cons_zero, Act.put, List.setIfInBounds_toArray, List.set_cons_zero, List.set_cons_succ]
        refine wpAnyH_take (i := 14) (v := .slice ba sf0 bc) rfl (by kernel_rfl) (by kernel_rfl) (by kernel_rfl) (fun _ _ _ h => h) (Or.inl ⟨by rfl, fun w9 hSw => ?_⟩) hHeld ?_
        · have h63 : bc ≤ 9223372036854775807 := h63
          go_simp
        simp only [List.getElem_toArray, List.getElem_cons_succ, List.getElem_cons_zero, Act.put, List.setIfInBounds_toArray, List.set_cons_zero, List.set_cons_succ]
        refine wpAnyH_take (i := 15) (v := .pointer (some ⟨g, k * 3, none⟩)) rfl (by kernel_rfl) (by kernel_rfl) (by kernel_rfl) (fun _ _ _ h => h) (Or.inl ⟨by rfl, fun w9 hSw => ?_⟩) hHeld ?_
        · go_simp
        simp only [List.getElem_toArray, List.getElem_cons_succ, List.getElem_cons_zero, Act.put, List.setIfInBounds_toArray, List.set_cons_zero, List.set_cons_succ]
        refine wpAnyH_take (i := 16) (v := .pointer (some ⟨g, k * 3 + 1, none⟩)) rfl (by kernel_rfl) (by kernel_rfl) (by kernel_rfl) (fun _ _ _ h => h) (Or.inl ⟨by rfl, fun w9 hSw => ?_⟩) hHeld ?_
        · go_simp
        simp only [List.getElem_toArray, List.getElem_cons_succ, List.getElem_cons_zero, Act.put, List.setIfInBounds_toArray, List.set_cons_zero, List.set_cons_succ]
        refine wpAnyH_ready (rs := [17]) (by kernel_rfl) (by simp) ?_
        refine AllReadyH.cons rfl (fun K hK => ?_) AllReadyH.nil
        go_simp
        have hH2 : (w2.setCell ⟨g, k * 3 + 1, none⟩ (.slice ba sf0 bc)).cell? ⟨br, 3, none⟩ = some (.slice (some ⟨g, 0, none⟩) Al cap) := by
          rw [World.cell?_of_block (Below.heap_setCell _ _ _ _ hbrg)]
          exact hHeld
        have hC2 : (w2.setCell ⟨g, k * 3 + 1, none⟩ (.slice ba sf0 bc)).cell? ⟨g, k * 3 + 2, none⟩ = some (.int .i64 (sf0 : Int)) := (World.cell?_setCell_other _ ⟨g, k * 3 + 1, none⟩ ⟨g, k * 3 + 2, none⟩ _ (fun e => by injection e with _ e _; omega)).trans hc2'
        have hF2 : (w2.setCell ⟨g, k * 3 + 1, none⟩ (.slice ba sf0 bc)).frozen? ⟨g, k * 3 + 2, none⟩ = false := by
          rw [World.frozen?_setCell]; exact hf2'
        refine hK.out _ _ hH2 (fun hHeld => ?_)
        clear hK K
        try simp only [List.getElem_toArray, List.getElem_cons_succ, List.getElem_cons_zero, Act.put, List.setIfInBounds_toArray, List.set_cons_zero, List.set_cons_succ]
        refine wpAnyH_done (by kernel_rfl) ?_ _
        clear hHeld hc1' hf1' hc2' hf2'
        go_wp2
        go_roundw
        case rel =>
          have h9 := boot_round HD2.out.1 HD2.out.2 HKF.out HLV.out (by rw [HLn.out]; exact HBV.out) HBt.out sf0 (by rw [HAl.out]; omega) (by rw [HLn.out]; omega) HKP.out (by rw [HAl.out]; omega)
          rw [HAl.out] at h9
          exact h9
        case measure => simp [intOf]; omega
      | some x =>
        have hkk : k < ks.length := (List.getElem?_eq_some_iff.1 hks).1
        have hkki : (k : Int) < ks.length := by omega
        rw [hks] at hkeep
        obtain ⟨kb, ko, hva, hkc⟩ := hkx x hks
        subst hva
        have HKP0 : Hid (keepR f ks k = min (max x sf0) Ln) := hkeep
        clear hkeep hkx hks
        by_cases hx1 : x ≤ sf0
        · have HKP : Hid (keepR f ks k = (sf0 : Int)) := by show _ = _; rw [HKP0.out]; omega
          go_wp2
          clear c3 hc1' hc2'
          have hnc : ((sf0 : Nat) : Int) ≤ (bc : Int) := by omega
          refine wp_region_held_drew (S := fun w' => w'.cell? ⟨br, 3, none⟩ = some (.slice (some ⟨g, 0, none⟩) Al cap)) (by kernel_rfl) HC.out.1 (fun hHeld => ?_)
          refine wpAnyH_take (i := 0) (v := .pointer (some ⟨br, 0, none⟩)) rfl (by kernel_rfl) (by kernel_rfl) (by kernel_rfl) (fun _ _ _ h => h) (Or.inl ⟨by rfl, fun w9 hSw => ?_⟩) hHeld ?_
          · go_simp
          simp only [List.getElem_toArray, List.getElem_cons_succ, List.getElem_cons_zero, Act.put, List.setIfInBounds_toArray, List.set_cons_zero, List.set_cons_succ]
          refine wpAnyH_take (i := 1) (v := .pointer (some ⟨br, 0, none⟩)) rfl (by kernel_rfl) (by kernel_rfl) (by kernel_rfl) (fun _ _ _ h => h) (Or.inl ⟨by rfl, fun w9 hSw => ?_⟩) hHeld ?_
          · go_simp
          simp only [List.getElem_toArray, List.getElem_cons_succ, List.getElem_cons_zero, Act.put, List.setIfInBounds_toArray, List.set_cons_zero, List.set_cons_succ]
          refine wpAnyH_take (i := 2) (v := .pointer (some ⟨br, 3, none⟩)) rfl (by kernel_rfl) (by kernel_rfl) (by kernel_rfl) (fun _ _ _ h => h) (Or.inl ⟨by rfl, fun w9 hSw => ?_⟩) hHeld ?_
          · go_simp
          simp only [List.getElem_toArray, List.getElem_cons_succ, List.getElem_cons_zero, Act.put, List.setIfInBounds_toArray, List.set_cons_zero, List.set_cons_succ]
          refine wpAnyH_take (i := 3) (v := .slice (some ⟨g, 0, none⟩) Al cap) rfl (by kernel_rfl) (by kernel_rfl) (by kernel_rfl) (fun _ _ _ h => h) (Or.inl ⟨by rfl, fun w9 hSw => ?_⟩) hHeld ?_
          · have hc : w9.cell? ⟨br, 3, none⟩ = some (.slice (some ⟨g, 0, none⟩) Al cap) := hSw
            go_simp
          simp only [List.getElem_toArray, List.getElem_cons_succ, List.getElem_cons_zero, Act.put, List.setIfInBounds_toArray, List.set_cons_zero, List.set_cons_succ]
          refine wpAnyH_take (i := 4) (v := .int .i64 (k : Int)) rfl (by kernel_rfl) (by kernel_rfl) (by kernel_rfl) (fun _ _ _ h => h) (Or.inl ⟨by rfl, fun w9 hSw => ?_⟩) hHeld ?_
          · go_simp
          simp only [List.getElem_toArray, List.getElem_cons_succ, List.getElem_cons_zero, Act.put, List.setIfInBounds_toArray, List.set_cons_zero, List.set_cons_succ]
          refine wpAnyH_take (i := 5) (v := .pointer (some ⟨br, 0, none⟩)) rfl (by kernel_rfl) (by kernel_rfl) (by kernel_rfl) (fun _ _ _ h => h) (Or.inl ⟨by rfl, fun w9 hSw => ?_⟩) hHeld ?_
          · go_simp
          simp only [List.getElem_toArray, List.getElem_cons_succ, List.getElem_cons_zero, Act.put, List.setIfInBounds_toArray, List.set_cons_zero, List.set_cons_succ]
          refine wpAnyH_take (i := 6) (v := .pointer (some ⟨br, 0, none⟩)) rfl (by kernel_rfl) (by kernel_rfl) (by kernel_rfl) (fun _ _ _ h => h) (Or.inl ⟨by rfl, fun w9 hSw => ?_⟩) hHeld ?_
          · go_simp
          simp only [List.getElem_toArray, List.getElem_cons_succ, List.getElem_cons_zero, Act.put, List.setIfInBounds_toArray, List.set_cons_zero, List.set_cons_succ]
          refine wpAnyH_take (i := 7) (v := .pointer (some ⟨br, 3, none⟩)) rfl (by kernel_rfl) (by kernel_rfl) (by kernel_rfl) (fun _ _ _ h => h) (Or.inl ⟨by rfl, fun w9 hSw => ?_⟩) hHeld ?_
          · go_simp
          simp only [List.getElem_toArray, List.getElem_cons_succ, List.getElem_cons_zero, Act.put, List.setIfInBounds_toArray, List.set_cons_zero, List.set_cons_succ]
          refine wpAnyH_take (i := 8) (v := .slice (some ⟨g, 0, none⟩) Al cap) rfl (by kernel_rfl) (by kernel_rfl) (by kernel_rfl) (fun _ _ _ h => h) (Or.inl ⟨by rfl, fun w9 hSw => ?_⟩) hHeld ?_
          · have hc : w9.cell? ⟨br, 3, none⟩ = some (.slice (some ⟨g, 0, none⟩) Al cap) := hSw
            go_simp
          simp only [List.getElem_toArray, List.getElem_cons_succ, List.getElem_cons_zero, Act.put, List.setIfInBounds_toArray, List.set_cons_zero, List.set_cons_succ]
          refine wpAnyH_take (i := 9) (v := .int .i64 (k : Int)) rfl (by kernel_rfl) (by kernel_rfl) (by kernel_rfl) (fun _ _ _ h => h) (Or.inl ⟨by rfl, fun w9 hSw => ?_⟩) hHeld ?_
          · go_simp
          simp only [List.getElem_toArray, List.getElem_cons_succ, List.getElem_cons_zero, Act.put, List.setIfInBounds_toArray, List.set_cons_zero, List.set_cons_succ]
          refine wpAnyH_take (i := 10) (v := .pointer (some ⟨g, k * 3, none⟩)) rfl (by kernel_rfl) (by kernel_rfl) (by kernel_rfl) (fun _ _ _ h => h) (Or.inl ⟨by rfl, fun w9 hSw => ?_⟩) hHeld ?_
          · go_simp
          simp only [List.getElem_toArray, List.getElem_cons_succ, List.getElem_cons_zero, Act.put, List.setIfInBounds_toArray, List.set_cons_zero, List.set_cons_succ]
          refine wpAnyH_take (i := 11) (v := .pointer (some ⟨g, k * 3 + 1, none⟩)) rfl (by kernel_rfl) (by kernel_rfl) (by kernel_rfl) (fun _ _ _ h => h) (Or.inl ⟨by rfl, fun w9 hSw => ?_⟩) hHeld ?_
          · go_simp
          simp only [List.getElem_toArray, List.getElem_cons_succ, List.getElem_cons_zero, Act.put, List.setIfInBounds_toArray, List.set_cons_zero, List.set_cons_succ]
          refine wpAnyH_take (i := 13) (v := .int .i64 (sf0 : Int)) rfl (by kernel_rfl) (by kernel_rfl) (by kernel_rfl) (fun _ _ _ h => h) (Or.inl ⟨by rfl, fun w9 hSw => ?_⟩) hHeld ?_
          · go_simp
          simp only [List.getElem_toArray, List.getElem_cons_succ, List.getElem_cons_zero, Act.put, List.setIfInBounds_toArray, List.set_cons_zero, List.set_cons_succ]
          refine wpAnyH_ready (rs := [12]) (by kernel_rfl) (by simp) ?_
          refine AllReadyH.cons rfl (fun K hK => ?_) AllReadyH.nil
          have hc1' : wr.drew.cell? ⟨g, k * 3 + 1, none⟩ = some (.slice ba Ln bc) := HC.out.2.1
          have hf1' : wr.drew.frozen? ⟨g, k * 3 + 1, none⟩ = false := HC.out.2.2.2.2
          have hc2' : wr.drew.cell? ⟨g, k * 3 + 2, none⟩ = some (.int .i64 (sf0 : Int)) := HC.out.2.2.1
          have hf2' : wr.drew.frozen? ⟨g, k * 3 + 2, none⟩ = false := HC.out.2.2.2.1
          have HD2 : Hid (RefIs wr.drew br { R with A := A' } ∧ RFr w wr.drew R { R with A := A' }) := ⟨HW.out.1.kept (fun _ _ => rfl) (Nat.le_refl _), ⟨HW.out.2.os, HW.out.2.tape, HW.out.2.output, HW.out.2.size, HW.out.2.block, HW.out.2.own⟩⟩
          generalize wr.drew = w2 at hHeld hc1' hf1' hc2' hf2' HD2 ⊢
          go_simp
          refine hK.out _ _ hHeld (fun hHeld => ?_)
          clear hK K
          try simp only [List.getElem_toArray, List.getElem_cons_succ, List.getElem_cons_zero, Act.put, List.setIfInBounds_toArray, List.set_cons_zero, List.set_cons_succ]
          refine wpAnyH_take (i := 14) (v := .slice ba sf0 bc) rfl (by kernel_rfl) (by kernel_rfl) (by kernel_rfl) (fun _ _ _ h => h) (Or.inl ⟨by rfl, fun w9 hSw => ?_⟩) hHeld ?_
          · have h63 : bc ≤ 9223372036854775807 := h63
            go_simp
          simp only [List.getElem_toArray, List.getElem_cons_succ, List.getElem_cons_zero, Act.put, List.setIfInBounds_toArray, List.set_cons_zero, List.set_cons_succ]
          refine wpAnyH_take (i := 15) (v := .pointer (some ⟨g, k * 3, none⟩)) rfl (by kernel_rfl) (by kernel_rfl) (by kernel_rfl) (fun _ _ _ h => h) (Or.inl ⟨by rfl, fun w9 hSw => ?_⟩) hHeld ?_
          · go_simp
          simp only [List.getElem_toArray, List.getElem_cons_succ, List.getElem_cons_zero, Act.put, List.setIfInBounds_toArray, List.set_cons_zero, List.set_cons_succ]
          refine wpAnyH_take (i := 16) (v := .pointer (some ⟨g, k * 3 + 1, none⟩)) rfl (by kernel_rfl) (by kernel_rfl) (by kernel_rfl) (fun _ _ _ h => h) (Or.inl ⟨by rfl, fun w9 hSw => ?_⟩) hHeld ?_
          · go_simp
          simp only [List.getElem_toArray, List.getElem_cons_succ, List.getElem_cons_zero, Act.put, List.setIfInBounds_toArray, List.set_cons_zero, List.set_cons_succ]
          refine wpAnyH_ready (rs := [17]) (by kernel_rfl) (by simp) ?_
          refine AllReadyH.cons rfl (fun K hK => ?_) AllReadyH.nil
          go_simp
          have hH2 : (w2.setCell ⟨g, k * 3 + 1, none⟩ (.slice ba sf0 bc)).cell? ⟨br, 3, none⟩ = some (.slice (some ⟨g, 0, none⟩) Al cap) := by
            rw [World.cell?_of_block (Below.heap_setCell _ _ _ _ hbrg)]
            exact hHeld
          have hC2 : (w2.setCell ⟨g, k * 3 + 1, none⟩ (.slice ba sf0 bc)).cell? ⟨g, k * 3 + 2, none⟩ = some (.int .i64 (sf0 : Int)) := (World.cell?_setCell_other _ ⟨g, k * 3 + 1, none⟩ ⟨g, k * 3 + 2, none⟩ _ (fun e => by injection e with _ e _; omega)).trans hc2'
          have hF2 : (w2.setCell ⟨g, k * 3 + 1, none⟩ (.slice ba sf0 bc)).frozen? ⟨g, k * 3 + 2, none⟩ = false := by
            rw [World.frozen?_setCell]; exact hf2'
          refine hK.out _ _ hH2 (fun hHeld => ?_)
          clear hK K
          try simp only [List.getElem_toArray, List.getElem_cons_succ, List.getElem_cons_zero, Act.put, List.setIfInBounds_toArray, List.set_cons_zero, List.set_cons_succ]
          refine wpAnyH_done (by kernel_rfl) ?_ _
          clear hHeld hc1' hf1' hc2' hf2'
          go_wp2
          go_roundw
          case rel =>
            have h9 := boot_round HD2.out.1 HD2.out.2 HKF.out HLV.out (by rw [HLn.out]; exact HBV.out) HBt.out sf0 (by rw [HAl.out]; omega) (by rw [HLn.out]; omega) HKP.out (by rw [HAl.out]; omega)
            rw [HAl.out] at h9
            exact h9
          case measure => simp [intOf]; omega
        by_cases hx2 : x ≤ Ln
        · obtain ⟨x0, hx0⟩ : ∃ x0 : Nat, x = x0 := ⟨x.toNat, by omega⟩
          subst hx0
          have HKP : Hid (keepR f ks k = (x0 : Int)) := by show _ = _; rw [HKP0.out]; omega
          go_wp2
          clear c3 hc1' hc2'
          have hnc : ((x0 : Nat) : Int) ≤ (bc : Int) := by omega
          refine wp_region_held_drew (S := fun w' => w'.cell? ⟨br, 3, none⟩ = some (.slice (some ⟨g, 0, none⟩) Al cap)) (by kernel_rfl) HC.out.1 (fun hHeld => ?_)
          refine wpAnyH_take (i := 0) (v := .pointer (some ⟨br, 0, none⟩)) rfl (by kernel_rfl) (by kernel_rfl) (by kernel_rfl) (fun _ _ _ h => h) (Or.inl ⟨by rfl, fun w9 hSw => ?_⟩) hHeld ?_
          · go_simp
          simp only [List.getElem_toArray, List.getElem_cons_succ, List.getElem_cons_zero, Act.put, List.setIfInBounds_toArray, List.set_cons_zero, List.set_cons_succ]
          refine wpAnyH_take (i := 1) (v := .pointer (some ⟨br, 0, none⟩)) rfl (by kernel_rfl) (by kernel_rfl) (by kernel_rfl) (fun _ _ _ h => h) (Or.inl ⟨by rfl, fun w9 hSw => ?_⟩) hHeld ?_
          · go_simp
          simp only [List.getElem_toArray, List.getElem_cons_succ, List.getElem_cons_zero, Act.put, List.setIfInBounds_toArray, List.set_cons_zero, List.set_cons_succ]
          refine wpAnyH_take (i := 2) (v := .pointer (some ⟨br, 3, none⟩)) rfl (by kernel_rfl) (by kernel_rfl) (by kernel_rfl) (fun _ _ _ h => h) (Or.inl ⟨by rfl, fun w9 hSw => ?_⟩) hHeld ?_
          · go_simp
          simp only [List.getElem_toArray, List.getElem_cons_succ, List.getElem_cons_zero, Act.put, List.setIfInBounds_toArray, List.set_cons_zero, List.set_cons_succ]
          refine wpAnyH_take (i := 3) (v := .slice (some ⟨g, 0, none⟩) Al cap) rfl (by kernel_rfl) (by kernel_rfl) (by kernel_rfl) (fun _ _ _ h => h) (Or.inl ⟨by rfl, fun w9 hSw => ?_⟩) hHeld ?_
          · have hc : w9.cell? ⟨br, 3, none⟩ = some (.slice (some ⟨g, 0, none⟩) Al cap) := hSw
            go_simp
          simp only [List.getElem_toArray, List.getElem_cons_succ, List.getElem_cons_zero, Act.put, List.setIfInBounds_toArray, List.set_cons_zero, List.set_cons_succ]
          refine wpAnyH_take (i := 4) (v := .int .i64 (k : Int)) rfl (by kernel_rfl) (by kernel_rfl) (by kernel_rfl) (fun _ _ _ h => h) (Or.inl ⟨by rfl, fun w9 hSw => ?_⟩) hHeld ?_
          · go_simp
          simp only [List.getElem_toArray, List.getElem_cons_succ, List.getElem_cons_zero, Act.put, List.setIfInBounds_toArray, List.set_cons_zero, List.set_cons_succ]
          refine wpAnyH_take (i := 5) (v := .pointer (some ⟨br, 0, none⟩)) rfl (by kernel_rfl) (by kernel_rfl) (by kernel_rfl) (fun _ _ _ h => h) (Or.inl ⟨by rfl, fun w9 hSw => ?_⟩) hHeld ?_
          · go_simp
          simp only [List.getElem_toArray, List.getElem_cons_succ, List.getElem_cons_zero, Act.put, List.setIfInBounds_toArray, List.set_cons_zero, List.set_cons_succ]
          refine wpAnyH_take (i := 6) (v := .pointer (some ⟨br, 0, none⟩)) rfl (by kernel_rfl) (by kernel_rfl) (by kernel_rfl) (fun _ _ _ h => h) (Or.inl ⟨by rfl, fun w9 hSw => ?_⟩) hHeld ?_
          · go_simp
          simp only [List.getElem_toArray, List.getElem_cons_succ, List.getElem_cons_zero, Act.put, List.setIfInBounds_toArray, List.set_cons_zero, List.set_cons_succ]
          refine wpAnyH_take (i := 7) (v := .pointer (some ⟨br, 3, none⟩)) rfl (by kernel_rfl) (by kernel_rfl) (by kernel_rfl) (fun _ _ _ h => h) (Or.inl ⟨by rfl, fun w9 hSw => ?_⟩) hHeld ?_
          · go_simp
          simp only [List.getElem_toArray, List.getElem_cons_succ, List.getElem_cons_zero, Act.put, List.setIfInBounds_toArray, List.set_cons_zero, List.set_cons_succ]
          refine wpAnyH_take (i := 8) (v := .slice (some ⟨g, 0, none⟩) Al cap) rfl (by kernel_rfl) (by kernel_rfl) (by kernel_rfl) (fun _ _ _ h => h) (Or.inl ⟨by rfl, fun w9 hSw => ?_⟩) hHeld ?_
          · have hc : w9.cell? ⟨br, 3, none⟩ = some (.slice (some ⟨g, 0, none⟩) Al cap) := hSw
            go_simp
          simp only [List.getElem_toArray, List.getElem_cons_succ, List.getElem_cons_zero, Act.put, List.setIfInBounds_toArray, List.set_cons_zero, List.set_cons_succ]
          refine wpAnyH_take (i := 9) (v := .int .i64 (k : Int)) rfl (by kernel_rfl) (by kernel_rfl) (by kernel_rfl) (fun _ _ _ h => h) (Or.inl ⟨by rfl, fun w9 hSw => ?_⟩) hHeld ?_
          · go_simp
          simp only [List.getElem_toArray, List.getElem_cons_succ, List.getElem_cons_zero, Act.put, List.setIfInBounds_toArray, List.set_cons_zero, List.set_cons_succ]
          refine wpAnyH_take (i := 10) (v := .pointer (some ⟨g, k * 3, none⟩)) rfl (by kernel_rfl) (by kernel_rfl) (by kernel_rfl) (fun _ _ _ h => h) (Or.inl ⟨by rfl, fun w9 hSw => ?_⟩) hHeld ?_
          · go_simp
          simp only [List.getElem_toArray, List.getElem_cons_succ, List.getElem_cons_zero, Act.put, List.setIfInBounds_toArray, List.set_cons_zero, List.set_cons_succ]
          refine wpAnyH_take (i := 11) (v := .pointer (some ⟨g, k * 3 + 1, none⟩)) rfl (by kernel_rfl) (by kernel_rfl) (by kernel_rfl) (fun _ _ _ h => h) (Or.inl ⟨by rfl, fun w9 hSw => ?_⟩) hHeld ?_
          · go_simp
          simp only [List.getElem_toArray, List.getElem_cons_succ, List.getElem_cons_zero, Act.put, List.setIfInBounds_toArray, List.set_cons_zero, List.set_cons_succ]
          refine wpAnyH_take (i := 13) (v := .int .i64 (x0 : Int)) rfl (by kernel_rfl) (by kernel_rfl) (by kernel_rfl) (fun _ _ _ h => h) (Or.inl ⟨by rfl, fun w9 hSw => ?_⟩) hHeld ?_
          · go_simp
          simp only [List.getElem_toArray, List.getElem_cons_succ, List.getElem_cons_zero, Act.put, List.setIfInBounds_toArray, List.set_cons_zero, List.set_cons_succ]
          refine wpAnyH_ready (rs := [12]) (by kernel_rfl) (by simp) ?_
          refine AllReadyH.cons rfl (fun K hK => ?_) AllReadyH.nil
          have hc1' : wr.drew.cell? ⟨g, k * 3 + 1, none⟩ = some (.slice ba Ln bc) := HC.out.2.1
          have hf1' : wr.drew.frozen? ⟨g, k * 3 + 1, none⟩ = false := HC.out.2.2.2.2
          have hc2' : wr.drew.cell? ⟨g, k * 3 + 2, none⟩ = some (.int .i64 (sf0 : Int)) := HC.out.2.2.1
          have hf2' : wr.drew.frozen? ⟨g, k * 3 + 2, none⟩ = false := HC.out.2.2.2.1
          have HD2 : Hid (RefIs wr.drew br { R with A := A' } ∧ RFr w wr.drew R { R with A := A' }) := ⟨HW.out.1.kept (fun _ _ => rfl) (Nat.le_refl _), ⟨HW.out.2.os, HW.out.2.tape, HW.out.2.output, HW.out.2.size, HW.out.2.block, HW.out.2.own⟩⟩
          generalize wr.drew = w2 at hHeld hc1' hf1' hc2' hf2' HD2 ⊢
          go_simp
          refine hK.out _ _ hHeld (fun hHeld => ?_)
          clear hK K
          try simp only [List.getElem_toArray, List.getElem_cons_succ, List.getElem_cons_zero, Act.put, List.setIfInBounds_toArray, List.set_cons_zero, List.set_cons_succ]
          refine wpAnyH_take (i := 14) (v := .slice ba x0 bc) rfl (by kernel_rfl) (by kernel_rfl) (by kernel_rfl) (fun _ _ _ h => h) (Or.inl ⟨by rfl, fun w9 hSw => ?_⟩) hHeld ?_
          · have h63 : bc ≤ 9223372036854775807 := h63
            go_simp
          simp only [List.getElem_toArray, List.getElem_cons_succ, List.getElem_cons_zero, Act.put, List.setIfInBounds_toArray, List.set_cons_zero, List.set_cons_succ]
          refine wpAnyH_take (i := 15) (v := .pointer (some ⟨g, k * 3, none⟩)) rfl (by kernel_rfl) (by kernel_rfl) (by kernel_rfl) (fun _ _ _ h => h) (Or.inl ⟨by rfl, fun w9 hSw => ?_⟩) hHeld ?_
          · go_simp
          simp only [List.getElem_toArray, List.getElem_cons_succ, List.getElem_cons_zero, Act.put, List.setIfInBounds_toArray, List.set_cons_zero, List.set_cons_succ]
          refine wpAnyH_take (i := 16) (v := .pointer (some ⟨g, k * 3 + 1, none⟩)) rfl (by kernel_rfl) (by kernel_rfl) (by kernel_rfl) (fun _ _ _ h => h) (Or.inl ⟨by rfl, fun w9 hSw => ?_⟩) hHeld ?_
          · go_simp
          simp only [List.getElem_toArray, List.getElem_cons_succ, List.getElem_cons_zero, Act.put, List.setIfInBounds_toArray, List.set_cons_zero, List.set_cons_succ]
          refine wpAnyH_ready (rs := [17]) (by kernel_rfl) (by simp) ?_
          refine AllReadyH.cons rfl (fun K hK => ?_) AllReadyH.nil
          go_simp
          have hH2 : (w2.setCell ⟨g, k * 3 + 1, none⟩ (.slice ba x0 bc)).cell? ⟨br, 3, none⟩ = some (.slice (some ⟨g, 0, none⟩) Al cap) := by
            rw [World.cell?_of_block (Below.heap_setCell _ _ _ _ hbrg)]
            exact hHeld
          have hC2 : (w2.setCell ⟨g, k * 3 + 1, none⟩ (.slice ba x0 bc)).cell? ⟨g, k * 3 + 2, none⟩ = some (.int .i64 (sf0 : Int)) := (World.cell?_setCell_other _ ⟨g, k * 3 + 1, none⟩ ⟨g, k * 3 + 2, none⟩ _ (fun e => by injection e with _ e _; omega)).trans hc2'
          have hF2 : (w2.setCell ⟨g, k * 3 + 1, none⟩ (.slice ba x0 bc)).frozen? ⟨g, k * 3 + 2, none⟩ = false := by
            rw [World.frozen?_setCell]; exact hf2'
          refine hK.out _ _ hH2 (fun hHeld => ?_)
          clear hK K
          try simp only [List.getElem_toArray, List.getElem_cons_succ, List.getElem_cons_zero, Act.put, List.setIfInBounds_toArray, List.set_cons_zero, List.set_cons_succ]
          refine wpAnyH_done (by kernel_rfl) ?_ _
          clear hHeld hc1' hf1' hc2' hf2'
          go_wp2
          go_roundw
          case rel =>
            have h9 := boot_round HD2.out.1 HD2.out.2 HKF.out HLV.out (by rw [HLn.out]; exact HBV.out) HBt.out x0 (by rw [HAl.out]; omega) (by rw [HLn.out]; omega) HKP.out (by rw [HAl.out]; omega)
            rw [HAl.out] at h9
            exact h9
          case measure => simp [intOf]; omega
        · have HKP : Hid (keepR f ks k = (Ln : Int)) := by show _ = _; rw [HKP0.out]; omega
          go_wp2
          clear c3 hc1' hc2'
          have hnc : ((Ln : Nat) : Int) ≤ (bc : Int) := by omega
          refine wp_region_held_drew (S := fun w' => w'.cell? ⟨br, 3, none⟩ = some (.slice (some ⟨g, 0, none⟩) Al cap)) (by kernel_rfl) HC.out.1 (fun hHeld => ?_)
          refine wpAnyH_take (i := 0) (v := .pointer (some ⟨br, 0, none⟩)) rfl (by kernel_rfl) (by kernel_rfl) (by kernel_rfl) (fun _ _ _ h => h) (Or.inl ⟨by rfl, fun w9 hSw => ?_⟩) hHeld ?_
          · go_simp
          simp only [List.getElem_toArray, List.getElem_cons_succ, List.getElem_cons_zero, Act.put, List.setIfInBounds_toArray, List.set_cons_zero, List.set_cons_succ]
          refine wpAnyH_take (i := 1) (v := .pointer (some ⟨br, 0, none⟩)) rfl (by kernel_rfl) (by kernel_rfl) (by kernel_rfl) (fun _ _ _ h => h) (Or.inl ⟨by rfl, fun w9 hSw => ?_⟩) hHeld ?_
          · go_simp
          simp only [List.getElem_toArray, List.getElem_cons_succ, List.getElem_cons_zero, Act.put, List.setIfInBounds_toArray, List.set_cons_zero, List.set_cons_succ]
          refine wpAnyH_take (i := 2) (v := .pointer (some ⟨br, 3, none⟩)) rfl (by kernel_rfl) (by kernel_rfl) (by kernel_rfl) (fun _ _ _ h => h) (Or.inl ⟨by rfl, fun w9 hSw => ?_⟩) hHeld ?_
          · go_simp
          simp only [List.getElem_toArray, List.getElem_cons_succ, List.getElem_cons_zero, Act.put, List.setIfInBounds_toArray, List.set_cons_zero, List.set_cons_succ]
          refine wpAnyH_take (i := 3) (v := .slice (some ⟨g, 0, none⟩) Al cap) rfl (by kernel_rfl) (by kernel_rfl) (by kernel_rfl) (fun _ _ _ h => h) (Or.inl ⟨by rfl, fun w9 hSw => ?_⟩) hHeld ?_
          · have hc : w9.cell? ⟨br, 3, none⟩ = some (.slice (some ⟨g, 0, none⟩) Al cap) := hSw
            go_simp
          simp only [List.getElem_toArray, List.getElem_cons_succ, List.getElem_cons_zero, Act.put, List.setIfInBounds_toArray, List.set_cons_zero, List.set_cons_succ]
          refine wpAnyH_take (i := 4) (v := .int .i64 (k : Int)) rfl (by kernel_rfl) (by kernel_rfl) (by kernel_rfl) (fun _ _ _ h => h) (Or.inl ⟨by rfl, fun w9 hSw => ?_⟩) hHeld ?_
          · go_simp
          simp only [List.getElem_toArray, List.getElem_cons_succ, List.getElem_cons_zero, Act.put, List.setIfInBounds_toArray, List.set_cons_zero, List.set_cons_succ]
          refine wpAnyH_take (i := 5) (v := .pointer (some ⟨br, 0, none⟩)) rfl (by kernel_rfl) (by kernel_rfl) (by kernel_rfl) (fun _ _ _ h => h) (Or.inl ⟨by rfl, fun w9 hSw => ?_⟩) hHeld ?_
          · go_simp
          simp only [List.getElem_toArray, List.getElem_cons_succ, List.getElem_cons_zero, Act.put, List.setIfInBounds_toArray, List.set_cons_zero, List.set_cons_succ]
          refine wpAnyH_take (i := 6) (v := .pointer (some ⟨br, 0, none⟩)) rfl (by kernel_rfl) (by kernel_rfl) (by kernel_rfl) (fun _ _ _ h => h) (Or.inl ⟨by rfl, fun w9 hSw => ?_⟩) hHeld ?_
          · go_simp
          simp only [List.getElem_toArray, List.getElem_cons_succ, List.getElem_cons_zero, Act.put, List.setIfInBounds_toArray, List.set_cons_zero, List.set_cons_succ]
          refine wpAnyH_take (i := 7) (v := .pointer (some ⟨br, 3, none⟩)) rfl (by kernel_rfl) (by kernel_rfl) (by kernel_rfl) (fun _ _ _ h => h) (Or.inl ⟨by rfl, fun w9 hSw => ?_⟩) hHeld ?_
          · go_simp
          simp only [List.getElem_toArray, List.getElem_cons_succ, List.getElem_cons_zero, Act.put, List.setIfInBounds_toArray, List.set_cons_zero, List.set_cons_succ]
          refine wpAnyH_take (i := 8) (v := .slice (some ⟨g, 0, none⟩) Al cap) rfl (by kernel_rfl) (by kernel_rfl) (by kernel_rfl) (fun _ _ _ h => h) (Or.inl ⟨by rfl, fun w9 hSw => ?_⟩) hHeld ?_
          · have hc : w9.cell? ⟨br, 3, none⟩ = some (.slice (some ⟨g, 0, none⟩) Al cap) := hSw
            go_simp
          simp only [List.getElem_toArray, List.getElem_cons_succ, List.getElem_cons_zero, Act.put, List.setIfInBounds_toArray, List.set_cons_zero, List.set_cons_succ]
          refine wpAnyH_take (i := 9) (v := .int .i64 (k : Int)) rfl (by kernel_rfl) (by kernel_rfl) (by kernel_rfl) (fun _ _ _ h => h) (Or.inl ⟨by rfl, fun w9 hSw => ?_⟩) hHeld ?_
          · go_simp
          simp only [List.getElem_toArray, List.getElem_cons_succ, List.getElem_cons_zero, Act.put, List.setIfInBounds_toArray, List.set_cons_zero, List.set_cons_succ]
          refine wpAnyH_take (i := 10) (v := .pointer (some ⟨g, k * 3, none⟩)) rfl (by kernel_rfl) (by kernel_rfl) (by kernel_rfl) (fun _ _ _ h => h) (Or.inl ⟨by rfl, fun w9 hSw => ?_⟩) hHeld ?_
          · go_simp
          simp only [List.getElem_toArray, List.getElem_cons_succ, List.getElem_cons_zero, Act.put, List.setIfInBounds_toArray, List.set_cons_zero, List.set_cons_succ]
          refine wpAnyH_take (i := 11) (v := .pointer (some ⟨g, k * 3 + 1, none⟩)) rfl (by kernel_rfl) (by kernel_rfl) (by kernel_rfl) (fun _ _ _ h => h) (Or.inl ⟨by rfl, fun w9 hSw => ?_⟩) hHeld ?_
          · go_simp
          simp only [List.getElem_toArray, List.getElem_cons_succ, List.getElem_cons_zero, Act.put, List.setIfInBounds_toArray, List.set_cons_zero, List.set_cons_succ]
          refine wpAnyH_take (i := 13) (v := .int .i64 (Ln : Int)) rfl (by kernel_rfl) (by kernel_rfl) (by kernel_rfl) (fun _ _ _ h => h) (Or.inl ⟨by rfl, fun w9 hSw => ?_⟩) hHeld ?_
          · go_simp
          simp only [List.getElem_toArray, List.getElem_cons_succ, List.getElem_cons_zero, Act.put, List.setIfInBounds_toArray, List.set_cons_zero, List.set_cons_succ]
          refine wpAnyH_ready (rs := [12]) (by kernel_rfl) (by simp) ?_
          refine AllReadyH.cons rfl (fun K hK => ?_) AllReadyH.nil
          have hc1' : wr.drew.cell? ⟨g, k * 3 + 1, none⟩ = some (.slice ba Ln bc) := HC.out.2.1
          have hf1' : wr.drew.frozen? ⟨g, k * 3 + 1, none⟩ = false := HC.out.2.2.2.2
          have hc2' : wr.drew.cell? ⟨g, k * 3 + 2, none⟩ = some (.int .i64 (sf0 : Int)) := HC.out.2.2.1
          have hf2' : wr.drew.frozen? ⟨g, k * 3 + 2, none⟩ = false := HC.out.2.2.2.1
          have HD2 : Hid (RefIs wr.drew br { R with A := A' } ∧ RFr w wr.drew R { R with A := A' }) := ⟨HW.out.1.kept (fun _ _ => rfl) (Nat.le_refl _), ⟨HW.out.2.os, HW.out.2.tape, HW.out.2.output, HW.out.2.size, HW.out.2.block, HW.out.2.own⟩⟩
          generalize wr.drew = w2 at hHeld hc1' hf1' hc2' hf2' HD2 ⊢
          go_simp
          refine hK.out _ _ hHeld (fun hHeld => ?_)
          clear hK K
          try simp only [List.getElem_toArray, List.getElem_cons_succ, List.getElem_cons_zero, Act.put, List.setIfInBounds_toArray, List.set_cons_zero, List.set_cons_succ]
          refine wpAnyH_take (i := 14) (v := .slice ba Ln bc) rfl (by kernel_rfl) (by kernel_rfl) (by kernel_rfl) (fun _ _ _ h => h) (Or.inl ⟨by rfl, fun w9 hSw => ?_⟩) hHeld ?_
          · have h63 : bc ≤ 9223372036854775807 := h63
            go_simp
          simp only [List.getElem_toArray, List.getElem_cons_succ, List.getElem_cons_zero, Act.put, List.setIfInBounds_toArray, List.set_cons_zero, List.set_cons_succ]
          refine wpAnyH_take (i := 15) (v := .pointer (some ⟨g, k * 3, none⟩)) rfl (by kernel_rfl) (by kernel_rfl) (by kernel_rfl) (fun _ _ _ h => h) (Or.inl ⟨by rfl, fun w9 hSw => ?_⟩) hHeld ?_
          · go_simp
          simp only [List.getElem_toArray, List.getElem_cons_succ, List.getElem_cons_zero, Act.put, List.setIfInBounds_toArray, List.set_cons_zero, List.set_cons_succ]
          refine wpAnyH_take (i := 16) (v := .pointer (some ⟨g, k * 3 + 1, none⟩)) rfl (by kernel_rfl) (by kernel_rfl) (by kernel_rfl) (fun _ _ _ h => h) (Or.inl ⟨by rfl, fun w9 hSw => ?_⟩) hHeld ?_
          · go_simp
          simp only [List.getElem_toArray, List.getElem_cons_succ, List.getElem_cons_zero, Act.put, List.setIfInBounds_toArray, List.set_cons_zero, List.set_cons_succ]
          refine wpAnyH_ready (rs := [17]) (by kernel_rfl) (by simp) ?_
          refine AllReadyH.cons rfl (fun K hK => ?_) AllReadyH.nil
          go_simp
          have hH2 : (w2.setCell ⟨g, k * 3 + 1, none⟩ (.slice ba Ln bc)).cell? ⟨br, 3, none⟩ = some (.slice (some ⟨g, 0, none⟩) Al cap) := by
            rw [World.cell?_of_block (Below.heap_setCell _ _ _ _ hbrg)]
            exact hHeld
          have hC2 : (w2.setCell ⟨g, k * 3 + 1, none⟩ (.slice ba Ln bc)).cell? ⟨g, k * 3 + 2, none⟩ = some (.int .i64 (sf0 : Int)) := (World.cell?_setCell_other _ ⟨g, k * 3 + 1, none⟩ ⟨g, k * 3 + 2, none⟩ _ (fun e => by injection e with _ e _; omega)).trans hc2'
          have hF2 : (w2.setCell ⟨g, k * 3 + 1, none⟩ (.slice ba Ln bc)).frozen? ⟨g, k * 3 + 2, none⟩ = false := by
            rw [World.frozen?_setCell]; exact hf2'
          refine hK.out _ _ hH2 (fun hHeld => ?_)
          clear hK K
          try simp only [List.getElem_toArray, List.getElem_cons_succ, List.getElem_cons_zero, Act.put, List.setIfInBounds_toArray, List.set_cons_zero, List.set_cons_succ]
          refine wpAnyH_done (by kernel_rfl) ?_ _
          clear hHeld hc1' hf1' hc2' hf2'
          go_wp2
          go_roundw
          case rel =>
            have h9 := boot_round HD2.out.1 HD2.out.2 HKF.out HLV.out (by rw [HLn.out]; exact HBV.out) HBt.out Ln (by rw [HAl.out]; omega) (by rw [HLn.out]; omega) HKP.out (by rw [HAl.out]; omega)
            rw [HAl.out] at h9
            exact h9
          case measure => simp [intOf]; omega
    · obtain rfl : k = R.A.length := by omega
      have HB9 : Hid (Bt R.A A' ks R.A.length) := hBt
      obtain ⟨la, lc, hlv⟩ := row_form hRr.list
      have c3 : wr.cell? ⟨br, 3, none⟩ = some (.slice la R.A.length lc) := by rw [cell_of_block hRr.disk]; show some R.lv = _; rw [show R.lv = _ from hlv]; show some (Value.slice la A'.length lc) = _; rw [hA']
      have f4 : wr.frozen? ⟨br, 4, none⟩ = false := unfrozen_of_block hRr.disk 4
      have f5 : wr.frozen? ⟨br, 5, none⟩ = false := unfrozen_of_block hRr.disk 5
      obtain ⟨pa, pc, hpv⟩ := row_form hRr.plan
      have c4 : wr.cell? ⟨br, 4, none⟩ = some (.slice pa R.plan.length pc) := by rw [cell_of_block hRr.disk]; show some R.pv = _; rw [show R.pv = _ from hpv]
      have HPV : Hid (R.pv = .slice pa R.plan.length pc) := hpv
      have c5 : wr.cell? ⟨br, 5, none⟩ = some (.bool R.down) := by rw [cell_of_block hRr.disk]; rfl
      clear hRr hFr hBt hlv hpv hkn hA' hk
      go_wp2
      go_end0
      have hR := HW.out.1
      have hF := HW.out.2
      have hk : ∀ b, b ≠ br → ((wr.setCell ⟨br, 4, none⟩ (.slice none 0 0)).setCell ⟨br, 5, none⟩ (.bool false)).heap[b]? = wr.heap[b]? := fun b hb => (Below.heap_setCell _ _ _ _ hb).trans (Below.heap_setCell _ _ _ _ hb)
      refine ⟨rfl, A', HB9.out, ⟨?_, hR.rd, ?_, hR.rl, ?_, hR.rr, hR.nm, World.ownsRow_nil _ _ _ _, fun b hb => (by cases hb), fun b hb => hR.fresh b (by simpa using hb)⟩, hF.os, hF.tape, hF.output, by simpa using hF.size, fun b h0 h1 => (hk b (fun e => by rw [e, hbrd] at h1; cases h1)).trans (hF.block b h0 h1), hF.own⟩
      · rw [block_setCell (block_setCell hR.disk _) _]
        simp [rC]
      · exact ownsRow_heap hR.list (fun b hb => hk b (fun e => by have := hR.rl b hb; rw [e, hR.rd] at this; cases this))
      · exact fun f hf => ownsRow_heap (hR.row f hf) (fun b hb => hk b (fun e => by have := hR.rr f hf b hb; rw [e, hR.rd] at this; cases this))
end Go.Proofs.YtoplejbmgpgkhaaGreatDoor
