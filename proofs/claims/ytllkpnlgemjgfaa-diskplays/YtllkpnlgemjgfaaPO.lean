/- disk: Boot of both by what it leaves; names in their order. -/
import Derived.Test.YtllkpnlgemjgfaaPF
import Derived.Test.YtllkpnlgemjgfaaPN
namespace Go.Proofs.Ytllkpnlgemjgfaa
open Go.RowKit Go.Maps Go.Joins
set_option linter.unusedSimpArgs false
set_option linter.unusedVariables false
theorem before_lt : ∀ (x y : List UInt8), bytesBefore x y = true → x < y
  | [], [], h => by simp [bytesBefore] at h
  | [], b :: y, _ => List.nil_lt_cons b y
  | a :: x, [], h => by simp [bytesBefore] at h
  | a :: x, b :: y, h => by
    rw [List.cons_lt_cons_iff]
    simp only [bytesBefore, Bool.or_eq_true, Bool.and_eq_true, decide_eq_true_eq, beq_iff_eq] at h
    rcases h with h | ⟨h1, h2⟩
    · exact Or.inl h
    · exact Or.inr ⟨h1, before_lt x y h2⟩
theorem names_sorted {w : World} {bd : Nat} {S : DS} (h : DiskIs w bd S) {ss : List (List UInt8)} (hp : ss.Perm (S.fs.map (·.1))) : ss.mergeSort (fun x y => decide (x ≤ y)) = S.fs.map (·.1) := by
  have hs : (S.fs.map (·.1)).Pairwise (fun a b => decide (a ≤ b) = true) := by
    have h1 := h.srt
    unfold Srt absP at h1
    rw [List.pairwise_map] at h1 ⊢
    exact h1.imp fun {a b} h2 => by
      simp only [decide_eq_true_eq]
      exact List.le_of_lt (before_lt _ _ h2)
  refine List.Perm.eq_of_pairwise (le := fun a b => decide (a ≤ b) = true) (fun a b _ _ h1 h2 => ?_) (List.pairwise_mergeSort (fun a b c h1 h2 => ?_) (fun a b => ?_) ss) hs ((List.mergeSort_perm ss _).trans hp)
  · simp only [decide_eq_true_eq] at h1 h2
    exact List.le_antisymm h1 h2
  · simp only [decide_eq_true_eq] at h1 h2 ⊢
    exact List.le_trans h1 h2
  · simp only [Bool.or_eq_true, decide_eq_true_eq]
    exact List.le_total a b
def keepT (p : Tf) (ks : List Int) (j : Nat) : Int := match ks[j]? with
  | none => p.2.2
  | some x => min (max x p.2.2) p.2.1.length
def bootT (l : List Tf) (ks : List Int) : List Tf := l.mapIdx fun j p => (p.1, p.2.1.take (keepT p ks j).toNat, keepT p ks j)
theorem bt_abs {A A' : List RF} {ks : List Int} (h : Bt A A' ks A.length) : absR A' = bootT (absR A) ks := by
  apply List.ext_getElem?
  intro j
  unfold absR bootT
  rw [List.getElem?_mapIdx, List.getElem?_map, List.getElem?_map]
  by_cases hj : j < A.length
  · obtain ⟨f, hf⟩ : ∃ f, A[j]? = some f := ⟨_, List.getElem?_eq_getElem hj⟩
    obtain ⟨bv, hb⟩ := h.done j f hj hf
    rw [hf, hb]
    rfl
  · have h1 : A[j]? = none := List.getElem?_eq_none (by omega)
    have h2 : A'[j]? = none := List.getElem?_eq_none (by rw [h.len]; omega)
    rw [h1, h2]
    rfl
theorem cut_abs {w : World} {bd : Nat} {S S' : DS} {ks : List Int} {ss : List (List UInt8)} (h : DiskIs w bd S) (hp : ss.Perm (S.fs.map (·.1))) (hc : Cutto (upS S) S' (ss.mergeSort (fun x y => decide (x ≤ y))) ks ss.length) : absP S' = bootT (absP S) ks := by
  rw [names_sorted h hp] at hc
  have hfs : S'.fs = S.fs := hc.fs
  have hlen : ss.length = S.fs.length := by rw [hp.length_eq, List.length_map]
  apply List.ext_getElem?
  intro j
  unfold absP bootT
  rw [List.getElem?_mapIdx, List.getElem?_map, List.getElem?_map, hfs]
  by_cases hj : j < S.fs.length
  · obtain ⟨p, hpj⟩ : ∃ p, S.fs[j]? = some p := ⟨_, List.getElem?_eq_getElem hj⟩
    have hd := hc.done j p.1 (by omega) (by rw [List.getElem?_map, hpj]; rfl)
    rw [hpj]
    show some (p.1, (S'.fl p.1).bs, (S'.fl p.1).safe) = _
    rw [hd.1, hd.2]
    rfl
  · rw [List.getElem?_eq_none (by omega)]
    rfl
theorem boot_sum {ks : List Int} : ∀ {l : List Tf} {o : Nat}, sumT (l.mapIdx fun j p => ((p.1, p.2.1.take (keepT p ks (o + j)).toNat, keepT p ks (o + j)) : Tf)) ≤ sumT l
  | [], _ => by simp [sumT]
  | p :: l, o => by
    rw [List.mapIdx_cons]
    have ih := boot_sum (ks := ks) (l := l) (o := o + 1)
    have e : (List.mapIdx ((fun j p => ((p.1, p.2.1.take (keepT p ks (o + j)).toNat, keepT p ks (o + j)) : Tf)) ∘ fun x => x + 1) l) = l.mapIdx fun j p => ((p.1, p.2.1.take (keepT p ks (o + 1 + j)).toNat, keepT p ks (o + 1 + j)) : Tf) := by
      congr 1
      funext j p
      simp only [Function.comp]
      rw [show o + (j + 1) = o + 1 + j by omega]
    simp only [sumT]
    rw [List.length_take]
    have e2 : (List.mapIdx (fun i p => ((p.1, p.2.1.take (keepT p ks (o + (i + 1))).toNat, keepT p ks (o + (i + 1))) : Tf)) l) = l.mapIdx fun j p => ((p.1, p.2.1.take (keepT p ks (o + 1 + j)).toNat, keepT p ks (o + 1 + j)) : Tf) := by
      congr 1
      funext j p
      rw [show o + (j + 1) = o + 1 + j by omega]
    rw [e2]
    omega
theorem boot_wf {l : List Tf} {ro : Int} (h : Wf l ro) (ks : List Int) : Wf (bootT l ks) ro := by
  refine ⟨by unfold bootT; rw [List.length_mapIdx]; exact h.len, ?_, fun p hp => ?_⟩
  · have h1 := boot_sum (ks := ks) (l := l) (o := 0)
    simp only [Nat.zero_add] at h1
    have h2 := h.sum
    unfold bootT
    omega
  · unfold bootT at hp
    obtain ⟨j, hj, hpj⟩ := List.mem_mapIdx.1 hp
    have hs := h.safe _ (List.getElem_mem hj)
    subst hpj
    simp only
    rw [List.length_take]
    unfold keepT
    split <;> omega
end Go.Proofs.Ytllkpnlgemjgfaa
