/- disk: Rename; Append without room. -/
import Derived.Test.YtllkpnlgemjgfaaDQ
namespace Go.Proofs.Ytllkpnlgemjgfaa
open Go.RowKit Go.Maps Go.Joins
set_option linter.unusedSimpArgs false
set_option linter.unusedVariables false
/-- A file has another name. -/
def renFs (S : DS) (n t : List UInt8) (g : Nat) : DS := { S with fs := putL (delL S.fs n) t g, fl := fun m => if m = t then S.fl n else S.fl m, role := fun b => if b = g then .file t else if (S.fl n).sl.ownBlock = some b then .bytes t else S.role b }
theorem DiskIs.renF {w w' : World} {bd : Nat} {S : DS} (h : DiskIs w bd S) {n t : List UInt8} {g : Nat} (hm : (n, g) ∈ S.fs) {k : Nat} (hmap : w'.ownsMap Try.prog 9 Rp S.bm k (toD (putL (delL S.fs n) t g))) (hk : ∀ b, b < w.heap.size → b ≠ S.bm → w'.heap[b]? = w.heap[b]?) (hs : w.heap.size ≤ w'.heap.size) : DiskIs w' bd (renFs S n t g) := by
  have hk' : ∀ b, S.role b ≠ .none → S.role b ≠ .map → w'.heap[b]? = w.heap[b]? := fun b h0 h1 => hk b (h.role_lt h0) (fun e => h1 (by rw [e]; exact h.rm))
  have hrg := h.rf _ hm
  have hold : ∀ b, S.role b ≠ .file n → S.role b ≠ .bytes n → (renFs S n t g).role b = S.role b := fun b h1 h2 => by
    show (if _ then _ else if _ then _ else _) = _
    rw [if_neg (fun e => h1 (by rw [e]; exact hrg)), if_neg (fun e => h2 (h.rr _ hm b e))]
  have hfl : ∀ m, m ≠ t → (renFs S n t g).fl m = S.fl m := fun m hm => if_neg hm
  have hfn : (renFs S n t g).fl t = S.fl n := if_pos rfl
  have hmem : ∀ p ∈ (renFs S n t g).fs, p = (t, g) ∨ (p ∈ S.fs ∧ p.1 ≠ n ∧ p.1 ≠ t) := fun p hp => by
    rcases mem_putL hp with rfl | ⟨hp', e⟩
    · exact Or.inl rfl
    · exact Or.inr ⟨(mem_delL hp').1, (mem_delL hp').2, e⟩
  refine ⟨?_, ?_, ?_, ?_, ?_, ?_, ?_, ?_, ?_, ?_, ?_⟩
  · exact (hk' bd (by rw [h.rd]; simp) (by rw [h.rd]; simp)).trans h.disk
  · rw [hold bd (by rw [h.rd]; simp) (by rw [h.rd]; simp)]; exact h.rd
  · have := ownsMap_size hmap
    rw [size_toD] at this
    exact this
  · show (renFs S n t g).role S.bm = _
    rw [hold _ (by rw [h.rm]; simp) (by rw [h.rm]; simp)]; exact h.rm
  · exact h.plan.kept (fun b hb => hk' b (by rw [h.rp b hb]; simp) (by rw [h.rp b hb]; simp))
  · intro b hb
    have := h.rp b hb
    rw [hold _ (by rw [this]; simp) (by rw [this]; simp)]; exact this
  · intro p hp
    rcases hmem p hp with rfl | ⟨hp', e1, e2⟩
    · show w'.heap[g]? = _
      rw [show ((t, g) : List UInt8 × Nat).1 = t from rfl, hfn]
      exact (hk' _ (by rw [hrg]; simp) (by rw [hrg]; simp)).trans (h.file _ hm)
    · rw [hfl _ e2]
      have := h.rf p hp'
      exact (hk' _ (by rw [this]; simp) (by rw [this]; simp)).trans (h.file p hp')
  · intro p hp
    rcases hmem p hp with rfl | ⟨hp', e1, e2⟩
    · show (if _ then _ else _) = _
      rw [if_pos rfl]
    · have := h.rf p hp'
      rw [hold _ (by rw [this]; simp; exact e1) (by rw [this]; simp)]; exact this
  · intro p hp
    rcases hmem p hp with rfl | ⟨hp', e1, e2⟩
    · rw [show ((t, g) : List UInt8 × Nat).1 = t from rfl, hfn]
      exact ownsRow_heap (h.row _ hm) (fun b hb => by
        have := h.rr _ hm b hb
        exact hk' _ (by rw [this]; simp) (by rw [this]; simp))
    · rw [hfl _ e2]
      exact ownsRow_heap (h.row p hp') (fun b hb => by
        have := h.rr p hp' b hb
        exact hk' _ (by rw [this]; simp) (by rw [this]; simp))
  · intro p hp b hbb
    rcases hmem p hp with rfl | ⟨hp', e1, e2⟩
    · rw [show ((t, g) : List UInt8 × Nat).1 = t from rfl, hfn] at hbb
      show (if _ then _ else if _ then _ else _) = _
      rw [if_neg (fun e => by have := h.rr _ hm b hbb; rw [e, hrg] at this; cases this), if_pos hbb]
    · rw [hfl _ e2] at hbb
      have := h.rr p hp' b hbb
      rw [hold _ (by rw [this]; simp) (by rw [this]; simp; exact e1)]; exact this
  · intro b hbb
    have h0 := h.fresh b (by omega)
    rw [hold b (by rw [h0]; simp) (by rw [h0]; simp)]; exact h0
theorem DiskIs.renRole {w : World} {bd : Nat} {S : DS} (h : DiskIs w bd S) {n t : List UInt8} {g : Nat} (hm : (n, g) ∈ S.fs) : ∀ b, b < w.heap.size → S.role b = .none → (renFs S n t g).role b = .none := fun b _ h0 => by
  show (if _ then _ else if _ then _ else _) = _
  rw [if_neg (fun e => by have := h.rf _ hm; rw [← e, h0] at this; cases this), if_neg (fun e => by have := h.rr _ hm b e; rw [h0] at this; cases this)]
  exact h0
set_option maxRecDepth 100000 in
set_option maxHeartbeats 4000000 in
theorem rename_arg {w : World} {bd : Nat} {S : DS} (h : DiskIs w bd S) (hc : Cnt S) (s t : ByteArray) (hs : s.size ≤ 9223372036854775807) (ht : t.size ≤ 9223372036854775807) {g : Nat} (hf : findV S [s, t] = some g) (hn : ((stepS S [s, t]).fl s.data.toList).safe < (((stepS S [s, t]).fl s.data.toList).bs.length : Int)) :
    Calls Try.prog 24 #[.pointer (some ⟨bd, 0, none⟩), .string s, .string t] w fun e w' => e = .returned (.int .i64 1) ∧ DiskIs w' bd (stepS S [s, t]) ∧ Fr w w' S (stepS S [s, t]) := by
  have HD : Hid (DiskIs w bd S ∧ Cnt S) := ⟨h, hc⟩
  have HX : Hid (DiskIs (w.alloc (.cells #[.string s, .string t] 9)) bd S ∧ Names (w.alloc (.cells #[.string s, .string t] 9)) w.heap.size [s, t]) := ⟨h.below (by go_grown), names_two w s t hs ht⟩
  have hlt := h.lt
  have hE := findE_zero hf
  have hm := findV_mem hf
  rw [show ([s, t].headD ByteArray.empty).data.toList = s.data.toList from rfl] at hm
  generalize hS1 : stepS S [s, t] = S1 at *
  clear h hc
  have hE' : stepE S [s, t] = stepE S [s, t] := rfl
  go_enter Try.func24, Try.ntmps24
  go_wp2_with (first
    | (go_at_call 39
       refine (find_any HX.out.1 HD.out.2 w.heap.size 2 s [t] HX.out.2 (by simp) (by omega) (by simp)).mono ?_
       rw [hf, hE, hS1, show pv (some g) = .pointer (some ⟨g, 0, none⟩) from rfl]
       rintro e w1 ⟨rfl, hD1, hG1, hZ1⟩
       have hF1 : Fr w w1 S S1 := by
         have e1 : Fr w (w.alloc (.cells #[.string s, .string t] 9)) S S := Fr.below (by go_grown)
         have e2 := HX.out.1.frG hG1 [s, t]
         rw [hS1] at e2
         exact e1.trans e2
       have HDD : Hid (DiskIs w1 bd S1 ∧ Fr w w1 S S1) := ⟨hD1, hF1⟩
       have hfile : w1.heap[g]? = some (.cells #[(S1.fl s.data.toList).sl, .int .i64 (S1.fl s.data.toList).safe] 69) := hD1.file _ hm
       have hrow : w1.ownsRow 0 5 1 (S1.fl s.data.toList).sl (S1.fl s.data.toList).bs.length (vB (S1.fl s.data.toList).bs) := hD1.row _ hm
       obtain ⟨a, cap, hsl⟩ := row_form hrow
       rw [hsl] at hfile hrow
       have c0 : w1.cell? ⟨g, 0, none⟩ = some (.slice a (S1.fl s.data.toList).bs.length cap) := by rw [cell_of_block hfile]; rfl
       have cs : w1.cell? ⟨g, 1, none⟩ = some (.int .i64 (S1.fl s.data.toList).safe) := by rw [cell_of_block hfile]; rfl
       have c1 : w1.cell? ⟨bd, 1, none⟩ = some (.map (some S1.bm)) := by rw [cell_of_block hD1.disk]; rfl
       have hcap := row_cap hrow
       clear hrow
       have HFI : Hid (w1.heap[g]? = some (.cells #[.slice a (S1.fl s.data.toList).bs.length cap, .int .i64 (S1.fl s.data.toList).safe] 69)) := hfile
       clear hD1 hG1 hF1 hfile)
    | go_in)
  have HI : Hid (w1.cell? ⟨g, 0, none⟩ = some (.slice a (S1.fl s.data.toList).bs.length cap) ∧ w1.cell? ⟨g, 1, none⟩ = some (.int .i64 (S1.fl s.data.toList).safe)) := ⟨c0, cs⟩
  clear c0 cs c1 HFI hcap
  refine wp_region_held_drew (S := fun w' => w'.heap = w1.heap) (by kernel_rfl) rfl (fun hHeld => ?_)
  refine wpAnyH_take (i := 0) (v := .pointer (some ⟨g, 0, none⟩)) rfl (by kernel_rfl) (by kernel_rfl) (by kernel_rfl) (fun _ _ _ h => h) (Or.inl ⟨by rfl, fun w9 hSw => ?_⟩) hHeld ?_
  · go_simp
  simp only [List.getElem_toArray, List.getElem_cons_succ, List.getElem_cons_zero, Act.put, List.setIfInBounds_toArray, List.set_cons_zero, List.set_cons_succ]
  refine wpAnyH_take (i := 1) (v := .pointer (some ⟨g, 0, none⟩)) rfl (by kernel_rfl) (by kernel_rfl) (by kernel_rfl) (fun _ _ _ h => h) (Or.inl ⟨by rfl, fun w9 hSw => ?_⟩) hHeld ?_
  · go_simp
  simp only [List.getElem_toArray, List.getElem_cons_succ, List.getElem_cons_zero, Act.put, List.setIfInBounds_toArray, List.set_cons_zero, List.set_cons_succ]
  refine wpAnyH_take (i := 2) (v := .pointer (some ⟨g, 1, none⟩)) rfl (by kernel_rfl) (by kernel_rfl) (by kernel_rfl) (fun _ _ _ h => h) (Or.inl ⟨by rfl, fun w9 hSw => ?_⟩) hHeld ?_
  · go_simp
  simp only [List.getElem_toArray, List.getElem_cons_succ, List.getElem_cons_zero, Act.put, List.setIfInBounds_toArray, List.set_cons_zero, List.set_cons_succ]
  refine wpAnyH_take (i := 3) (v := .int .i64 (S1.fl s.data.toList).safe) rfl (by kernel_rfl) (by kernel_rfl) (by kernel_rfl) (fun _ _ _ h => h) (Or.inl ⟨by rfl, fun w9 hSw => ?_⟩) hHeld ?_
  · have hc : w9.cell? ⟨g, 1, none⟩ = some (.int .i64 (S1.fl s.data.toList).safe) := (World.cell?_of_block (by rw [hSw])).trans HI.out.2
    go_simp
  simp only [List.getElem_toArray, List.getElem_cons_succ, List.getElem_cons_zero, Act.put, List.setIfInBounds_toArray, List.set_cons_zero, List.set_cons_succ]
  refine wpAnyH_take (i := 4) (v := .pointer (some ⟨g, 0, none⟩)) rfl (by kernel_rfl) (by kernel_rfl) (by kernel_rfl) (fun _ _ _ h => h) (Or.inl ⟨by rfl, fun w9 hSw => ?_⟩) hHeld ?_
  · go_simp
  simp only [List.getElem_toArray, List.getElem_cons_succ, List.getElem_cons_zero, Act.put, List.setIfInBounds_toArray, List.set_cons_zero, List.set_cons_succ]
  refine wpAnyH_take (i := 5) (v := .pointer (some ⟨g, 0, none⟩)) rfl (by kernel_rfl) (by kernel_rfl) (by kernel_rfl) (fun _ _ _ h => h) (Or.inl ⟨by rfl, fun w9 hSw => ?_⟩) hHeld ?_
  · go_simp
  simp only [List.getElem_toArray, List.getElem_cons_succ, List.getElem_cons_zero, Act.put, List.setIfInBounds_toArray, List.set_cons_zero, List.set_cons_succ]
  refine wpAnyH_take (i := 6) (v := .pointer (some ⟨g, 0, none⟩)) rfl (by kernel_rfl) (by kernel_rfl) (by kernel_rfl) (fun _ _ _ h => h) (Or.inl ⟨by rfl, fun w9 hSw => ?_⟩) hHeld ?_
  · go_simp
  simp only [List.getElem_toArray, List.getElem_cons_succ, List.getElem_cons_zero, Act.put, List.setIfInBounds_toArray, List.set_cons_zero, List.set_cons_succ]
  refine wpAnyH_take (i := 7) (v := .slice a (S1.fl s.data.toList).bs.length cap) rfl (by kernel_rfl) (by kernel_rfl) (by kernel_rfl) (fun _ _ _ h => h) (Or.inl ⟨by rfl, fun w9 hSw => ?_⟩) hHeld ?_
  · have hc : w9.cell? ⟨g, 0, none⟩ = some (.slice a (S1.fl s.data.toList).bs.length cap) := (World.cell?_of_block (by rw [hSw])).trans HI.out.1
    go_simp
  simp only [List.getElem_toArray, List.getElem_cons_succ, List.getElem_cons_zero, Act.put, List.setIfInBounds_toArray, List.set_cons_zero, List.set_cons_succ]
  refine wpAnyH_take (i := 8) (v := .int .i64 ((S1.fl s.data.toList).bs.length : Int)) rfl (by kernel_rfl) (by kernel_rfl) (by kernel_rfl) (fun _ _ _ h => h) (Or.inl ⟨by rfl, fun w9 hSw => ?_⟩) hHeld ?_
  · go_simp
  simp only [List.getElem_toArray, List.getElem_cons_succ, List.getElem_cons_zero, Act.put, List.setIfInBounds_toArray, List.set_cons_zero, List.set_cons_succ]
  refine wpAnyH_take (i := 9) (v := .bool true) rfl (by kernel_rfl) (by kernel_rfl) (by kernel_rfl) (fun _ _ _ h => h) (Or.inl ⟨by rfl, fun w9 hSw => ?_⟩) hHeld ?_
  · go_simp
  simp only [List.getElem_toArray, List.getElem_cons_succ, List.getElem_cons_zero, Act.put, List.setIfInBounds_toArray, List.set_cons_zero, List.set_cons_succ]
  refine wpAnyH_done (by kernel_rfl) ?_ _
  have HD2 : Hid (DiskIs w1.drew bd S1 ∧ Fr w w1.drew S S1) := ⟨HDD.out.1.kept (fun _ _ => rfl) (Nat.le_refl _), ⟨HDD.out.2.os, HDD.out.2.tape, HDD.out.2.output, HDD.out.2.size, HDD.out.2.block, HDD.out.2.role⟩⟩
  clear hHeld HI HDD
  generalize w1.drew = w2 at HD2 ⊢
  go_wp2
  go_ret
  exact ⟨rfl, HD2.out⟩
set_option maxRecDepth 100000 in
set_option maxHeartbeats 4000000 in
theorem rename_ok {w : World} {bd : Nat} {S : DS} (h : DiskIs w bd S) (hc : Cnt S) (s t : ByteArray) (hs : s.size ≤ 9223372036854775807) (ht : t.size ≤ 9223372036854775807) {g : Nat} (hf : findV S [s, t] = some g) (hn : (((stepS S [s, t]).fl s.data.toList).bs.length : Int) ≤ ((stepS S [s, t]).fl s.data.toList).safe) (hfl : S.fs.length ≤ 1000) :
    Calls Try.prog 24 #[.pointer (some ⟨bd, 0, none⟩), .string s, .string t] w fun e w' => e = .returned (.int .i64 0) ∧ DiskIs w' bd (renFs (stepS S [s, t]) s.data.toList t.data.toList g) ∧ Fr w w' S (renFs (stepS S [s, t]) s.data.toList t.data.toList g) := by
  have HD : Hid (DiskIs w bd S ∧ Cnt S) := ⟨h, hc⟩
  have HX : Hid (DiskIs (w.alloc (.cells #[.string s, .string t] 9)) bd S ∧ Names (w.alloc (.cells #[.string s, .string t] 9)) w.heap.size [s, t]) := ⟨h.below (by go_grown), names_two w s t hs ht⟩
  have hlt := h.lt
  have hE := findE_zero hf
  have hm := findV_mem hf
  rw [show ([s, t].headD ByteArray.empty).data.toList = s.data.toList from rfl] at hm
  generalize hS1 : stepS S [s, t] = S1 at *
  clear h hc
  have hkey := WideMaps.keyOf_string_mk Try.underlying9 (s := s) hs
  have hkey2 := WideMaps.keyOf_string_mk Try.underlying9 (s := t) ht
  have e3 := fs_stepS S [s, t]
  rw [hS1] at e3
  rw [← e3] at hfl
  clear e3
  have hlt2 : decide ((S1.fl s.data.toList).safe < ((S1.fl s.data.toList).bs.length : Int)) = false := by simp; omega
  go_enter Try.func24, Try.ntmps24
  go_wp2_with (first
    | (go_at_call 39
       refine (find_any HX.out.1 HD.out.2 w.heap.size 2 s [t] HX.out.2 (by simp) (by omega) (by simp)).mono ?_
       rw [hf, hE, hS1, show pv (some g) = .pointer (some ⟨g, 0, none⟩) from rfl]
       rintro e w1 ⟨rfl, hD1, hG1, hZ1⟩
       have hF1 : Fr w w1 S S1 := by
         have e1 : Fr w (w.alloc (.cells #[.string s, .string t] 9)) S S := Fr.below (by go_grown)
         have e2 := HX.out.1.frG hG1 [s, t]
         rw [hS1] at e2
         exact e1.trans e2
       have HDD : Hid (DiskIs w1 bd S1 ∧ Fr w w1 S S1) := ⟨hD1, hF1⟩
       have hfile : w1.heap[g]? = some (.cells #[(S1.fl s.data.toList).sl, .int .i64 (S1.fl s.data.toList).safe] 69) := hD1.file _ hm
       have hrow : w1.ownsRow 0 5 1 (S1.fl s.data.toList).sl (S1.fl s.data.toList).bs.length (vB (S1.fl s.data.toList).bs) := hD1.row _ hm
       obtain ⟨a, cap, hsl⟩ := row_form hrow
       rw [hsl] at hfile hrow
       have c0 : w1.cell? ⟨g, 0, none⟩ = some (.slice a (S1.fl s.data.toList).bs.length cap) := by rw [cell_of_block hfile]; rfl
       have cs : w1.cell? ⟨g, 1, none⟩ = some (.int .i64 (S1.fl s.data.toList).safe) := by rw [cell_of_block hfile]; rfl
       have c1 : w1.cell? ⟨bd, 1, none⟩ = some (.map (some S1.bm)) := by rw [cell_of_block hD1.disk]; rfl
       have hcap := row_cap hrow
       clear hrow
       have HFI : Hid (w1.heap[g]? = some (.cells #[.slice a (S1.fl s.data.toList).bs.length cap, .int .i64 (S1.fl s.data.toList).safe] 69)) := hfile
       clear hD1 hG1 hF1 hfile)
    | go_in)
  have HI : Hid (w1.cell? ⟨g, 0, none⟩ = some (.slice a (S1.fl s.data.toList).bs.length cap) ∧ w1.cell? ⟨g, 1, none⟩ = some (.int .i64 (S1.fl s.data.toList).safe)) := ⟨c0, cs⟩
  clear c0 cs c1 HFI hcap
  refine wp_region_held_drew (S := fun w' => w'.heap = w1.heap) (by kernel_rfl) rfl (fun hHeld => ?_)
  refine wpAnyH_take (i := 0) (v := .pointer (some ⟨g, 0, none⟩)) rfl (by kernel_rfl) (by kernel_rfl) (by kernel_rfl) (fun _ _ _ h => h) (Or.inl ⟨by rfl, fun w9 hSw => ?_⟩) hHeld ?_
  · go_simp
  simp only [List.getElem_toArray, List.getElem_cons_succ, List.getElem_cons_zero, Act.put, List.setIfInBounds_toArray, List.set_cons_zero, List.set_cons_succ]
  refine wpAnyH_take (i := 1) (v := .pointer (some ⟨g, 0, none⟩)) rfl (by kernel_rfl) (by kernel_rfl) (by kernel_rfl) (fun _ _ _ h => h) (Or.inl ⟨by rfl, fun w9 hSw => ?_⟩) hHeld ?_
  · go_simp
  simp only [List.getElem_toArray, List.getElem_cons_succ, List.getElem_cons_zero, Act.put, List.setIfInBounds_toArray, List.set_cons_zero, List.set_cons_succ]
  refine wpAnyH_take (i := 2) (v := .pointer (some ⟨g, 1, none⟩)) rfl (by kernel_rfl) (by kernel_rfl) (by kernel_rfl) (fun _ _ _ h => h) (Or.inl ⟨by rfl, fun w9 hSw => ?_⟩) hHeld ?_
  · go_simp
  simp only [List.getElem_toArray, List.getElem_cons_succ, List.getElem_cons_zero, Act.put, List.setIfInBounds_toArray, List.set_cons_zero, List.set_cons_succ]
  refine wpAnyH_take (i := 3) (v := .int .i64 (S1.fl s.data.toList).safe) rfl (by kernel_rfl) (by kernel_rfl) (by kernel_rfl) (fun _ _ _ h => h) (Or.inl ⟨by rfl, fun w9 hSw => ?_⟩) hHeld ?_
  · have hc : w9.cell? ⟨g, 1, none⟩ = some (.int .i64 (S1.fl s.data.toList).safe) := (World.cell?_of_block (by rw [hSw])).trans HI.out.2
    go_simp
  simp only [List.getElem_toArray, List.getElem_cons_succ, List.getElem_cons_zero, Act.put, List.setIfInBounds_toArray, List.set_cons_zero, List.set_cons_succ]
  refine wpAnyH_take (i := 4) (v := .pointer (some ⟨g, 0, none⟩)) rfl (by kernel_rfl) (by kernel_rfl) (by kernel_rfl) (fun _ _ _ h => h) (Or.inl ⟨by rfl, fun w9 hSw => ?_⟩) hHeld ?_
  · go_simp
  simp only [List.getElem_toArray, List.getElem_cons_succ, List.getElem_cons_zero, Act.put, List.setIfInBounds_toArray, List.set_cons_zero, List.set_cons_succ]
  refine wpAnyH_take (i := 5) (v := .pointer (some ⟨g, 0, none⟩)) rfl (by kernel_rfl) (by kernel_rfl) (by kernel_rfl) (fun _ _ _ h => h) (Or.inl ⟨by rfl, fun w9 hSw => ?_⟩) hHeld ?_
  · go_simp
  simp only [List.getElem_toArray, List.getElem_cons_succ, List.getElem_cons_zero, Act.put, List.setIfInBounds_toArray, List.set_cons_zero, List.set_cons_succ]
  refine wpAnyH_take (i := 6) (v := .pointer (some ⟨g, 0, none⟩)) rfl (by kernel_rfl) (by kernel_rfl) (by kernel_rfl) (fun _ _ _ h => h) (Or.inl ⟨by rfl, fun w9 hSw => ?_⟩) hHeld ?_
  · go_simp
  simp only [List.getElem_toArray, List.getElem_cons_succ, List.getElem_cons_zero, Act.put, List.setIfInBounds_toArray, List.set_cons_zero, List.set_cons_succ]
  refine wpAnyH_take (i := 7) (v := .slice a (S1.fl s.data.toList).bs.length cap) rfl (by kernel_rfl) (by kernel_rfl) (by kernel_rfl) (fun _ _ _ h => h) (Or.inl ⟨by rfl, fun w9 hSw => ?_⟩) hHeld ?_
  · have hc : w9.cell? ⟨g, 0, none⟩ = some (.slice a (S1.fl s.data.toList).bs.length cap) := (World.cell?_of_block (by rw [hSw])).trans HI.out.1
    go_simp
  simp only [List.getElem_toArray, List.getElem_cons_succ, List.getElem_cons_zero, Act.put, List.setIfInBounds_toArray, List.set_cons_zero, List.set_cons_succ]
  refine wpAnyH_take (i := 8) (v := .int .i64 ((S1.fl s.data.toList).bs.length : Int)) rfl (by kernel_rfl) (by kernel_rfl) (by kernel_rfl) (fun _ _ _ h => h) (Or.inl ⟨by rfl, fun w9 hSw => ?_⟩) hHeld ?_
  · go_simp
  simp only [List.getElem_toArray, List.getElem_cons_succ, List.getElem_cons_zero, Act.put, List.setIfInBounds_toArray, List.set_cons_zero, List.set_cons_succ]
  refine wpAnyH_take (i := 9) (v := .bool false) rfl (by kernel_rfl) (by kernel_rfl) (by kernel_rfl) (fun _ _ _ h => h) (Or.inl ⟨by rfl, fun w9 hSw => ?_⟩) hHeld ?_
  · go_simp
  simp only [List.getElem_toArray, List.getElem_cons_succ, List.getElem_cons_zero, Act.put, List.setIfInBounds_toArray, List.set_cons_zero, List.set_cons_succ]
  refine wpAnyH_done (by kernel_rfl) ?_ _
  have HD2 : Hid (DiskIs w1.drew bd S1 ∧ Fr w w1.drew S S1) := ⟨HDD.out.1.kept (fun _ _ => rfl) (Nat.le_refl _), ⟨HDD.out.2.os, HDD.out.2.tape, HDD.out.2.output, HDD.out.2.size, HDD.out.2.block, HDD.out.2.role⟩⟩
  clear hHeld HI HDD
  generalize w1.drew = w2 at HD2 ⊢
  have c1 : w2.cell? ⟨bd, 1, none⟩ = some (.map (some S1.bm)) := by rw [cell_of_block HD2.out.1.disk]; rfl
  go_wp2_with (first
    | (at_delete
       refine wpList_delete_own _ rfl _ _ 56 9 rfl 66 law9 Try.underlying56 Rp S1.bm S1.fs.length (toD S1.fs) rfl HD2.out.1.files _ _ rfl hkey ?_
       rw [del_toD]
       intro w3 hown3 ht3
       have c3 : w3.cell? ⟨bd, 1, none⟩ = some (.map (some S1.bm)) := by
         rw [World.cell?_of_block (ht3.grown.block bd HD2.out.1.lt (fun e => by injection e with e; have := HD2.out.1.rm; rw [← e, HD2.out.1.rd] at this; cases this))]
         exact c1
       have H3 : Hid (w3.ownsMap Try.prog 9 Rp S1.bm S1.fs.length (toD (delL S1.fs s.data.toList)) ∧ w2.grownBy w3 (some S1.bm)) := ⟨hown3, ht3.grown⟩
       clear hown3 ht3)
    | (at_mapUpdate
       refine wpList_mapUpdate_own _ rfl _ _ _ 56 rfl 9 66 law9 Try.underlying56 Rp S1.bm S1.fs.length (toD (delL S1.fs s.data.toList)) rfl H3.out.1 (by unfold maxLen; omega) _ _ _ rfl rfl hkey2 (.lit (.int .i64 (g : Int))) [] rfl ?_
       rw [put_toD]
       intro w4 hown4 hg4
       have H4 : Hid (w4.ownsMap Try.prog 9 Rp S1.bm (S1.fs.length + 1) (toD (putL (delL S1.fs s.data.toList) t.data.toList g)) ∧ w2.grownBy w4 (some S1.bm)) := ⟨hown4, H3.out.2.trans hg4⟩
       clear hown4 hg4)
    | go_in)
  go_ret
  obtain ⟨hown4, hg4⟩ := H4.out
  exact ⟨rfl, HD2.out.1.renF hm hown4 (fun b h1 h2 => hg4.block b h1 (fun e => by injection e with e; exact h2 e)) hg4.size, HD2.out.2.trans (turned_fr HD2.out.1 hg4 (HD2.out.1.renRole hm))⟩
end Go.Proofs.Ytllkpnlgemjgfaa
