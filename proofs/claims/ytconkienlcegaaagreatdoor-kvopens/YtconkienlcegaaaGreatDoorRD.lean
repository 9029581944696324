/- disk: the document's put. -/
import Derived.Test.YtconkienlcegaaaGreatDoorGDD
import Derived.Test.YtconkienlcegaaaGreatDoorGRC
import Derived.WalkLawsBesides
namespace Go.Proofs.YtconkienlcegaaaGreatDoor
open Go.RowKit Go.Maps Go.Joins
set_option linter.unusedSimpArgs false
set_option linter.unusedVariables false
def ltR (a f : RF) : Bool := Op.bytesLess a.nm.toList f.nm.toList
def putSt (f : RF) (s : List RF × Bool) (a : RF) : List RF × Bool :=
 ((if !s.2 && !ltR a f then s.1 ++ [f] else s.1) ++ (if a.nm = f.nm then [] else [a]), s.2 || !ltR a f)
def putTo (f : RF) (l : List RF) : List RF × Bool := l.foldl (putSt f) ([], false)
def putR (f : RF) (A : List RF) : List RF := if (putTo f A).2 then (putTo f A).1 else (putTo f A).1 ++ [f]
theorem putTo_succ {f a : RF} {A : List RF} {k : Nat} (h : A[k]? = some a) : putTo f (A.take (k + 1)) = putSt f (putTo f (A.take k)) a := by
 unfold putTo; rw [List.take_add_one, h, List.foldl_append]; rfl
theorem putTo_len (f : RF) : ∀ (l : List RF) (s : List RF × Bool), (l.foldl (putSt f) s).1.length ≤ s.1.length + 2 * l.length
 | [], s => by simp
 | a :: r, s => by
   have := putTo_len f r (putSt f s a); simp only [List.foldl_cons, List.length_cons]; have h2 : (putSt f s a).1.length ≤ s.1.length + 2 := by
    unfold putSt; simp only [List.length_append]; split <;> split <;> simp <;> omega
   omega
theorem putTo_mem (f : RF) : ∀ (l : List RF) (s : List RF × Bool) (P : RF → Prop), (∀ x ∈ s.1, P x) → P f → (∀ x ∈ l, P x) → ∀ x ∈ (l.foldl (putSt f) s).1, P x
 | [], s, P, h1, _, _ => h1
 | a :: r, s, P, h1, h2, h3 => by
   refine putTo_mem f r (putSt f s a) P ?_ h2 (fun x hx => h3 x (List.mem_cons_of_mem _ hx)); intro x hx; unfold putSt at hx; rcases List.mem_append.1 hx with hx | hx
   · split at hx
     · rcases List.mem_append.1 hx with hx | hx
       · exact h1 x hx
       · rw [List.mem_singleton.1 hx]; exact h2
     · exact h1 x hx
   · split at hx
     · cases hx
     · rw [List.mem_singleton.1 hx]; exact h3 a (List.mem_cons_self ..)
theorem putR_mem {f : RF} {A : List RF} {x : RF} (h : x ∈ putR f A) : x ∈ A ∨ x = f := by
 have key := putTo_mem f A ([], false) (fun x => x ∈ A ∨ x = f) (fun _ h => by cases h) (Or.inr rfl) (fun x hx => Or.inl hx); unfold putR at h; split at h
 · exact key x h
 · rcases List.mem_append.1 h with h | h
   · exact key x h
   · exact Or.inr (List.mem_singleton.1 h)
theorem put_cells {w X : World} {br : Nat} {R : RS} (h : RefIs w br R) {f : RF} {k g cap : Nat} {a : RF} (hk : R.A[k]? = some a) (hlv : R.lv = .slice (some ⟨g, 0, none⟩) R.A.length cap) (hb : Below (w.heap.size + 1) (w.alloc (.cells #[.string f.nm, f.bv, .int .i64 f.sf] 119)) X) :
 X.cell? ⟨br, 3, none⟩ = some (.slice (some ⟨g, 0, none⟩) R.A.length cap) ∧ X.cell? ⟨g, k * 3, none⟩ = some (.string a.nm) ∧ X.cell? ⟨g, k * 3 + 1, none⟩ = some a.bv ∧ X.cell? ⟨g, k * 3 + 2, none⟩ = some (.int .i64 a.sf) ∧
 X.cell? ⟨w.heap.size, 0, none⟩ = some (.string f.nm) ∧ X.cell? ⟨w.heap.size, 1, none⟩ = some f.bv ∧ X.cell? ⟨w.heap.size, 2, none⟩ = some (.int .i64 f.sf) := by
 obtain ⟨g', cap', hv, _, hgl, _, hc⟩ := h.cell hk; rw [hlv] at hv; injection hv with hva _ _
 injection hva with hva
 injection hva with hva
 subst hva; have hbl := h.lt; have h0 : w.heap.size < w.heap.size + 1 := by omega
 have hold : ∀ b, b < w.heap.size → ∀ j, X.cell? ⟨b, j, none⟩ = w.cell? ⟨b, j, none⟩ := fun b hb' j => by
  rw [hb.cell (p := ⟨b, j, none⟩) (by show b < w.heap.size + 1; omega)]; exact World.cell?_of_block (Below.heap_alloc _ _ b hb')
 have hnew : ∀ j, X.cell? ⟨w.heap.size, j, none⟩ = #[Value.string f.nm, f.bv, Value.int .i64 f.sf][j]? := fun j => by
  rw [hb.cell (p := ⟨w.heap.size, j, none⟩) h0, cell_of_block (heap_alloc_new _ _)]
 refine ⟨?_, ?_, ?_, ?_, (hnew 0).trans rfl, (hnew 1).trans rfl, (hnew 2).trans rfl⟩
 · rw [hold br hbl, cell_of_block h.disk]
   simp [rC, hlv]
 · rw [hold g hgl]
   exact hc 0 _ rfl
 · rw [hold g hgl]
   exact hc 1 _ rfl
 · rw [hold g hgl]
   exact hc 2 _ rfl
def PK (w : World) (f : RF) (o : Value) (L : List RF) (X : World) : Prop := X.ownsRow (w.heap.size + 1) 119 3 o L.length (rfL L) ∧ Below (w.heap.size + 1) (w.alloc (.cells #[.string f.nm, f.bv, .int .i64 f.sf] 119)) X
theorem PK.app {w X Y : World} {f x : RF} {o v' : Value} {L : List RF} (h : PK w f o L X) (hx : ∃ a l c, x.bv = .slice a l c) (c : Obj) (ho : Y.ownsRow (w.heap.size + 1) 119 3 v' (L ++ [x]).length (rfL (L ++ [x]))) (hg : (X.alloc c).grownBy Y o.ownBlock) : PK w f v' (L ++ [x]) Y := by
 have hs : (w.alloc (.cells #[.string f.nm, f.bv, .int .i64 f.sf] 119)).heap.size = w.heap.size + 1 := by simp
 have h1 := h.2.size; rw [hs] at h1; have hA : Below (w.heap.size + 1) (w.alloc (.cells #[.string f.nm, f.bv, .int .i64 f.sf] 119)) (X.alloc c) := h.2.alloc h1 c; have h2 : w.heap.size + 1 ≤ (X.alloc c).heap.size := by simp; omega
 exact ⟨ho, hA.grown hg h2 (fun j hj => (h.1.lt j hj).1)⟩
theorem PK.drew {w X : World} {f : RF} {o : Value} {L : List RF} (h : PK w f o L X) : PK w f o L X.drew := ⟨h.1, ⟨h.2.os, h.2.tape, h.2.output, h.2.size, h.2.block⟩⟩
theorem PK.size {w X : World} {f : RF} {o : Value} {L : List RF} (h : PK w f o L X) : w.heap.size + 1 ≤ X.heap.size := by
 have h1 := h.2.size; have hs : (w.alloc (.cells #[.string f.nm, f.bv, .int .i64 f.sf] 119)).heap.size = w.heap.size + 1 := by simp
 rw [hs] at h1; exact h1
set_option maxRecDepth 100000 in
set_option maxHeartbeats 16000000 in
theorem rput_any {w : World} {br : Nat} {R : RS} (h : RefIs w br R) (hl : R.A.length ≤ 100) (f : RF) (hfv : ∃ a l c, f.bv = .slice a l c) :
 Calls Tryz.prog 69 #[.pointer (some ⟨br, 0, none⟩), .agg #[.string f.nm, f.bv, .int .i64 f.sf]] w fun e w' => e = .returned (.tuple #[]) ∧ ∃ ov, w'.ownsRow (w.heap.size + 1) 119 3 ov (putR f R.A).length (rfL (putR f R.A)) ∧ w'.heap[br]? = some (.cells (rC { R with lv := ov }) 55) ∧ w.grownBy w' (some br) := by
 obtain ⟨la, lcap, hlv⟩ := row_form h.list; have hlt := h.lt; have f3 : w.frozen? ⟨br, 3, none⟩ = false := unfrozen_of_block h.disk 3; have c3 : w.cell? ⟨br, 3, none⟩ = some (.slice la R.A.length lcap) := by rw [cell_of_block h.disk]; simp [rC, hlv]
 have hdisk : (w.alloc (.cells #[.string f.nm, f.bv, .int .i64 f.sf] 119)).heap[br]? = some (.cells (rC R) 55) := (Below.heap_alloc _ _ br hlt).trans h.disk; have HR : Hid (RefIs w br R ∧ (w.alloc (.cells #[.string f.nm, f.bv, .int .i64 f.sf] 119)).heap[br]? = some (.cells (rC R) 55)) := ⟨h, hdisk⟩
 obtain ⟨fa, fl, fc, hfv⟩ := hfv; have P0 : Hid (PK w f (.slice none 0 0) [] (w.alloc (.cells #[.string f.nm, f.bv, .int .i64 f.sf] 119))) := ⟨World.ownsRow_nil _ _ _ _, Below.refl _ _⟩
 clear h hdisk; have HFV : Hid (f.bv = .slice fa fl fc) := hfv; rw [hfv] at P0; rw [hfv]; go_enter Tryz.func69, Tryz.ntmps69; go_wp2; rw [← hfv] at P0; have hwe : w.alloc (.cells #[.string f.nm, .slice fa fl fc, .int .i64 f.sf] 119) = w.alloc (.cells #[.string f.nm, f.bv, .int .i64 f.sf] 119) := by rw [HFV.out]
 clear hfv; go_loopw [4, 5, 6] (fun o d i wr => ∃ k : Nat, k ≤ R.A.length ∧ i = .int .i64 k ∧ d = .bool (putTo f (R.A.take k)).2 ∧ PK w f o (putTo f (R.A.take k)).1 wr) (fun _ _ i _ => R.A.length - (intOf i).toNat)
 case atStart => exact ⟨0, Nat.zero_le _, rfl, rfl, by rw [hwe]; exact P0.out⟩
 case round =>
  obtain ⟨k, hk, rfl, rfl, hPK⟩ := hrel; obtain ⟨oa, ocap, hov⟩ := row_form hPK.1; subst hov; have HP : Hid (PK w f (.slice oa (putTo f (R.A.take k)).1.length ocap) (putTo f (R.A.take k)).1 wr) := hPK; clear hPK; have hLk : (putTo f (R.A.take k)).1.length ≤ 200 := by
   have h1 := putTo_len f (R.A.take k) ([], false); have h2 := List.length_take_le k R.A; simp at h1; unfold putTo; omega
  by_cases hkl : k < R.A.length
  · obtain ⟨a, hf⟩ : ∃ a, R.A[k]? = some a := ⟨_, List.getElem?_eq_getElem hkl⟩
    have hfm : a ∈ R.A := List.mem_of_getElem? hf; obtain ⟨g, cap', hv, _, hgl, _, _⟩ := HR.out.1.cell hf; rw [hlv] at hv; injection hv with hva _ hvc
    subst hva hvc; obtain ⟨ba, bl, bc, hbv⟩ := HR.out.1.form hfm; have hki : (k : Int) < R.A.length := by omega
    have hsucc := putTo_succ (f := f) hf; generalize hst : putTo f (R.A.take k) = st at *; obtain ⟨L, dn⟩ := st; have hL2 : L.length ≤ 200 := hLk; clear hLk; simp only [] at HP hsucc; have HBV : Hid (a.bv = .slice ba bl bc) := hbv; clear hbv; have cwr := (put_cells HR.out.1 hf hlv HP.out.2).1; cases dn with
    | false =>
      cases hlt6 : ltR a f with
      | true =>
        by_cases heq : a.nm = f.nm
        · have hbq : (a.nm.toList == f.nm.toList) = true := by rw [eqS]; simpa using heq
          have HEQ : Hid (a.nm = f.nm) := heq; clear heq; have hb6 : Op.bytesLess a.nm.toList f.nm.toList = true := hlt6; go_wp2; refine wp_region_held_drew (S := fun w' => w'.heap = wr.heap) (by kernel_rfl) rfl (fun hHeld => ?_); refine tk 0 (.bool false) (fun w9 hSw => ?_) hHeld ?_
          · go_simp
          simp only [sm]; refine tk 1 (.bool true) (fun w9 hSw => ?_) hHeld ?_
          · go_simp
          simp only [sm]; refine tk 2 (.bool true) (fun w9 hSw => ?_) hHeld ?_
          · go_simp
          simp only [sm]; refine tk 3 (.pointer (some ⟨br, 0, none⟩)) (fun w9 hSw => ?_) hHeld ?_
          · go_simp
          simp only [sm]; refine tk 4 (.pointer (some ⟨br, 0, none⟩)) (fun w9 hSw => ?_) hHeld ?_
          · go_simp
          simp only [sm]; refine tk 5 (.pointer (some ⟨br, 3, none⟩)) (fun w9 hSw => ?_) hHeld ?_
          · go_simp
          simp only [sm]; refine tk 6 (.slice (some ⟨g, 0, none⟩) R.A.length lcap) (fun w9 hSw => ?_) hHeld ?_
          · have hc : w9.cell? ⟨br, 3, none⟩ = some (.slice (some ⟨g, 0, none⟩) R.A.length lcap) := (World.cell?_of_block (by rw [hSw])).trans (put_cells HR.out.1 hf hlv HP.out.2).1
            go_simp
          simp only [sm]; refine tk 7 (.int .i64 (k : Int)) (fun w9 hSw => ?_) hHeld ?_
          · go_simp
          simp only [sm]; refine tk 8 (.pointer (some ⟨g, k * 3, none⟩)) (fun w9 hSw => ?_) hHeld ?_
          · go_simp
          simp only [sm]; refine tk 9 (.pointer (some ⟨g, k * 3, none⟩)) (fun w9 hSw => ?_) hHeld ?_
          · go_simp
          simp only [sm]; refine tk 10 (.string a.nm) (fun w9 hSw => ?_) hHeld ?_
          · have hc : w9.cell? ⟨g, k * 3, none⟩ = some (.string a.nm) := (World.cell?_of_block (by rw [hSw])).trans (put_cells HR.out.1 hf hlv HP.out.2).2.1
            go_simp
          simp only [sm]; refine tk 11 (.pointer (some ⟨w.heap.size, 0, none⟩)) (fun w9 hSw => ?_) hHeld ?_
          · go_simp
          simp only [sm]; refine tk 12 (.string f.nm) (fun w9 hSw => ?_) hHeld ?_
          · have hc : w9.cell? ⟨w.heap.size, 0, none⟩ = some (.string f.nm) := (World.cell?_of_block (by rw [hSw])).trans (put_cells HR.out.1 hf hlv HP.out.2).2.2.2.2.1
            go_simp
          simp only [sm]; refine tk 13 (.bool false) (fun w9 hSw => ?_) hHeld ?_
          · go_simp
          simp only [sm]; refine tk 14 (.bool false) (fun w9 hSw => ?_) hHeld ?_
          · go_simp
          simp only [sm]; refine wpAnyH_done (by kernel_rfl) ?_ _; have HP1 := HP.out.drew; clear hHeld HP cwr; generalize wr.drew = wr1 at HP1 ⊢; have HP : Hid (PK w f (.slice oa L.length ocap) L wr1) := HP1; clear HP1; have HQ : Hid (PK w f (.slice oa L.length ocap) L wr1) := HP.out; clear HP; go_wp2; generalize wr1 = wr2 at HQ ⊢; refine wp_region_held_drew (S := fun w' => w'.heap = wr2.heap) (by kernel_rfl) rfl (fun hHeld => ?_); refine tk 0 (.pointer (some ⟨br, 0, none⟩)) (fun w9 hSw => ?_) hHeld ?_
          · go_simp
          simp only [sm]; refine tk 1 (.pointer (some ⟨br, 0, none⟩)) (fun w9 hSw => ?_) hHeld ?_
          · go_simp
          simp only [sm]; refine tk 2 (.pointer (some ⟨br, 3, none⟩)) (fun w9 hSw => ?_) hHeld ?_
          · go_simp
          simp only [sm]; refine tk 3 (.slice (some ⟨g, 0, none⟩) R.A.length lcap) (fun w9 hSw => ?_) hHeld ?_
          · have hc : w9.cell? ⟨br, 3, none⟩ = some (.slice (some ⟨g, 0, none⟩) R.A.length lcap) := (World.cell?_of_block (by rw [hSw])).trans (put_cells HR.out.1 hf hlv HQ.out.2).1
            go_simp
          simp only [sm]; refine tk 4 (.int .i64 (k : Int)) (fun w9 hSw => ?_) hHeld ?_
          · go_simp
          simp only [sm]; refine tk 5 (.pointer (some ⟨g, k * 3, none⟩)) (fun w9 hSw => ?_) hHeld ?_
          · go_simp
          simp only [sm]; refine tk 6 (.pointer (some ⟨g, k * 3, none⟩)) (fun w9 hSw => ?_) hHeld ?_
          · go_simp
          simp only [sm]; refine tk 7 (.string a.nm) (fun w9 hSw => ?_) hHeld ?_
          · have hc : w9.cell? ⟨g, k * 3, none⟩ = some (.string a.nm) := (World.cell?_of_block (by rw [hSw])).trans (put_cells HR.out.1 hf hlv HQ.out.2).2.1
            go_simp
          simp only [sm]; refine tk 8 (.pointer (some ⟨w.heap.size, 0, none⟩)) (fun w9 hSw => ?_) hHeld ?_
          · go_simp
          simp only [sm]; refine tk 9 (.string f.nm) (fun w9 hSw => ?_) hHeld ?_
          · have hc : w9.cell? ⟨w.heap.size, 0, none⟩ = some (.string f.nm) := (World.cell?_of_block (by rw [hSw])).trans (put_cells HR.out.1 hf hlv HQ.out.2).2.2.2.2.1
            go_simp
          simp only [sm]; refine tk 10 (.bool false) (fun w9 hSw => ?_) hHeld ?_
          · go_simp
          simp only [sm]; refine wpAnyH_done (by kernel_rfl) ?_ _; have HQ1 := HQ.out.drew; clear hHeld HQ; generalize wr2.drew = wr3 at HQ1 ⊢; have HQ : Hid (PK w f (.slice oa L.length ocap) L wr3) := HQ1; clear HQ1; go_wp2; go_roundw
          case rel =>
           refine ⟨k + 1, by omega, by go_num, ?_, ?_⟩
           · rw [hsucc]; simp [putSt, hlt6]
           · rw [hsucc]; simp only [putSt, if_pos HEQ.out, List.append_nil]
             simpa [hlt6] using HQ.out
          case measure => simp [intOf]; omega
        · have hbq : (a.nm.toList == f.nm.toList) = false := by rw [eqS]; simpa using heq
          have HEQ : Hid (¬ a.nm = f.nm) := heq; clear heq; have hb6 : Op.bytesLess a.nm.toList f.nm.toList = true := hlt6; go_wp2; refine wp_region_held_drew (S := fun w' => w'.heap = wr.heap) (by kernel_rfl) rfl (fun hHeld => ?_); refine tk 0 (.bool false) (fun w9 hSw => ?_) hHeld ?_
          · go_simp
          simp only [sm]; refine tk 1 (.bool true) (fun w9 hSw => ?_) hHeld ?_
          · go_simp
          simp only [sm]; refine tk 2 (.bool true) (fun w9 hSw => ?_) hHeld ?_
          · go_simp
          simp only [sm]; refine tk 3 (.pointer (some ⟨br, 0, none⟩)) (fun w9 hSw => ?_) hHeld ?_
          · go_simp
          simp only [sm]; refine tk 4 (.pointer (some ⟨br, 0, none⟩)) (fun w9 hSw => ?_) hHeld ?_
          · go_simp
          simp only [sm]; refine tk 5 (.pointer (some ⟨br, 3, none⟩)) (fun w9 hSw => ?_) hHeld ?_
          · go_simp
          simp only [sm]; refine tk 6 (.slice (some ⟨g, 0, none⟩) R.A.length lcap) (fun w9 hSw => ?_) hHeld ?_
          · have hc : w9.cell? ⟨br, 3, none⟩ = some (.slice (some ⟨g, 0, none⟩) R.A.length lcap) := (World.cell?_of_block (by rw [hSw])).trans (put_cells HR.out.1 hf hlv HP.out.2).1
            go_simp
          simp only [sm]; refine tk 7 (.int .i64 (k : Int)) (fun w9 hSw => ?_) hHeld ?_
          · go_simp
          simp only [sm]; refine tk 8 (.pointer (some ⟨g, k * 3, none⟩)) (fun w9 hSw => ?_) hHeld ?_
          · go_simp
          simp only [sm]; refine tk 9 (.pointer (some ⟨g, k * 3, none⟩)) (fun w9 hSw => ?_) hHeld ?_
          · go_simp
          simp only [sm]; refine tk 10 (.string a.nm) (fun w9 hSw => ?_) hHeld ?_
          · have hc : w9.cell? ⟨g, k * 3, none⟩ = some (.string a.nm) := (World.cell?_of_block (by rw [hSw])).trans (put_cells HR.out.1 hf hlv HP.out.2).2.1
            go_simp
          simp only [sm]; refine tk 11 (.pointer (some ⟨w.heap.size, 0, none⟩)) (fun w9 hSw => ?_) hHeld ?_
          · go_simp
          simp only [sm]; refine tk 12 (.string f.nm) (fun w9 hSw => ?_) hHeld ?_
          · have hc : w9.cell? ⟨w.heap.size, 0, none⟩ = some (.string f.nm) := (World.cell?_of_block (by rw [hSw])).trans (put_cells HR.out.1 hf hlv HP.out.2).2.2.2.2.1
            go_simp
          simp only [sm]; refine tk 13 (.bool false) (fun w9 hSw => ?_) hHeld ?_
          · go_simp
          simp only [sm]; refine tk 14 (.bool false) (fun w9 hSw => ?_) hHeld ?_
          · go_simp
          simp only [sm]; refine wpAnyH_done (by kernel_rfl) ?_ _; have HP1 := HP.out.drew; clear hHeld HP cwr; generalize wr.drew = wr1 at HP1 ⊢; have HP : Hid (PK w f (.slice oa L.length ocap) L wr1) := HP1; clear HP1; have HQ : Hid (PK w f (.slice oa L.length ocap) L wr1) := HP.out; clear HP; go_wp2; generalize wr1 = wr2 at HQ ⊢; refine wp_region_held_drew (S := fun w' => w'.heap = wr2.heap) (by kernel_rfl) rfl (fun hHeld => ?_); refine tk 0 (.pointer (some ⟨br, 0, none⟩)) (fun w9 hSw => ?_) hHeld ?_
          · go_simp
          simp only [sm]; refine tk 1 (.pointer (some ⟨br, 0, none⟩)) (fun w9 hSw => ?_) hHeld ?_
          · go_simp
          simp only [sm]; refine tk 2 (.pointer (some ⟨br, 3, none⟩)) (fun w9 hSw => ?_) hHeld ?_
          · go_simp
          simp only [sm]; refine tk 3 (.slice (some ⟨g, 0, none⟩) R.A.length lcap) (fun w9 hSw => ?_) hHeld ?_
          · have hc : w9.cell? ⟨br, 3, none⟩ = some (.slice (some ⟨g, 0, none⟩) R.A.length lcap) := (World.cell?_of_block (by rw [hSw])).trans (put_cells HR.out.1 hf hlv HQ.out.2).1
            go_simp
          simp only [sm]; refine tk 4 (.int .i64 (k : Int)) (fun w9 hSw => ?_) hHeld ?_
          · go_simp
          simp only [sm]; refine tk 5 (.pointer (some ⟨g, k * 3, none⟩)) (fun w9 hSw => ?_) hHeld ?_
          · go_simp
          simp only [sm]; refine tk 6 (.pointer (some ⟨g, k * 3, none⟩)) (fun w9 hSw => ?_) hHeld ?_
          · go_simp
          simp only [sm]; refine tk 7 (.string a.nm) (fun w9 hSw => ?_) hHeld ?_
          · have hc : w9.cell? ⟨g, k * 3, none⟩ = some (.string a.nm) := (World.cell?_of_block (by rw [hSw])).trans (put_cells HR.out.1 hf hlv HQ.out.2).2.1
            go_simp
          simp only [sm]; refine tk 8 (.pointer (some ⟨w.heap.size, 0, none⟩)) (fun w9 hSw => ?_) hHeld ?_
          · go_simp
          simp only [sm]; refine tk 9 (.string f.nm) (fun w9 hSw => ?_) hHeld ?_
          · have hc : w9.cell? ⟨w.heap.size, 0, none⟩ = some (.string f.nm) := (World.cell?_of_block (by rw [hSw])).trans (put_cells HR.out.1 hf hlv HQ.out.2).2.2.2.2.1
            go_simp
          simp only [sm]; refine tk 10 (.bool true) (fun w9 hSw => ?_) hHeld ?_
          · go_simp
          simp only [sm]; refine wpAnyH_done (by kernel_rfl) ?_ _; have HQ1 := HQ.out.drew; clear hHeld HQ; generalize wr2.drew = wr3 at HQ1 ⊢; have HQ : Hid (PK w f (.slice oa L.length ocap) L wr3) := HQ1; clear HQ1; have hcs := put_cells HR.out.1 hf hlv HQ.out.2; have cb0 := hcs.1; have ca0 := hcs.2.1; have ca1 := hcs.2.2.1; have ca2 := hcs.2.2.2.1; rw [HBV.out] at ca1; clear hcs; have HG : Hid ((wr3.alloc (.cells #[.string a.nm, .slice ba bl bc, .int .i64 a.sf] 119)).heap[wr3.heap.size]? = some (.cells #[.string a.nm, a.bv, .int .i64 a.sf] 119)) := by
           show _ = _; rw [HBV.out]; exact heap_alloc_new _ _
          go_wp2_with (first
           | (at_builtin
              refine wpList_append_f rfl _ _ rfl (w.heap.size + 1) (.slice oa L.length ocap) L a ⟨_, _, _, HBV.out⟩ rfl (HQ.out.1.alloc _) wr3.heap.size HG.out rfl (by first | omega | (simp; omega)) (by have := HQ.out.size; simp; omega) ?_; intro v' wr4 ho hg2 ha; obtain ⟨vb', vcbp', hv'⟩ := row_form ho; subst hv'; have hpk := HQ.out.app ⟨_, _, _, HBV.out⟩ _ ho hg2; rw [show (L ++ [a]).length = L.length + 1 from by simp] at hpk; have HZ : Hid (PK w f (.slice vb' (L.length + 1) vcbp') (L ++ [a]) wr4) := hpk; clear ho hg2 ha hpk)
           | go_in)
          go_roundw
          case rel =>
           refine ⟨k + 1, by omega, by go_num, ?_, ?_⟩
           · rw [hsucc]; simp [putSt, hlt6]
           · rw [hsucc]; simp only [putSt, if_neg HEQ.out]
             simpa [hlt6] using HZ.out
          case measure => simp [intOf]; omega
      | false =>
        by_cases heq : a.nm = f.nm
        · have hbq : (a.nm.toList == f.nm.toList) = true := by rw [eqS]; simpa using heq
          have HEQ : Hid (a.nm = f.nm) := heq; clear heq; have hb6 : Op.bytesLess a.nm.toList f.nm.toList = false := hlt6; go_wp2; refine wp_region_held_drew (S := fun w' => w'.heap = wr.heap) (by kernel_rfl) rfl (fun hHeld => ?_); refine tk 0 (.bool false) (fun w9 hSw => ?_) hHeld ?_
          · go_simp
          simp only [sm]; refine tk 1 (.bool true) (fun w9 hSw => ?_) hHeld ?_
          · go_simp
          simp only [sm]; refine tk 2 (.bool true) (fun w9 hSw => ?_) hHeld ?_
          · go_simp
          simp only [sm]; refine tk 3 (.pointer (some ⟨br, 0, none⟩)) (fun w9 hSw => ?_) hHeld ?_
          · go_simp
          simp only [sm]; refine tk 4 (.pointer (some ⟨br, 0, none⟩)) (fun w9 hSw => ?_) hHeld ?_
          · go_simp
          simp only [sm]; refine tk 5 (.pointer (some ⟨br, 3, none⟩)) (fun w9 hSw => ?_) hHeld ?_
          · go_simp
          simp only [sm]; refine tk 6 (.slice (some ⟨g, 0, none⟩) R.A.length lcap) (fun w9 hSw => ?_) hHeld ?_
          · have hc : w9.cell? ⟨br, 3, none⟩ = some (.slice (some ⟨g, 0, none⟩) R.A.length lcap) := (World.cell?_of_block (by rw [hSw])).trans (put_cells HR.out.1 hf hlv HP.out.2).1
            go_simp
          simp only [sm]; refine tk 7 (.int .i64 (k : Int)) (fun w9 hSw => ?_) hHeld ?_
          · go_simp
          simp only [sm]; refine tk 8 (.pointer (some ⟨g, k * 3, none⟩)) (fun w9 hSw => ?_) hHeld ?_
          · go_simp
          simp only [sm]; refine tk 9 (.pointer (some ⟨g, k * 3, none⟩)) (fun w9 hSw => ?_) hHeld ?_
          · go_simp
          simp only [sm]; refine tk 10 (.string a.nm) (fun w9 hSw => ?_) hHeld ?_
          · have hc : w9.cell? ⟨g, k * 3, none⟩ = some (.string a.nm) := (World.cell?_of_block (by rw [hSw])).trans (put_cells HR.out.1 hf hlv HP.out.2).2.1
            go_simp
          simp only [sm]; refine tk 11 (.pointer (some ⟨w.heap.size, 0, none⟩)) (fun w9 hSw => ?_) hHeld ?_
          · go_simp
          simp only [sm]; refine tk 12 (.string f.nm) (fun w9 hSw => ?_) hHeld ?_
          · have hc : w9.cell? ⟨w.heap.size, 0, none⟩ = some (.string f.nm) := (World.cell?_of_block (by rw [hSw])).trans (put_cells HR.out.1 hf hlv HP.out.2).2.2.2.2.1
            go_simp
          simp only [sm]; refine tk 13 (.bool true) (fun w9 hSw => ?_) hHeld ?_
          · go_simp
          simp only [sm]; refine tk 14 (.bool true) (fun w9 hSw => ?_) hHeld ?_
          · go_simp
          simp only [sm]; refine wpAnyH_done (by kernel_rfl) ?_ _; have HP1 := HP.out.drew; clear hHeld HP cwr; generalize wr.drew = wr1 at HP1 ⊢; have HP : Hid (PK w f (.slice oa L.length ocap) L wr1) := HP1; clear HP1; have hcs := put_cells HR.out.1 hf hlv HP.out.2; have cb0 := hcs.1; have ca0 := hcs.2.2.2.2.1; have ca1 := hcs.2.2.2.2.2.1; have ca2 := hcs.2.2.2.2.2.2; rw [HFV.out] at ca1; clear hcs; have HG : Hid ((wr1.alloc (.cells #[.string f.nm, .slice fa fl fc, .int .i64 f.sf] 119)).heap[wr1.heap.size]? = some (.cells #[.string f.nm, f.bv, .int .i64 f.sf] 119)) := by
           show _ = _; rw [HFV.out]; exact heap_alloc_new _ _
          go_wp2_with (first
           | (at_builtin
              refine wpList_append_f rfl _ _ rfl (w.heap.size + 1) (.slice oa L.length ocap) L f ⟨_, _, _, HFV.out⟩ rfl (HP.out.1.alloc _) wr1.heap.size HG.out rfl (by first | omega | (simp; omega)) (by have := HP.out.size; simp; omega) ?_; intro v' wr2 ho hg2 ha; obtain ⟨va', vcap', hv'⟩ := row_form ho; subst hv'; have hpk := HP.out.app ⟨_, _, _, HFV.out⟩ _ ho hg2; rw [show (L ++ [f]).length = L.length + 1 from by simp] at hpk; have HQ : Hid (PK w f (.slice va' (L.length + 1) vcap') (L ++ [f]) wr2) := hpk; clear ho hg2 ha hpk)
           | go_in)
          refine wp_region_held_drew (S := fun w' => w'.heap = wr2.heap) (by kernel_rfl) rfl (fun hHeld => ?_); refine tk 0 (.pointer (some ⟨br, 0, none⟩)) (fun w9 hSw => ?_) hHeld ?_
          · go_simp
          simp only [sm]; refine tk 1 (.pointer (some ⟨br, 0, none⟩)) (fun w9 hSw => ?_) hHeld ?_
          · go_simp
          simp only [sm]; refine tk 2 (.pointer (some ⟨br, 3, none⟩)) (fun w9 hSw => ?_) hHeld ?_
          · go_simp
          simp only [sm]; refine tk 3 (.slice (some ⟨g, 0, none⟩) R.A.length lcap) (fun w9 hSw => ?_) hHeld ?_
          · have hc : w9.cell? ⟨br, 3, none⟩ = some (.slice (some ⟨g, 0, none⟩) R.A.length lcap) := (World.cell?_of_block (by rw [hSw])).trans (put_cells HR.out.1 hf hlv HQ.out.2).1
            go_simp
          simp only [sm]; refine tk 4 (.int .i64 (k : Int)) (fun w9 hSw => ?_) hHeld ?_
          · go_simp
          simp only [sm]; refine tk 5 (.pointer (some ⟨g, k * 3, none⟩)) (fun w9 hSw => ?_) hHeld ?_
          · go_simp
          simp only [sm]; refine tk 6 (.pointer (some ⟨g, k * 3, none⟩)) (fun w9 hSw => ?_) hHeld ?_
          · go_simp
          simp only [sm]; refine tk 7 (.string a.nm) (fun w9 hSw => ?_) hHeld ?_
          · have hc : w9.cell? ⟨g, k * 3, none⟩ = some (.string a.nm) := (World.cell?_of_block (by rw [hSw])).trans (put_cells HR.out.1 hf hlv HQ.out.2).2.1
            go_simp
          simp only [sm]; refine tk 8 (.pointer (some ⟨w.heap.size, 0, none⟩)) (fun w9 hSw => ?_) hHeld ?_
          · go_simp
          simp only [sm]; refine tk 9 (.string f.nm) (fun w9 hSw => ?_) hHeld ?_
          · have hc : w9.cell? ⟨w.heap.size, 0, none⟩ = some (.string f.nm) := (World.cell?_of_block (by rw [hSw])).trans (put_cells HR.out.1 hf hlv HQ.out.2).2.2.2.2.1
            go_simp
          simp only [sm]; refine tk 10 (.bool false) (fun w9 hSw => ?_) hHeld ?_
          · go_simp
          simp only [sm]; refine wpAnyH_done (by kernel_rfl) ?_ _; have HQ1 := HQ.out.drew; clear hHeld HQ; generalize wr2.drew = wr3 at HQ1 ⊢; have HQ : Hid (PK w f (.slice va' (L.length + 1) vcap') (L ++ [f]) wr3) := HQ1; clear HQ1; go_wp2; go_roundw
          case rel =>
           refine ⟨k + 1, by omega, by go_num, ?_, ?_⟩
           · rw [hsucc]; simp [putSt, hlt6]
           · rw [hsucc]; simp only [putSt, if_pos HEQ.out, List.append_nil]
             simpa [hlt6] using HQ.out
          case measure => simp [intOf]; omega
        · have hbq : (a.nm.toList == f.nm.toList) = false := by rw [eqS]; simpa using heq
          have HEQ : Hid (¬ a.nm = f.nm) := heq; clear heq; have hb6 : Op.bytesLess a.nm.toList f.nm.toList = false := hlt6; go_wp2; refine wp_region_held_drew (S := fun w' => w'.heap = wr.heap) (by kernel_rfl) rfl (fun hHeld => ?_); refine tk 0 (.bool false) (fun w9 hSw => ?_) hHeld ?_
          · go_simp
          simp only [sm]; refine tk 1 (.bool true) (fun w9 hSw => ?_) hHeld ?_
          · go_simp
          simp only [sm]; refine tk 2 (.bool true) (fun w9 hSw => ?_) hHeld ?_
          · go_simp
          simp only [sm]; refine tk 3 (.pointer (some ⟨br, 0, none⟩)) (fun w9 hSw => ?_) hHeld ?_
          · go_simp
          simp only [sm]; refine tk 4 (.pointer (some ⟨br, 0, none⟩)) (fun w9 hSw => ?_) hHeld ?_
          · go_simp
          simp only [sm]; refine tk 5 (.pointer (some ⟨br, 3, none⟩)) (fun w9 hSw => ?_) hHeld ?_
          · go_simp
          simp only [sm]; refine tk 6 (.slice (some ⟨g, 0, none⟩) R.A.length lcap) (fun w9 hSw => ?_) hHeld ?_
          · have hc : w9.cell? ⟨br, 3, none⟩ = some (.slice (some ⟨g, 0, none⟩) R.A.length lcap) := (World.cell?_of_block (by rw [hSw])).trans (put_cells HR.out.1 hf hlv HP.out.2).1
            go_simp
          simp only [sm]; refine tk 7 (.int .i64 (k : Int)) (fun w9 hSw => ?_) hHeld ?_
          · go_simp
          simp only [sm]; refine tk 8 (.pointer (some ⟨g, k * 3, none⟩)) (fun w9 hSw => ?_) hHeld ?_
          · go_simp
          simp only [sm]; refine tk 9 (.pointer (some ⟨g, k * 3, none⟩)) (fun w9 hSw => ?_) hHeld ?_
          · go_simp
          simp only [sm]; refine tk 10 (.string a.nm) (fun w9 hSw => ?_) hHeld ?_
          · have hc : w9.cell? ⟨g, k * 3, none⟩ = some (.string a.nm) := (World.cell?_of_block (by rw [hSw])).trans (put_cells HR.out.1 hf hlv HP.out.2).2.1
            go_simp
          simp only [sm]; refine tk 11 (.pointer (some ⟨w.heap.size, 0, none⟩)) (fun w9 hSw => ?_) hHeld ?_
          · go_simp
          simp only [sm]; refine tk 12 (.string f.nm) (fun w9 hSw => ?_) hHeld ?_
          · have hc : w9.cell? ⟨w.heap.size, 0, none⟩ = some (.string f.nm) := (World.cell?_of_block (by rw [hSw])).trans (put_cells HR.out.1 hf hlv HP.out.2).2.2.2.2.1
            go_simp
          simp only [sm]; refine tk 13 (.bool true) (fun w9 hSw => ?_) hHeld ?_
          · go_simp
          simp only [sm]; refine tk 14 (.bool true) (fun w9 hSw => ?_) hHeld ?_
          · go_simp
          simp only [sm]; refine wpAnyH_done (by kernel_rfl) ?_ _; have HP1 := HP.out.drew; clear hHeld HP cwr; generalize wr.drew = wr1 at HP1 ⊢; have HP : Hid (PK w f (.slice oa L.length ocap) L wr1) := HP1; clear HP1; have hcs := put_cells HR.out.1 hf hlv HP.out.2; have cb0 := hcs.1; have ca0 := hcs.2.2.2.2.1; have ca1 := hcs.2.2.2.2.2.1; have ca2 := hcs.2.2.2.2.2.2; rw [HFV.out] at ca1; clear hcs; have HG : Hid ((wr1.alloc (.cells #[.string f.nm, .slice fa fl fc, .int .i64 f.sf] 119)).heap[wr1.heap.size]? = some (.cells #[.string f.nm, f.bv, .int .i64 f.sf] 119)) := by
           show _ = _; rw [HFV.out]; exact heap_alloc_new _ _
          go_wp2_with (first
           | (at_builtin
              refine wpList_append_f rfl _ _ rfl (w.heap.size + 1) (.slice oa L.length ocap) L f ⟨_, _, _, HFV.out⟩ rfl (HP.out.1.alloc _) wr1.heap.size HG.out rfl (by first | omega | (simp; omega)) (by have := HP.out.size; simp; omega) ?_; intro v' wr2 ho hg2 ha; obtain ⟨va', vcap', hv'⟩ := row_form ho; subst hv'; have hpk := HP.out.app ⟨_, _, _, HFV.out⟩ _ ho hg2; rw [show (L ++ [f]).length = L.length + 1 from by simp] at hpk; have HQ : Hid (PK w f (.slice va' (L.length + 1) vcap') (L ++ [f]) wr2) := hpk; clear ho hg2 ha hpk)
           | go_in)
          refine wp_region_held_drew (S := fun w' => w'.heap = wr2.heap) (by kernel_rfl) rfl (fun hHeld => ?_); refine tk 0 (.pointer (some ⟨br, 0, none⟩)) (fun w9 hSw => ?_) hHeld ?_
          · go_simp
          simp only [sm]; refine tk 1 (.pointer (some ⟨br, 0, none⟩)) (fun w9 hSw => ?_) hHeld ?_
          · go_simp
          simp only [sm]; refine tk 2 (.pointer (some ⟨br, 3, none⟩)) (fun w9 hSw => ?_) hHeld ?_
          · go_simp
          simp only [sm]; refine tk 3 (.slice (some ⟨g, 0, none⟩) R.A.length lcap) (fun w9 hSw => ?_) hHeld ?_
          · have hc : w9.cell? ⟨br, 3, none⟩ = some (.slice (some ⟨g, 0, none⟩) R.A.length lcap) := (World.cell?_of_block (by rw [hSw])).trans (put_cells HR.out.1 hf hlv HQ.out.2).1
            go_simp
          simp only [sm]; refine tk 4 (.int .i64 (k : Int)) (fun w9 hSw => ?_) hHeld ?_
          · go_simp
          simp only [sm]; refine tk 5 (.pointer (some ⟨g, k * 3, none⟩)) (fun w9 hSw => ?_) hHeld ?_
          · go_simp
          simp only [sm]; refine tk 6 (.pointer (some ⟨g, k * 3, none⟩)) (fun w9 hSw => ?_) hHeld ?_
          · go_simp
          simp only [sm]; refine tk 7 (.string a.nm) (fun w9 hSw => ?_) hHeld ?_
          · have hc : w9.cell? ⟨g, k * 3, none⟩ = some (.string a.nm) := (World.cell?_of_block (by rw [hSw])).trans (put_cells HR.out.1 hf hlv HQ.out.2).2.1
            go_simp
          simp only [sm]; refine tk 8 (.pointer (some ⟨w.heap.size, 0, none⟩)) (fun w9 hSw => ?_) hHeld ?_
          · go_simp
          simp only [sm]; refine tk 9 (.string f.nm) (fun w9 hSw => ?_) hHeld ?_
          · have hc : w9.cell? ⟨w.heap.size, 0, none⟩ = some (.string f.nm) := (World.cell?_of_block (by rw [hSw])).trans (put_cells HR.out.1 hf hlv HQ.out.2).2.2.2.2.1
            go_simp
          simp only [sm]; refine tk 10 (.bool true) (fun w9 hSw => ?_) hHeld ?_
          · go_simp
          simp only [sm]; refine wpAnyH_done (by kernel_rfl) ?_ _; have HQ1 := HQ.out.drew; clear hHeld HQ; generalize wr2.drew = wr3 at HQ1 ⊢; have HQ : Hid (PK w f (.slice va' (L.length + 1) vcap') (L ++ [f]) wr3) := HQ1; clear HQ1; have hcs := put_cells HR.out.1 hf hlv HQ.out.2; have cb0 := hcs.1; have ca0 := hcs.2.1; have ca1 := hcs.2.2.1; have ca2 := hcs.2.2.2.1; rw [HBV.out] at ca1; clear hcs; have HG : Hid ((wr3.alloc (.cells #[.string a.nm, .slice ba bl bc, .int .i64 a.sf] 119)).heap[wr3.heap.size]? = some (.cells #[.string a.nm, a.bv, .int .i64 a.sf] 119)) := by
           show _ = _; rw [HBV.out]; exact heap_alloc_new _ _
          go_wp2_with (first
           | (at_builtin
              refine wpList_append_f rfl _ _ rfl (w.heap.size + 1) (.slice va' (L.length + 1) vcap') (L ++ [f]) a ⟨_, _, _, HBV.out⟩ rfl (HQ.out.1.alloc _) wr3.heap.size HG.out rfl (by first | omega | (simp; omega)) (by have := HQ.out.size; simp; omega) ?_; intro v' wr4 ho hg2 ha; obtain ⟨vb', vcbp', hv'⟩ := row_form ho; subst hv'; have hpk := HQ.out.app ⟨_, _, _, HBV.out⟩ _ ho hg2; rw [show ((L ++ [f]) ++ [a]).length = (L.length + 1) + 1 from by simp] at hpk; have HZ : Hid (PK w f (.slice vb' ((L.length + 1) + 1) vcbp') ((L ++ [f]) ++ [a]) wr4) := hpk; clear ho hg2 ha hpk)
           | go_in)
          go_roundw
          case rel =>
           refine ⟨k + 1, by omega, by go_num, ?_, ?_⟩
           · rw [hsucc]; simp [putSt, hlt6]
           · rw [hsucc]; simp only [putSt, if_neg HEQ.out]
             simpa [hlt6] using HZ.out
          case measure => simp [intOf]; omega
    | true =>
      by_cases heq : a.nm = f.nm
      · have hbq : (a.nm.toList == f.nm.toList) = true := by rw [eqS]; simpa using heq
        have HEQ : Hid (a.nm = f.nm) := heq; clear heq; go_wp2; refine wp_region_held_drew (S := fun w' => w'.heap = wr.heap) (by kernel_rfl) rfl (fun hHeld => ?_); refine tk 0 (.bool true) (fun w9 hSw => ?_) hHeld ?_
        · go_simp
        simp only [sm]; refine tk 1 (.bool false) (fun w9 hSw => ?_) hHeld ?_
        · go_simp
        simp only [sm]; refine tk 2 (.bool false) (fun w9 hSw => ?_) hHeld ?_
        · go_simp
        simp only [sm]; refine wpAnyH_take (i := 3) (v := undef) rfl (by kernel_rfl) (by kernel_rfl) (by kernel_rfl) (fun _ _ _ h => h) (Or.inr ⟨by rfl, rfl⟩) hHeld ?_; simp only [sm]; refine wpAnyH_take (i := 4) (v := undef) rfl (by kernel_rfl) (by kernel_rfl) (by kernel_rfl) (fun _ _ _ h => h) (Or.inr ⟨by rfl, rfl⟩) hHeld ?_; simp only [sm]; refine wpAnyH_take (i := 5) (v := undef) rfl (by kernel_rfl) (by kernel_rfl) (by kernel_rfl) (fun _ _ _ h => h) (Or.inr ⟨by rfl, rfl⟩) hHeld ?_; simp only [sm]; refine wpAnyH_take (i := 6) (v := undef) rfl (by kernel_rfl) (by kernel_rfl) (by kernel_rfl) (fun _ _ _ h => h) (Or.inr ⟨by rfl, rfl⟩) hHeld ?_; simp only [sm]; refine wpAnyH_take (i := 7) (v := undef) rfl (by kernel_rfl) (by kernel_rfl) (by kernel_rfl) (fun _ _ _ h => h) (Or.inr ⟨by rfl, rfl⟩) hHeld ?_; simp only [sm]; refine wpAnyH_take (i := 8) (v := undef) rfl (by kernel_rfl) (by kernel_rfl) (by kernel_rfl) (fun _ _ _ h => h) (Or.inr ⟨by rfl, rfl⟩) hHeld ?_; simp only [sm]; refine wpAnyH_take (i := 9) (v := undef) rfl (by kernel_rfl) (by kernel_rfl) (by kernel_rfl) (fun _ _ _ h => h) (Or.inr ⟨by rfl, rfl⟩) hHeld ?_; simp only [sm]; refine wpAnyH_take (i := 10) (v := undef) rfl (by kernel_rfl) (by kernel_rfl) (by kernel_rfl) (fun _ _ _ h => h) (Or.inr ⟨by rfl, rfl⟩) hHeld ?_; simp only [sm]; refine wpAnyH_take (i := 11) (v := undef) rfl (by kernel_rfl) (by kernel_rfl) (by kernel_rfl) (fun _ _ _ h => h) (Or.inr ⟨by rfl, rfl⟩) hHeld ?_; simp only [sm]; refine wpAnyH_take (i := 12) (v := undef) rfl (by kernel_rfl) (by kernel_rfl) (by kernel_rfl) (fun _ _ _ h => h) (Or.inr ⟨by rfl, rfl⟩) hHeld ?_
        simp only [sm]; refine wpAnyH_take (i := 13) (v := undef) rfl (by kernel_rfl) (by kernel_rfl) (by kernel_rfl) (fun _ _ _ h => h) (Or.inr ⟨by rfl, rfl⟩) hHeld ?_; simp only [sm]; refine tk 14 (.bool false) (fun w9 hSw => ?_) hHeld ?_
        · go_simp
        simp only [sm]; refine wpAnyH_done (by kernel_rfl) ?_ _; have HP1 := HP.out.drew; clear hHeld HP cwr; generalize wr.drew = wr1 at HP1 ⊢; have HP : Hid (PK w f (.slice oa L.length ocap) L wr1) := HP1; clear HP1; have HQ : Hid (PK w f (.slice oa L.length ocap) L wr1) := HP.out; clear HP; go_wp2; generalize wr1 = wr2 at HQ ⊢; refine wp_region_held_drew (S := fun w' => w'.heap = wr2.heap) (by kernel_rfl) rfl (fun hHeld => ?_); refine tk 0 (.pointer (some ⟨br, 0, none⟩)) (fun w9 hSw => ?_) hHeld ?_
        · go_simp
        simp only [sm]; refine tk 1 (.pointer (some ⟨br, 0, none⟩)) (fun w9 hSw => ?_) hHeld ?_
        · go_simp
        simp only [sm]; refine tk 2 (.pointer (some ⟨br, 3, none⟩)) (fun w9 hSw => ?_) hHeld ?_
        · go_simp
        simp only [sm]; refine tk 3 (.slice (some ⟨g, 0, none⟩) R.A.length lcap) (fun w9 hSw => ?_) hHeld ?_
        · have hc : w9.cell? ⟨br, 3, none⟩ = some (.slice (some ⟨g, 0, none⟩) R.A.length lcap) := (World.cell?_of_block (by rw [hSw])).trans (put_cells HR.out.1 hf hlv HQ.out.2).1
          go_simp
        simp only [sm]; refine tk 4 (.int .i64 (k : Int)) (fun w9 hSw => ?_) hHeld ?_
        · go_simp
        simp only [sm]; refine tk 5 (.pointer (some ⟨g, k * 3, none⟩)) (fun w9 hSw => ?_) hHeld ?_
        · go_simp
        simp only [sm]; refine tk 6 (.pointer (some ⟨g, k * 3, none⟩)) (fun w9 hSw => ?_) hHeld ?_
        · go_simp
        simp only [sm]; refine tk 7 (.string a.nm) (fun w9 hSw => ?_) hHeld ?_
        · have hc : w9.cell? ⟨g, k * 3, none⟩ = some (.string a.nm) := (World.cell?_of_block (by rw [hSw])).trans (put_cells HR.out.1 hf hlv HQ.out.2).2.1
          go_simp
        simp only [sm]; refine tk 8 (.pointer (some ⟨w.heap.size, 0, none⟩)) (fun w9 hSw => ?_) hHeld ?_
        · go_simp
        simp only [sm]; refine tk 9 (.string f.nm) (fun w9 hSw => ?_) hHeld ?_
        · have hc : w9.cell? ⟨w.heap.size, 0, none⟩ = some (.string f.nm) := (World.cell?_of_block (by rw [hSw])).trans (put_cells HR.out.1 hf hlv HQ.out.2).2.2.2.2.1
          go_simp
        simp only [sm]; refine tk 10 (.bool false) (fun w9 hSw => ?_) hHeld ?_
        · go_simp
        simp only [sm]; refine wpAnyH_done (by kernel_rfl) ?_ _; have HQ1 := HQ.out.drew; clear hHeld HQ; generalize wr2.drew = wr3 at HQ1 ⊢; have HQ : Hid (PK w f (.slice oa L.length ocap) L wr3) := HQ1; clear HQ1; go_wp2; go_roundw
        case rel =>
         refine ⟨k + 1, by omega, by go_num, ?_, ?_⟩
         · rw [hsucc]; simp [putSt]
         · rw [hsucc]; simp only [putSt, if_pos HEQ.out, List.append_nil]
           simpa [] using HQ.out
        case measure => simp [intOf]; omega
      · have hbq : (a.nm.toList == f.nm.toList) = false := by rw [eqS]; simpa using heq
        have HEQ : Hid (¬ a.nm = f.nm) := heq; clear heq; go_wp2; refine wp_region_held_drew (S := fun w' => w'.heap = wr.heap) (by kernel_rfl) rfl (fun hHeld => ?_); refine tk 0 (.bool true) (fun w9 hSw => ?_) hHeld ?_
        · go_simp
        simp only [sm]; refine tk 1 (.bool false) (fun w9 hSw => ?_) hHeld ?_
        · go_simp
        simp only [sm]; refine tk 2 (.bool false) (fun w9 hSw => ?_) hHeld ?_
        · go_simp
        simp only [sm]; refine wpAnyH_take (i := 3) (v := undef) rfl (by kernel_rfl) (by kernel_rfl) (by kernel_rfl) (fun _ _ _ h => h) (Or.inr ⟨by rfl, rfl⟩) hHeld ?_; simp only [sm]; refine wpAnyH_take (i := 4) (v := undef) rfl (by kernel_rfl) (by kernel_rfl) (by kernel_rfl) (fun _ _ _ h => h) (Or.inr ⟨by rfl, rfl⟩) hHeld ?_; simp only [sm]; refine wpAnyH_take (i := 5) (v := undef) rfl (by kernel_rfl) (by kernel_rfl) (by kernel_rfl) (fun _ _ _ h => h) (Or.inr ⟨by rfl, rfl⟩) hHeld ?_; simp only [sm]; refine wpAnyH_take (i := 6) (v := undef) rfl (by kernel_rfl) (by kernel_rfl) (by kernel_rfl) (fun _ _ _ h => h) (Or.inr ⟨by rfl, rfl⟩) hHeld ?_; simp only [sm]; refine wpAnyH_take (i := 7) (v := undef) rfl (by kernel_rfl) (by kernel_rfl) (by kernel_rfl) (fun _ _ _ h => h) (Or.inr ⟨by rfl, rfl⟩) hHeld ?_; simp only [sm]; refine wpAnyH_take (i := 8) (v := undef) rfl (by kernel_rfl) (by kernel_rfl) (by kernel_rfl) (fun _ _ _ h => h) (Or.inr ⟨by rfl, rfl⟩) hHeld ?_; simp only [sm]; refine wpAnyH_take (i := 9) (v := undef) rfl (by kernel_rfl) (by kernel_rfl) (by kernel_rfl) (fun _ _ _ h => h) (Or.inr ⟨by rfl, rfl⟩) hHeld ?_; simp only [sm]; refine wpAnyH_take (i := 10) (v := undef) rfl (by kernel_rfl) (by kernel_rfl) (by kernel_rfl) (fun _ _ _ h => h) (Or.inr ⟨by rfl, rfl⟩) hHeld ?_; simp only [sm]; refine wpAnyH_take (i := 11) (v := undef) rfl (by kernel_rfl) (by kernel_rfl) (by kernel_rfl) (fun _ _ _ h => h) (Or.inr ⟨by rfl, rfl⟩) hHeld ?_; simp only [sm]; refine wpAnyH_take (i := 12) (v := undef) rfl (by kernel_rfl) (by kernel_rfl) (by kernel_rfl) (fun _ _ _ h => h) (Or.inr ⟨by rfl, rfl⟩) hHeld ?_
        simp only [sm]; refine wpAnyH_take (i := 13) (v := undef) rfl (by kernel_rfl) (by kernel_rfl) (by kernel_rfl) (fun _ _ _ h => h) (Or.inr ⟨by rfl, rfl⟩) hHeld ?_; simp only [sm]; refine tk 14 (.bool false) (fun w9 hSw => ?_) hHeld ?_
        · go_simp
        simp only [sm]; refine wpAnyH_done (by kernel_rfl) ?_ _; have HP1 := HP.out.drew; clear hHeld HP cwr; generalize wr.drew = wr1 at HP1 ⊢; have HP : Hid (PK w f (.slice oa L.length ocap) L wr1) := HP1; clear HP1; have HQ : Hid (PK w f (.slice oa L.length ocap) L wr1) := HP.out; clear HP; go_wp2; generalize wr1 = wr2 at HQ ⊢; refine wp_region_held_drew (S := fun w' => w'.heap = wr2.heap) (by kernel_rfl) rfl (fun hHeld => ?_); refine tk 0 (.pointer (some ⟨br, 0, none⟩)) (fun w9 hSw => ?_) hHeld ?_
        · go_simp
        simp only [sm]; refine tk 1 (.pointer (some ⟨br, 0, none⟩)) (fun w9 hSw => ?_) hHeld ?_
        · go_simp
        simp only [sm]; refine tk 2 (.pointer (some ⟨br, 3, none⟩)) (fun w9 hSw => ?_) hHeld ?_
        · go_simp
        simp only [sm]; refine tk 3 (.slice (some ⟨g, 0, none⟩) R.A.length lcap) (fun w9 hSw => ?_) hHeld ?_
        · have hc : w9.cell? ⟨br, 3, none⟩ = some (.slice (some ⟨g, 0, none⟩) R.A.length lcap) := (World.cell?_of_block (by rw [hSw])).trans (put_cells HR.out.1 hf hlv HQ.out.2).1
          go_simp
        simp only [sm]; refine tk 4 (.int .i64 (k : Int)) (fun w9 hSw => ?_) hHeld ?_
        · go_simp
        simp only [sm]; refine tk 5 (.pointer (some ⟨g, k * 3, none⟩)) (fun w9 hSw => ?_) hHeld ?_
        · go_simp
        simp only [sm]; refine tk 6 (.pointer (some ⟨g, k * 3, none⟩)) (fun w9 hSw => ?_) hHeld ?_
        · go_simp
        simp only [sm]; refine tk 7 (.string a.nm) (fun w9 hSw => ?_) hHeld ?_
        · have hc : w9.cell? ⟨g, k * 3, none⟩ = some (.string a.nm) := (World.cell?_of_block (by rw [hSw])).trans (put_cells HR.out.1 hf hlv HQ.out.2).2.1
          go_simp
        simp only [sm]; refine tk 8 (.pointer (some ⟨w.heap.size, 0, none⟩)) (fun w9 hSw => ?_) hHeld ?_
        · go_simp
        simp only [sm]; refine tk 9 (.string f.nm) (fun w9 hSw => ?_) hHeld ?_
        · have hc : w9.cell? ⟨w.heap.size, 0, none⟩ = some (.string f.nm) := (World.cell?_of_block (by rw [hSw])).trans (put_cells HR.out.1 hf hlv HQ.out.2).2.2.2.2.1
          go_simp
        simp only [sm]; refine tk 10 (.bool true) (fun w9 hSw => ?_) hHeld ?_
        · go_simp
        simp only [sm]; refine wpAnyH_done (by kernel_rfl) ?_ _; have HQ1 := HQ.out.drew; clear hHeld HQ; generalize wr2.drew = wr3 at HQ1 ⊢; have HQ : Hid (PK w f (.slice oa L.length ocap) L wr3) := HQ1; clear HQ1; have hcs := put_cells HR.out.1 hf hlv HQ.out.2; have cb0 := hcs.1; have ca0 := hcs.2.1; have ca1 := hcs.2.2.1; have ca2 := hcs.2.2.2.1; rw [HBV.out] at ca1; clear hcs; have HG : Hid ((wr3.alloc (.cells #[.string a.nm, .slice ba bl bc, .int .i64 a.sf] 119)).heap[wr3.heap.size]? = some (.cells #[.string a.nm, a.bv, .int .i64 a.sf] 119)) := by
         show _ = _; rw [HBV.out]; exact heap_alloc_new _ _
        go_wp2_with (first
         | (at_builtin
            refine wpList_append_f rfl _ _ rfl (w.heap.size + 1) (.slice oa L.length ocap) L a ⟨_, _, _, HBV.out⟩ rfl (HQ.out.1.alloc _) wr3.heap.size HG.out rfl (by first | omega | (simp; omega)) (by have := HQ.out.size; simp; omega) ?_; intro v' wr4 ho hg2 ha; obtain ⟨vb', vcbp', hv'⟩ := row_form ho; subst hv'; have hpk := HQ.out.app ⟨_, _, _, HBV.out⟩ _ ho hg2; rw [show (L ++ [a]).length = L.length + 1 from by simp] at hpk; have HZ : Hid (PK w f (.slice vb' (L.length + 1) vcbp') (L ++ [a]) wr4) := hpk; clear ho hg2 ha hpk)
         | go_in)
        go_roundw
        case rel =>
         refine ⟨k + 1, by omega, by go_num, ?_, ?_⟩
         · rw [hsucc]; simp [putSt]
         · rw [hsucc]; simp only [putSt, if_neg HEQ.out]
           simpa [] using HZ.out
        case measure => simp [intOf]; omega
  · have hki : decide ((k : Int) < R.A.length) = false := by simp; omega
    obtain rfl : k = R.A.length := by omega
    rw [List.take_length] at *; have cwr : wr.cell? ⟨br, 3, none⟩ = some (.slice la R.A.length lcap) := by
     rw [HP.out.2.cell (p := ⟨br, 3, none⟩) (by show br < w.heap.size + 1; omega)]; exact (World.cell?_of_block (Below.heap_alloc _ _ br hlt)).trans c3
    have fwr : wr.frozen? ⟨br, 3, none⟩ = false := unfrozen_of_block ((HP.out.2.block br (by omega)).trans HR.out.2) 3; generalize hst : putTo f R.A = st at *; obtain ⟨L, dn⟩ := st; have hL2 : L.length ≤ 200 := hLk; clear hLk; simp only [] at HP; have HFR : Hid (∀ v, (wr.setCell ⟨br, 3, none⟩ v).heap.size = wr.heap.size) := fun v => by simp
    have hend : ∀ (ov : Value) (L' : List RF) (X : World), PK w f ov L' X → putR f R.A = L' → X.heap[br]? = some (.cells (rC R) 55) → ∃ ov', (X.setCell ⟨br, 3, none⟩ ov).ownsRow (w.heap.size + 1) 119 3 ov' (putR f R.A).length (rfL (putR f R.A)) ∧ (X.setCell ⟨br, 3, none⟩ ov).heap[br]? = some (.cells (rC { R with lv := ov' }) 55) ∧ w.grownBy (X.setCell ⟨br, 3, none⟩ ov) (some br) := fun ov L' X hP hL hX => by
     refine ⟨ov, ?_, ?_, ?_⟩
     · rw [hL]
       refine ownsRow_heap hP.1 (fun b hb => Below.heap_setCell _ _ _ _ (fun e => ?_)); have h1 := (hP.1.lt b hb).1; have e' : b = br := e; omega
     · rw [block_setCell hX]
       simp [rC]
     · have hs := hP.size
       refine ⟨hP.2.os, hP.2.tape, hP.2.output, by simp; omega, fun b h1 h2 => ?_⟩; have hne : b ≠ br := fun e => h2 (by rw [e])
       exact (Below.heap_setCell _ _ _ _ hne).trans ((hP.2.block b (by omega)).trans (Below.heap_alloc _ _ b h1))
    have HE : Hid _ := hend; have HX : Hid (∀ ov L' X, PK w f ov L' X → X.heap[br]? = some (.cells (rC R) 55)) := fun ov L' X hP => (hP.2.block br (by omega)).trans HR.out.2
    clear hend; cases dn with
    | true =>
      go_wp2; go_end0
      exact ⟨rfl, HE.out _ L wr HP.out (by unfold putR; rw [hst]; rfl) (HX.out _ _ _ HP.out)⟩
    | false =>
      have hcs : wr.cell? ⟨w.heap.size, 0, none⟩ = some (.string f.nm) ∧ wr.cell? ⟨w.heap.size, 1, none⟩ = some f.bv ∧ wr.cell? ⟨w.heap.size, 2, none⟩ = some (.int .i64 f.sf) := by
       have hnew : ∀ j, wr.cell? ⟨w.heap.size, j, none⟩ = #[Value.string f.nm, f.bv, Value.int .i64 f.sf][j]? := fun j => by
        rw [HP.out.2.cell (p := ⟨w.heap.size, j, none⟩) (by show w.heap.size < w.heap.size + 1; omega), cell_of_block (heap_alloc_new _ _)]
       exact ⟨(hnew 0).trans rfl, (hnew 1).trans rfl, (hnew 2).trans rfl⟩
      obtain ⟨ca0, ca1, ca2⟩ := hcs; rw [HFV.out] at ca1; have HG : Hid ((wr.alloc (.cells #[.string f.nm, .slice fa fl fc, .int .i64 f.sf] 119)).heap[wr.heap.size]? = some (.cells #[.string f.nm, f.bv, .int .i64 f.sf] 119)) := by
       show _ = _; rw [HFV.out]; exact heap_alloc_new _ _
      go_wp2_with (first
       | (at_builtin
          refine wpList_append_f rfl _ _ rfl (w.heap.size + 1) (.slice oa L.length ocap) L f ⟨_, _, _, HFV.out⟩ rfl (HP.out.1.alloc _) wr.heap.size HG.out rfl (by omega) (by have := HP.out.size; simp; omega) ?_; intro v' w2 ho hg2 ha; obtain ⟨va', vcap', hv'⟩ := row_form ho; subst hv'; have HQ : Hid (PK w f (.slice va' (L ++ [f]).length vcap') (L ++ [f]) w2) := HP.out.app ⟨_, _, _, HFV.out⟩ _ ho hg2; have cq : w2.cell? ⟨br, 3, none⟩ = some R.lv := by rw [cell_of_block (HX.out _ _ _ HQ.out)]; rfl
          have fq : w2.frozen? ⟨br, 3, none⟩ = false := unfrozen_of_block (HX.out _ _ _ HQ.out) 3; clear ho hg2 ha)
       | go_in)
      go_end0
      have := HE.out _ (L ++ [f]) w2 HQ.out (by unfold putR; rw [hst]; rfl) (HX.out _ _ _ HQ.out); refine ⟨rfl, ?_⟩
      simpa using this
end Go.Proofs.YtconkienlcegaaaGreatDoor
