/- DJ, DK -/
import Derived.Test.YtconkienlcegaaaGreatDoorGDI
namespace Go.Proofs.YtconkienlcegaaaGreatDoor
open Go.RowKit Go.Maps Go.Joins
set_option linter.unusedSimpArgs false
set_option linter.unusedVariables false
/-- A file more. -/
def addFl (S : DS) (n : List UInt8) (g : Nat) (f : FileC) (z : Nat) : DS := { S with fs := putL S.fs n g, fl := fun m => if m = n then f else S.fl m, role := fun b => if b = g then .file n else if z ≤ b ∧ f.sl.ownBlock = some b then .bytes n else S.role b }
theorem mem_insL {x y : List UInt8 × Nat} : ∀ {l : List (List UInt8 × Nat)}, y ∈ insL x l → y = x ∨ y ∈ l
 | [], h => by simp [insL] at h; exact Or.inl h
 | a :: r, h => by
   unfold insL at h; split at h
   · rcases List.mem_cons.1 h with h | h
     · exact Or.inl h
     · exact Or.inr h
   · rcases List.mem_cons.1 h with h | h
     · exact Or.inr (by rw [h]; exact List.mem_cons_self ..)
     · rcases mem_insL h with h | h
       · exact Or.inl h
       · exact Or.inr (List.mem_cons_of_mem _ h)
theorem mem_putL {fs : List (List UInt8 × Nat)} {n : List UInt8} {g : Nat} {p : List UInt8 × Nat} (h : p ∈ putL fs n g) : p = (n, g) ∨ (p ∈ fs ∧ p.1 ≠ n) := by
 rcases mem_insL h with h | h
 · exact Or.inl h
 · have := List.mem_filter.1 h
   exact Or.inr ⟨this.1, by simpa using this.2⟩
theorem DiskIs.addF {w w' : World} {bd : Nat} {S : DS} (h : DiskIs w bd S) {n : List UInt8} {g : Nat} (f : FileC) {k : Nat} (hmap : w'.ownsMap Tryz.prog 9 Rp S.bm k (toD (putL S.fs n g))) (hk : ∀ b, b < w.heap.size → b ≠ S.bm → w'.heap[b]? = w.heap[b]?) (hs : w.heap.size ≤ w'.heap.size) (hgw : w.heap.size ≤ g)
 (hg : w'.heap[g]? = some (.cells #[f.sl, .int .i64 f.safe] 116)) (hr : w'.ownsRow 0 5 1 f.sl f.bs.length (vB f.bs)) (hb : ∀ b, f.sl.ownBlock = some b → w.heap.size ≤ b ∧ b ≠ g) : DiskIs w' bd (addFl S n g f w.heap.size) := by
 have hold : ∀ b, S.role b ≠ .none → (addFl S n g f w.heap.size).role b = S.role b := fun b hb => by
  have := h.role_lt hb; show (if _ then _ else if _ then _ else _) = _; rw [if_neg (by omega), if_neg (by omega)]
 have hk' : ∀ b, S.role b ≠ .none → S.role b ≠ .map → w'.heap[b]? = w.heap[b]? := fun b h0 h1 => hk b (h.role_lt h0) (fun e => h1 (by rw [e]; exact h.rm))
 have hfl : ∀ m, m ≠ n → (addFl S n g f w.heap.size).fl m = S.fl m := fun m hm => if_neg hm
 have hfn : (addFl S n g f w.heap.size).fl n = f := if_pos rfl; refine ⟨?_, ?_, ?_, ?_, ?_, ?_, ?_, ?_, ?_, ?_, ?_⟩
 · exact (hk' bd (by rw [h.rd]; simp) (by rw [h.rd]; simp)).trans h.disk
 · rw [hold bd (by rw [h.rd]; simp)]; exact h.rd
 · have := ownsMap_size hmap
   rw [size_toD] at this; exact this
 · show (addFl S n g f w.heap.size).role S.bm = _
   rw [hold _ (by rw [h.rm]; simp)]; exact h.rm
 · exact h.plan.kept (fun b hb => hk' b (by rw [h.rp b hb]; simp) (by rw [h.rp b hb]; simp))
 · intro b hb
   have := h.rp b hb; rw [hold _ (by rw [this]; simp)]; exact this
 · intro p hp
   rcases mem_putL hp with rfl | ⟨hp', e⟩
   · show w'.heap[g]? = _
     rw [show ((n, g) : List UInt8 × Nat).1 = n from rfl, hfn]; exact hg
   · rw [hfl _ e]
     have := h.rf p hp'; exact (hk' _ (by rw [this]; simp) (by rw [this]; simp)).trans (h.file p hp')
 · intro p hp
   rcases mem_putL hp with rfl | ⟨hp', e⟩
   · show (if _ then _ else _) = _
     rw [if_pos rfl]
   · have := h.rf p hp'
     rw [hold _ (by rw [this]; simp)]; exact this
 · intro p hp
   rcases mem_putL hp with rfl | ⟨hp', e⟩
   · rw [show ((n, g) : List UInt8 × Nat).1 = n from rfl, hfn]
     exact hr
   · rw [hfl _ e]
     exact ownsRow_heap (h.row p hp') (fun b hb => by
      have := h.rr p hp' b hb; exact hk' _ (by rw [this]; simp) (by rw [this]; simp))
 · intro p hp b hbb
   rcases mem_putL hp with rfl | ⟨hp', e⟩
   · rw [show ((n, g) : List UInt8 × Nat).1 = n from rfl, hfn] at hbb
     have h1 := hb b hbb; show (if _ then _ else if _ then _ else _) = _; rw [if_neg h1.2, if_pos ⟨h1.1, hbb⟩]
   · rw [hfl _ e] at hbb
     have := h.rr p hp' b hbb; rw [hold _ (by rw [this]; simp)]; exact this
 · intro b hbb
   show (if _ then _ else if _ then _ else _) = _; have := heap_lt hg; rw [if_neg (by omega), if_neg, h.fresh b (by omega)]; rintro ⟨_, h2⟩; rcases hr.2 with ⟨h3, _⟩ | ⟨g', cap, cur, h3, _, h4, _⟩
   · rw [h3] at h2; cases h2
   · rw [h3] at h2
     have h5 : g' = b := by simpa [Value.ownBlock] using h2
     have := heap_lt h4; omega
theorem DiskIs.frA {w w' : World} {bd : Nat} {S : DS} (h : DiskIs w bd S) {n : List UInt8} {g : Nat} (f : FileC) (hk : ∀ b, b < w.heap.size → b ≠ S.bm → w'.heap[b]? = w.heap[b]?) (hs : w.heap.size ≤ w'.heap.size) (hgw : w.heap.size ≤ g)
 (ho : w'.os = w.os ∧ w'.tape = w.tape ∧ w'.output = w.output) : Fr w w' S (addFl S n g f w.heap.size) :=
 ⟨ho.1, ho.2.1, ho.2.2, hs, fun b hb hr => hk b hb (fun e => by rw [e, h.rm] at hr; cases hr), fun b hb hr => by
  show (if _ then _ else if _ then _ else _) = _; rw [if_neg (by omega), if_neg (by omega)]; exact hr⟩
set_option maxRecDepth 100000 in
set_option maxHeartbeats 4000000 in
/-- (*Disk).Append to a file that was not there, where there is room -/
theorem append_new {w : World} {bd : Nat} {S : DS} (h : DiskIs w bd S) (hc : Cnt S) (s : ByteArray) (hs : s.size ≤ 9223372036854775807) (v : Value) (bs : List Int) (hv : BytesV w v bs) (hvr : ∀ b, dBlock v bs = some b → S.role b = .none) (hE : stepE S [s] = 0) (hl : look S.fs s.data.toList = none) (hf16 : S.fs.length < 16)
 (hroom : (total S : Int) + bs.length ≤ S.room) (hrm : S.room ≤ 1073741824) :
 Calls Tryz.prog 35 #[.pointer (some ⟨bd, 0, none⟩), .string s, v] w fun e w' => e = .returned (.int .i64 0) ∧ ∃ sl gg z, DiskIs w' bd (addFl (stepS S [s]) s.data.toList gg { sl := sl, bs := bs, safe := 0 } z) ∧ Fr w w' S (addFl (stepS S [s]) s.data.toList gg { sl := sl, bs := bs, safe := 0 } z) := by
 obtain ⟨va, vc, hvf⟩ : ∃ va vc, v = .slice va bs.length vc := by
  rcases hv with ⟨rfl, rfl⟩ | ⟨ad, cap, rfl, _⟩
  · exact ⟨_, _, rfl⟩
  · exact ⟨_, _, rfl⟩
 have HV : Hid (BytesV w v bs ∧ (∀ b, dBlock v bs = some b → S.role b = .none) ∧ ∀ b, dBlock v bs = some b → (stepS S [s]).role b = .none) := ⟨hv, hvr, by rw [role_stepS]; exact hvr⟩
 have HD : Hid (DiskIs w bd S ∧ Cnt S) := ⟨h, hc⟩
 have HX : Hid (DiskIs (w.alloc (.cells #[.string s] 9)) bd S ∧ Names (w.alloc (.cells #[.string s] 9)) w.heap.size [s]) := ⟨h.below (by go_grown), names_one w s hs⟩
 have hlt := h.lt; obtain ⟨e1, e2, e3, e4, e5⟩ := stepS_fields S [s]; have eT := total_stepS S [s]; generalize hS1 : stepS S [s] = S1 at *; rw [← e3] at hl hf16; rw [← e1, ← eT] at hroom; rw [← e1] at hrm; clear h hc hv hvr e1 e2 e3 e4 e5 eT; have HR : Hid ((total S1 : Int) + bs.length ≤ S1.room ∧ S1.room ≤ 1073741824) := ⟨hroom, hrm⟩
 have hbl : (bs.length : Int) ≤ 1073741824 := by omega
 have hf16' : (S1.fs.length : Int) < 16 := by omega
 clear hroom hrm; subst hvf; go_enter Tryz.func35, Tryz.ntmps35; go_wp2_with (first
  | (go_at_call 63
     refine (step_any HX.out.1 HD.out.2 w.heap.size 1 [s] HX.out.2 (by simp) (by omega)).mono ?_; rw [hE, hS1]; rintro e w1 ⟨rfl, hD1, hG1, hZ1⟩; have HDD : Hid (DiskIs w1 bd S1 ∧ (w.alloc (.cells #[.string s] 9)).grownBy w1 (some bd)) := ⟨hD1, hG1⟩
     have c1 : w1.cell? ⟨bd, 1, none⟩ = some (.map (some S1.bm)) := by rw [cell_of_block hD1.disk]; rfl
     have hlk := hD1.look_ok hs; rw [hl] at hlk; simp only [pv, Option.isSome_none] at hlk; have hln := fun ty => hD1.files.len Tryz.underlying86 ty
     rw [size_toD] at hln; have hge : decide ((16 : Int) ≤ (S1.fs.length : Int)) = false := by simp; omega
     clear hD1 hG1)
  | go_in)
 have hF1 : Fr w w1 S S1 := by
  have e1 : Fr w (w.alloc (.cells #[.string s] 9)) S S := Fr.below (by go_grown); have e2 := HX.out.1.frG HDD.out.2 [s]; rw [hS1] at e2; exact e1.trans e2
 have HF : Hid (Fr w w1 S S1) := hF1; have HD1 : Hid (DiskIs w1 bd S1) := HDD.out.1; clear hF1 HDD c1 hlk HX hln hge; refine wp_region_held_drew (S := fun w' => DiskIs w' bd S1 ∧ Below w1.heap.size w1 w') (by kernel_rfl) ⟨HD1.out.kept (fun _ _ => rfl) (Nat.le_refl _), ⟨rfl, rfl, rfl, Nat.le_refl _, fun _ _ => rfl⟩⟩ (fun hHeld => ?_); refine wpAnyH_take (i := 0) (v := .slice va bs.length vc) rfl (by kernel_rfl) (by kernel_rfl) (by kernel_rfl) (fun _ _ _ h => h) (Or.inl ⟨by rfl, fun w9 hSw => ?_⟩) hHeld ?_
 · go_simp
 simp only [List.getElem_toArray, List.getElem_cons_succ, List.getElem_cons_zero, Act.put, List.setIfInBounds_toArray, List.set_cons_zero, List.set_cons_succ]; refine wpAnyH_take (i := 1) (v := .int .i64 (bs.length : Int)) rfl (by kernel_rfl) (by kernel_rfl) (by kernel_rfl) (fun _ _ _ h => h) (Or.inl ⟨by rfl, fun w9 hSw => ?_⟩) hHeld ?_
 · go_simp
 simp only [List.getElem_toArray, List.getElem_cons_succ, List.getElem_cons_zero, Act.put, List.setIfInBounds_toArray, List.set_cons_zero, List.set_cons_succ]; refine wpAnyH_take (i := 2) (v := .pointer (some ⟨bd, 0, none⟩)) rfl (by kernel_rfl) (by kernel_rfl) (by kernel_rfl) (fun _ _ _ h => h) (Or.inl ⟨by rfl, fun w9 hSw => ?_⟩) hHeld ?_
 · go_simp
 simp only [List.getElem_toArray, List.getElem_cons_succ, List.getElem_cons_zero, Act.put, List.setIfInBounds_toArray, List.set_cons_zero, List.set_cons_succ]; refine wpAnyH_take (i := 3) (v := .pointer (some ⟨bd, 0, none⟩)) rfl (by kernel_rfl) (by kernel_rfl) (by kernel_rfl) (fun _ _ _ h => h) (Or.inl ⟨by rfl, fun w9 hSw => ?_⟩) hHeld ?_
 · go_simp
 simp only [List.getElem_toArray, List.getElem_cons_succ, List.getElem_cons_zero, Act.put, List.setIfInBounds_toArray, List.set_cons_zero, List.set_cons_succ]; refine wpAnyH_take (i := 4) (v := .pointer (some ⟨bd, 0, none⟩)) rfl (by kernel_rfl) (by kernel_rfl) (by kernel_rfl) (fun _ _ _ h => h) (Or.inl ⟨by rfl, fun w9 hSw => ?_⟩) hHeld ?_
 · go_simp
 simp only [List.getElem_toArray, List.getElem_cons_succ, List.getElem_cons_zero, Act.put, List.setIfInBounds_toArray, List.set_cons_zero, List.set_cons_succ]; refine wpAnyH_take (i := 5) (v := .int .i64 S1.room) rfl (by kernel_rfl) (by kernel_rfl) (by kernel_rfl) (fun _ _ _ h => h) (Or.inl ⟨by rfl, fun w9 hSw => ?_⟩) hHeld ?_
 · have hc : w9.cell? ⟨bd, 0, none⟩ = some (.int .i64 S1.room) := (cell_of_block hSw.1.disk 0).trans rfl
   go_simp
 simp only [List.getElem_toArray, List.getElem_cons_succ, List.getElem_cons_zero, Act.put, List.setIfInBounds_toArray, List.set_cons_zero, List.set_cons_succ]; refine wpAnyH_take (i := 6) (v := .pointer (some ⟨bd, 0, none⟩)) rfl (by kernel_rfl) (by kernel_rfl) (by kernel_rfl) (fun _ _ _ h => h) (Or.inl ⟨by rfl, fun w9 hSw => ?_⟩) hHeld ?_
 · go_simp
 simp only [List.getElem_toArray, List.getElem_cons_succ, List.getElem_cons_zero, Act.put, List.setIfInBounds_toArray, List.set_cons_zero, List.set_cons_succ]; refine wpAnyH_ready (rs := [7]) (by kernel_rfl) (by simp) ?_; refine AllReadyH.cons rfl (fun K hK => ?_) AllReadyH.nil; generalize w1.drew = w2 at hHeld ⊢; go_simp; have hT : total S1 ≤ 4611686018427387904 := by have := HR.out; omega
 refine (used_any hHeld.1 hT).mono ?_; rintro e w3 ⟨rfl, hb3⟩; have hD3 : DiskIs w3 bd S1 ∧ Below w1.heap.size w1 w3 := ⟨hHeld.1.below hb3, hHeld.2.trans (hb3.mono hHeld.2.size)⟩
 clear hHeld hb3; go_wp2_with fail; refine hK.out _ _ hD3 (fun hHeld => ?_); clear hK K; try simp only [List.getElem_toArray, List.getElem_cons_succ, List.getElem_cons_zero, Act.put, List.setIfInBounds_toArray, List.set_cons_zero, List.set_cons_succ]
 have hsub : IntKind.i64.wrap (S1.room - (total S1 : Int)) = S1.room - (total S1 : Int) := by
  have := HR.out; rw [IntKind.wrap_i64]; omega
 have hgt : decide (S1.room - (total S1 : Int) < (bs.length : Int)) = false := by
  have := HR.out; simp; omega
 refine wpAnyH_take (i := 8) (v := .int .i64 (S1.room - (total S1 : Int))) rfl (by kernel_rfl) (by kernel_rfl) (by kernel_rfl) (fun _ _ _ h => h) (Or.inl ⟨by rfl, fun w9 hSw => ?_⟩) hHeld ?_
 · go_simp
 simp only [List.getElem_toArray, List.getElem_cons_succ, List.getElem_cons_zero, Act.put, List.setIfInBounds_toArray, List.set_cons_zero, List.set_cons_succ]; refine wpAnyH_take (i := 9) (v := .bool false) rfl (by kernel_rfl) (by kernel_rfl) (by kernel_rfl) (fun _ _ _ h => h) (Or.inl ⟨by rfl, fun w9 hSw => ?_⟩) hHeld ?_
 · go_simp
 simp only [List.getElem_toArray, List.getElem_cons_succ, List.getElem_cons_zero, Act.put, List.setIfInBounds_toArray, List.set_cons_zero, List.set_cons_succ]; refine wpAnyH_done (by kernel_rfl) ?_ _; have hF3 : Fr w w3 S S1 := HF.out.trans (Fr.below hD3.2); have HD3 : Hid (DiskIs w3 bd S1 ∧ Fr w w3 S S1 ∧ BytesV w3 (.slice va bs.length vc) bs) := ⟨hD3.1, hF3, HV.out.1.fr HV.out.2.1 hF3⟩
 have hkey := WideMaps.keyOf_string_mk Tryz.underlying9 (s := s) hs; have hD4 := hD3.1.below (w' := w3.alloc (.cells #[.slice none 0 0, .int .i64 0] 116)) (by go_grown); have c1 : (w3.alloc (.cells #[.slice none 0 0, .int .i64 0] 116)).cell? ⟨bd, 1, none⟩ = some (.map (some S1.bm)) := by rw [cell_of_block hD4.disk]; rfl
 have HO : Hid ((w3.alloc (.cells #[.slice none 0 0, .int .i64 0] 116)).ownsMap Tryz.prog 9 Rp S1.bm S1.fs.length (toD S1.fs)) := hD4.files; clear hD3 hF3 hsub hgt HF HD1 hD4; go_wp2_with (first
  | (at_mapUpdate
     refine wpList_mapUpdate_own _ rfl _ _ _ 86 rfl 9 114 law9 Tryz.underlying86 Rp S1.bm S1.fs.length (toD S1.fs) rfl HO.out (by unfold maxLen; omega) _ _ _ rfl rfl hkey (.lit (.int .i64 (w3.heap.size : Int))) [] rfl ?_; rw [put_toD]; intro w4 hown4 hg4; have hbm : S1.bm < w3.heap.size := HD3.out.1.files.lt; have hf4 : w4.heap[w3.heap.size]? = some (.cells #[.slice none 0 0, .int .i64 0] 116) := (hg4.block w3.heap.size (by simp) (fun e => by injection e with e; omega)).trans (heap_alloc_new _ _); have c4 : w4.cell? ⟨w3.heap.size, 0, none⟩ = some (.slice none 0 0) := by rw [cell_of_block hf4]; rfl
     have hk4 : ∀ b, b < w3.heap.size → b ≠ S1.bm → w4.heap[b]? = w3.heap[b]? := fun b h1 h2 => (hg4.block b (by simp; omega) (fun e => by injection e with e; exact h2 e)).trans (Below.heap_alloc _ _ b h1)
     have hF4 : Fr w3 w4 S1 S1 := ⟨hg4.os, hg4.tape, hg4.output, by have := hg4.size; simp at this; omega, fun b h1 h2 => hk4 b h1 (fun e => by rw [e, HD3.out.1.rm] at h2; cases h2), fun _ _ h => h⟩
     have hv4 : BytesV w4 (.slice va bs.length vc) bs := HD3.out.2.2.fr (fun b hb => HV.out.2.2 b hb) hF4; have H4 : Hid (w4.ownsMap Tryz.prog 9 Rp S1.bm (S1.fs.length + 1) (toD (putL S1.fs s.data.toList w3.heap.size)) ∧ w4.heap[w3.heap.size]? = some (.cells #[.slice none 0 0, .int .i64 0] 116) ∧ (∀ b, b < w3.heap.size → b ≠ S1.bm → w4.heap[b]? = w3.heap[b]?) ∧ BytesV w4 (.slice va bs.length vc) bs ∧ (w4.os = w3.os ∧ w4.tape = w3.tape ∧ w4.output = w3.output) ∧ w3.heap.size < w4.heap.size ∧ S1.bm < w3.heap.size) := ⟨hown4, hf4, hk4, hv4, ⟨hg4.os, hg4.tape, hg4.output⟩, heap_lt hf4, hbm⟩
     clear hown4 hg4 hf4 hk4 hF4 hv4 hbm)
  | (at_builtin
     refine wpList_append_b rfl _ _ rfl 0 (.slice none 0 0) (.slice va bs.length vc) [] bs rfl (World.ownsRow_nil _ _ _ _) rfl H4.out.2.2.2.1 (by simp; omega) (Nat.zero_le _) ?_; intro v' w5 ho hg5 ha; obtain ⟨a', cap', hv'⟩ := row_form ho; subst hv'; have hf5 := (hg5.block w3.heap.size H4.out.2.2.2.2.2.1 (by simp [Value.ownBlock])).trans H4.out.2.1; have c5 : w5.cell? ⟨w3.heap.size, 0, none⟩ = some (.slice none 0 0) := by rw [cell_of_block hf5]; rfl
     have f5 : w5.frozen? ⟨w3.heap.size, 0, none⟩ = false := unfrozen_of_block hf5 0; simp only [List.nil_append] at ho; have H5 : Hid (w5.ownsRow 0 5 1 (.slice a' ([] ++ bs).length cap') bs.length (vB bs) ∧ w4.grownBy w5 none ∧ ((Value.slice a' ([] ++ bs).length cap').ownBlock = none ∨ (Value.slice a' ([] ++ bs).length cap').ownBlock = some w4.heap.size) ∧ w5.heap[w3.heap.size]? = some (.cells #[.slice none 0 0, .int .i64 0] 116)) := ⟨ho, hg5, ha, hf5⟩
     clear ho hg5 ha hf5)
  | go_in)
 go_ret; obtain ⟨ho, hg5, ha, hf5⟩ := H5.out
 obtain ⟨hown4, hf4, hk4, hv4, hos4, hlt4, hbm⟩ := H4.out; generalize hvv : Value.slice a' ([] ++ bs).length cap' = v' at ho ha; rw [List.nil_append] at hvv; simp only [hvv]; have hk : ∀ b, b < w3.heap.size → b ≠ S1.bm → (w5.setCell ⟨w3.heap.size, 0, none⟩ v').heap[b]? = w3.heap[b]? := fun b h1 h2 => (Below.heap_setCell _ _ _ _ (by simp; omega)).trans ((hg5.block b (by omega) (by simp)).trans (hk4 b h1 h2))
 have hs5 : w3.heap.size ≤ (w5.setCell ⟨w3.heap.size, 0, none⟩ v').heap.size := by have := hg5.size; simp; omega
 have hvb : ∀ b, v'.ownBlock = some b → w3.heap.size ≤ b ∧ b ≠ w3.heap.size := fun b hb => by
  rcases ha with ha | ha
  · rw [ha] at hb; cases hb
  · rw [ha] at hb
    injection hb with hb
    exact ⟨by omega, by omega⟩
 refine ⟨rfl, v', w3.heap.size, w3.heap.size, ?_, HD3.out.2.1.trans (HD3.out.1.frA { sl := v', bs := bs, safe := 0 } hk hs5 (Nat.le_refl _) ⟨hg5.os.trans hos4.1, hg5.tape.trans hos4.2.1, hg5.output.trans hos4.2.2⟩)⟩; refine HD3.out.1.addF { sl := v', bs := bs, safe := 0 } (ownsMap_heap hown4 ((Below.heap_setCell _ _ _ _ (by simp; omega)).trans (hg5.block _ (by omega) (by simp)))) hk hs5 (Nat.le_refl _) ?_ ?_ hvb
 · rw [block_setCell hf5]
   simp
 · exact ownsRow_heap ho (fun b hb => Below.heap_setCell _ _ _ _ (hvb b hb).2)
end Go.Proofs.YtconkienlcegaaaGreatDoor
namespace Go.Proofs.YtconkienlcegaaaGreatDoor
open Go.RowKit Go.Maps Go.Joins Go.Sort Go.Shelf
set_option linter.unusedSimpArgs false
set_option linter.unusedVariables false
set_option maxHeartbeats 1000000 in
/-- (*Disk).names -/
theorem names_any {w : World} {bd : Nat} {S : DS} (h : DiskIs w bd S) (hl : S.fs.length ≤ 1000) :
 Calls Tryz.prog 55 #[.pointer (some ⟨bd, 0, none⟩)] w fun e w' => ∃ (v : Value) (ss : List (List UInt8)), e = .returned v ∧ ss.Perm (S.fs.map (·.1)) ∧ w'.ownsRow w.heap.size 9 1 v ss.length ((ss.mergeSort (fun x y => decide (x ≤ y))).map encStr) ∧ (v = .slice none 0 0 ↔ ss = []) ∧ Below w.heap.size w w' := by
 have c1 : w.cell? ⟨bd, 1, none⟩ = some (.map (some S.bm)) := by rw [cell_of_block h.disk]; rfl
 have hown := h.files; have hmax : Maps.size (toD S.fs) ≤ maxLen := by rw [size_toD]; unfold maxLen; omega
 have hbytes : Maps.size (toD S.fs) * 16 ≤ 140737488355328 := by rw [size_toD]; omega
 have HH : Hid (w.ownsMap Tryz.prog 9 Rp S.bm S.fs.length (toD S.fs) ∧ Maps.size (toD S.fs) ≤ maxLen ∧ Maps.size (toD S.fs) * 16 ≤ 140737488355328) := ⟨hown, hmax, hbytes⟩
 clear h hown hmax hbytes; refine (callsIn_wide (n := 6)).1 ?_; have hfK : Fence.wide.fn 95 := trivial; have hfS : Fence.wide.fn 94 := trivial; refine callsIn_of_wp Tryz.func55 rfl trivial ?_ rfl; simp only [Tryz.ntmps55, List.size_toArray, List.length_cons, List.length_nil, Nat.reduceAdd, Nat.reduceSub, Array.replicate_succ, Array.replicate_zero, List.push_toArray, List.append_toArray, List.nil_append, List.cons_append]; gi_wp2_with (first
  | (gi_at_call 95; refine (Tryz.maps_Keys_49 _ _).mono ?_; rintro e w' ⟨rfl, rfl⟩)
  | (gi_at_call 94; refine (Tryz.slices_Sorted_keys_48_49 S.bm S.fs.length (toD S.fs) Rp w HH.out.1 HH.out.2.1 HH.out.2.2).mono ?_; rintro e w' ⟨v, ss, rfl, hS, hrow, hnil, hb⟩))
 go_ret; rw [keys_toD] at hS
 exact ⟨v, ss, rfl, hS, ownsRow_base_a hrow (by simp), hnil, ((Below.refl _ w).alloc (Nat.le_refl _) _).trans (hb.mono (by simp))⟩
end Go.Proofs.YtconkienlcegaaaGreatDoor
