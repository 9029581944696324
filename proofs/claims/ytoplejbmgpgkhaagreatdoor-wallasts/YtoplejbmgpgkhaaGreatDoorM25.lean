/- WG, WH, laid into one text. -/
import Derived.Test.YtoplejbmgpgkhaaGreatDoorM18
import Derived.Test.YtoplejbmgpgkhaaGreatDoorM24
/- wal: a log on its disk. -/
namespace Go.Proofs.YtoplejbmgpgkhaaGreatDoor
open Go.RowKit Go.Maps Go.Joins
set_option linter.unusedSimpArgs false
set_option linter.unusedVariables false
/-- A disk, told apart from memory. -/
structure DA where
  l : List Tf
  down : Bool
  steps : Int
  armed : Int
  plan : Int → Int
  room : Int
def absD (S : DS) : DA := ⟨absP S, S.down, S.steps, S.armed, S.plan, S.room⟩
def DA.k (A : DA) : Int := A.plan (A.steps + 1 - A.armed)
def DA.sE (A : DA) (s : ByteArray) : Int := if A.down then 32 else if nameB s then faultE A.k else 1
def DA.sS (A : DA) (s : ByteArray) : DA := if A.down then A else if nameB s then { A with down := decide (A.k = 3), steps := A.steps + 1 } else A
/-- A call: its error, the disk behind it. -/
def dDo (A : DA) (s : ByteArray) (e : Int) (l' : List Tf) : Int × DA := (if A.sE s = 0 then e else A.sE s, { A.sS s with l := if A.sE s = 0 then l' else A.l })
def dSync (A : DA) (s : ByteArray) : Int × DA := dDo A s (eFind A.l s) (lSync A.l s)
def dRem (A : DA) (s : ByteArray) : Int × DA := dDo A s (eFind A.l s) (lRem A.l s)
def dRead (A : DA) (s : ByteArray) : Int × DA := dDo A s (eFind A.l s) A.l
def dBytes (A : DA) (s : ByteArray) : List Int := if A.sE s = 0 then (match fT A.l (nb s) with | some p => p.2.1 | none => []) else []
def dTru (A : DA) (s : ByteArray) (x : Int) : Int × DA := dDo A s (eTru A.l s x) (lTru A.l s x)
def dApp (A : DA) (s : ByteArray) (bs : List Int) : Int × DA := dDo A s (eApp A.l A.room s bs) (lApp A.l A.room s bs)
theorem okN_one (s : ByteArray) : okN [s] = nameB s := by simp [okN]
theorem stepE_abs (S : DS) (s : ByteArray) : stepE S [s] = (absD S).sE s := by unfold stepE DA.sE; rw [okN_one]; rfl
theorem stepS_abs (S : DS) (s : ByteArray) : (stepS S [s]).down = ((absD S).sS s).down ∧ (stepS S [s]).steps = ((absD S).sS s).steps := by
  unfold stepS DA.sS
  rw [okN_one]
  show _ = (if S.down = true then absD S else if nameB s = true then { absD S with down := decide ((absD S).k = 3), steps := S.steps + 1 } else absD S).down ∧ _ = (if S.down = true then absD S else if nameB s = true then { absD S with down := decide ((absD S).k = 3), steps := S.steps + 1 } else absD S).steps
  split
  · exact ⟨rfl, rfl⟩
  · split
    · exact ⟨rfl, rfl⟩
    · exact ⟨rfl, rfl⟩
theorem sS_rest (A : DA) (s : ByteArray) : (A.sS s).armed = A.armed ∧ (A.sS s).plan = A.plan ∧ (A.sS s).room = A.room := by
  unfold DA.sS
  split
  · exact ⟨rfl, rfl, rfl⟩
  · split
    · exact ⟨rfl, rfl, rfl⟩
    · exact ⟨rfl, rfl, rfl⟩
theorem gs_abs {S S' : DS} {s : ByteArray} {e : Int} {l' : List Tf} (h : GS S S' (stepS S [s]).down (stepS S [s]).steps (gL (stepE S [s]) (absP S) l')) : absD S' = (dDo (absD S) s e l').2 := by
  obtain ⟨a1, a2⟩ := stepS_abs S s
  obtain ⟨b1, b2, b3⟩ := sS_rest (absD S) s
  have e1 : (dDo (absD S) s e l').2 = ⟨if (absD S).sE s = 0 then l' else absP S, ((absD S).sS s).down, ((absD S).sS s).steps, ((absD S).sS s).armed, ((absD S).sS s).plan, ((absD S).sS s).room⟩ := rfl
  have e2 : absD S' = ⟨absP S', S'.down, S'.steps, S'.armed, S'.plan, S'.room⟩ := rfl
  rw [e1, e2, h.abs, h.down, h.steps, h.armed, h.plan, h.room, a1, a2, b1, b2, b3]
  unfold gL
  rw [stepE_abs]
  rfl
theorem gI_abs (S : DS) (s : ByteArray) (e : Int) (l' : List Tf) : gI (stepE S [s]) e = (dDo (absD S) s e l').1 := by
  unfold gI
  rw [stepE_abs]
  rfl
theorem dDo_steps (A : DA) (s : ByteArray) (e : Int) (l' : List Tf) : A.steps ≤ (dDo A s e l').2.steps ∧ (dDo A s e l').2.steps ≤ A.steps + 1 := by
  show A.steps ≤ (A.sS s).steps ∧ (A.sS s).steps ≤ A.steps + 1
  unfold DA.sS
  split
  · omega
  · split
    · show A.steps ≤ A.steps + 1 ∧ A.steps + 1 ≤ A.steps + 1
      omega
    · omega
theorem GB.next {S S' : DS} {ro : Int} {s : ByteArray} {e : Int} {l' : List Tf} (h : GB S ro) (hG : GS S S' (stepS S [s]).down (stepS S [s]).steps (gL (stepE S [s]) (absP S) l')) (hw : Wf l' ro) (hst : S.steps < 4611686018427387903) : GB S' ro := by
  have h1 := gs_abs (e := e) hG
  have h2 := dDo_steps (absD S) s e l'
  have h3 : S'.steps = (dDo (absD S) s e l').2.steps := congrArg DA.steps h1
  have h4 : (absD S).steps = S.steps := rfl
  have hc := h.cnt
  unfold Cnt at hc
  refine ⟨?_, hG.room.trans h.rm, h.r0, ?_⟩
  · unfold Cnt
    rw [hG.armed]
    omega
  · rw [hG.abs]
    unfold gL
    split
    · exact hw
    · exact h.wf
/-- What lies beside a disk and a log stays. -/
structure F3 (w w' : World) (S : DS) (L : LS) (S' : DS) (L' : LS) : Prop where
  os : w'.os = w.os
  tape : w'.tape = w.tape
  output : w'.output = w.output
  size : w.heap.size ≤ w'.heap.size
  block : ∀ b, b < w.heap.size → S.role b = .none → L.own b = 0 → w'.heap[b]? = w.heap[b]?
  off : ∀ b, b < w.heap.size → S.role b = .none → L.own b = 0 → S'.role b = .none ∧ L'.own b = 0
theorem F3.refl (w : World) (S : DS) (L : LS) : F3 w w S L S L := ⟨rfl, rfl, rfl, Nat.le_refl _, fun _ _ _ _ => rfl, fun _ _ h h' => ⟨h, h'⟩⟩
theorem F3.trans {w w' w'' : World} {S S' S'' : DS} {L L' L'' : LS} (h : F3 w w' S L S' L') (k : F3 w' w'' S' L' S'' L'') : F3 w w'' S L S'' L'' :=
  ⟨k.os.trans h.os, k.tape.trans h.tape, k.output.trans h.output, Nat.le_trans h.size k.size,
   fun b hb h1 h2 => (k.block b (Nat.lt_of_lt_of_le hb h.size) (h.off b hb h1 h2).1 (h.off b hb h1 h2).2).trans (h.block b hb h1 h2),
   fun b hb h1 h2 => k.off b (Nat.lt_of_lt_of_le hb h.size) (h.off b hb h1 h2).1 (h.off b hb h1 h2).2⟩
theorem F3.below {w w' : World} {S : DS} {L : LS} (h : Below w.heap.size w w') : F3 w w' S L S L := ⟨h.os, h.tape, h.output, h.size, fun b hb _ _ => h.block b hb, fun _ _ h1 h2 => ⟨h1, h2⟩⟩
/-- A log and its disk. -/
structure DL (w : World) (bd bl : Nat) (S : DS) (L : LS) (ro : Int) : Prop where
  disk : DiskIs w bd S
  gb : GB S ro
  log : LogIs w bl L
  bdq : L.bd = bd
  apart : ∀ b, L.own b ≠ 0 → S.role b = .none
  vars : Vars w
  voff : ∀ b, b < 4 → S.role b = .none ∧ L.own b = 0
theorem DL.below {w w' : World} {bd bl : Nat} {S : DS} {L : LS} {ro : Int} (h : DL w bd bl S L ro) (hb : Below w.heap.size w w') : DL w' bd bl S L ro :=
  ⟨h.disk.below hb, h.gb, h.log.below hb, h.bdq, h.apart, h.vars.below hb, h.voff⟩
theorem DL.disked {w w' : World} {bd bl : Nat} {S S' : DS} {L : LS} {ro : Int} (h : DL w bd bl S L ro) (hD : DiskIs w' bd S') (hF : Fr w w' S S') (hG : GB S' ro) : DL w' bd bl S' L ro ∧ F3 w w' S L S' L := by
  have hvl := h.vars.lt
  refine ⟨⟨hD, hG, h.log.kept (fun b hb => hF.block b (h.log.own_lt hb) (h.apart b hb)) hF.size, h.bdq, fun b hb => hF.role b (h.log.own_lt hb) (h.apart b hb), h.vars.kept (fun b hb => hF.block b (by omega) (h.voff b hb).1), fun b hb => ⟨hF.role b (by omega) (h.voff b hb).1, (h.voff b hb).2⟩⟩, ⟨hF.os, hF.tape, hF.output, hF.size, fun b hb h1 _ => hF.block b hb h1, fun b hb h1 h2 => ⟨hF.role b hb h1, h2⟩⟩⟩
theorem DL.off {w : World} {bd bl : Nat} {S : DS} {L : LS} {ro : Int} (h : DL w bd bl S L ro) (b : Nat) (hb : S.role b ≠ .none) : L.own b = 0 := by
  cases h1 : L.own b with
  | zero => rfl
  | succ n => exact absurd (h.apart b (by rw [h1]; simp)) hb
theorem DL.logged {w w' : World} {bd bl : Nat} {S : DS} {L L' : LS} {ro : Int} (h : DL w bd bl S L ro) (hL : LogIs w' bl L') (hF : LFr w w' L L') (hq : L'.bd = L.bd) : DL w' bd bl S L' ro ∧ F3 w w' S L S L' := by
  have hvl := h.vars.lt
  refine ⟨⟨h.disk.kept (fun b hb => hF.block b (h.disk.role_lt hb) (h.off b hb)) hF.size, h.gb, hL, hq.trans h.bdq, fun b hb => ?_, h.vars.kept (fun b hb => hF.block b (by omega) (h.voff b hb).2), fun b hb => ⟨(h.voff b hb).1, hF.own b (by omega) (h.voff b hb).2⟩⟩, ⟨hF.os, hF.tape, hF.output, hF.size, fun b hb _ h2 => hF.block b hb h2, fun b hb h1 h2 => ⟨h1, hF.own b hb h2⟩⟩⟩
  rcases Nat.lt_or_ge b w.heap.size with h1 | h1
  · by_cases h2 : L.own b = 0
    · exact absurd (hF.own b h1 h2) hb
    · exact h.apart b h2
  · exact h.disk.fresh b h1
/-- "log" -/
def logB : ByteArray := ⟨#[108, 111, 103]⟩
theorem logB_size : logB.size = 3 := rfl
theorem fileB_size (n : Int) : (fileB logB n).size ≤ 100 := by
  unfold fileB
  split
  · simp
  · rename_i h
    have := Lib.itoa_length_le n (by omega) (by omega)
    simp only [ByteArray.size_append, logB_size]
    show 3 + 1 + (Lib.itoa n).toArray.size ≤ 100
    simp
    omega
end Go.Proofs.YtoplejbmgpgkhaaGreatDoor
/- wal: Sync, Get of a log. -/
namespace Go.Proofs.YtoplejbmgpgkhaaGreatDoor
open Go.RowKit Go.Maps Go.Joins
set_option linter.unusedSimpArgs false
set_option linter.unusedVariables false
def setU (L : LS) (u : Bool) : LS := { L with uns := u }
theorem LogIs.setU {w : World} {bl : Nat} {L : LS} (h : LogIs w bl L) (u : Bool) : LogIs (w.setCell ⟨bl, 6, none⟩ (.bool u)) bl (setU L u) ∧ LFr w (w.setCell ⟨bl, 6, none⟩ (.bool u)) L (Proofs.YtoplejbmgpgkhaaGreatDoor.setU L u) := by
  have hk : ∀ b, b ≠ bl → (w.setCell ⟨bl, 6, none⟩ (.bool u)).heap[b]? = w.heap[b]? := fun b hb => Below.heap_setCell _ _ _ _ hb
  have hne : ∀ b, L.own b ≠ 1 → b ≠ bl := fun b h1 e => h1 (by rw [e]; exact h.rl)
  refine ⟨⟨?_, h.rl, ownsRow_heap h.files (fun b hb => hk b (hne b (by rw [h.rf b hb]; simp))), h.rf, ownsRow_heap h.recs (fun b hb => hk b (hne b (by rw [h.rr b hb]; simp))), h.rr, fun p hp => (h.each p hp).keep (fun b hb => hk b (hne b (by rw [h.re p hp b hb]; simp))), h.re, fun b hb => h.fresh b (by simpa using hb)⟩, rfl, rfl, rfl, by simp, fun b h0 h1 => hk b (hne b (by rw [h1]; simp)), fun b h0 h1 => h1⟩
  rw [block_setCell h.log]
  simp [lC, Proofs.YtoplejbmgpgkhaaGreatDoor.setU]
set_option maxHeartbeats 1000000 in
theorem lsync_clean {w : World} {bd bl : Nat} {S : DS} {L : LS} {ro : Int} (h : DL w bd bl S L ro) (hu : L.uns = false) : Calls Tryz.prog 16 #[.pointer (some ⟨bl, 0, none⟩)] w fun e w' => e = .returned (.int .i64 0) ∧ w' = w := by
  have c6 : w.cell? ⟨bl, 6, none⟩ = some (.bool false) := by rw [cell_of_block h.log.log]; show some (Value.bool L.uns) = _; rw [hu]
  clear h
  go_enter Tryz.func16, Tryz.ntmps16
  go_wp2
  go_ret
  exact ⟨rfl, rfl⟩
theorem lsync_nil (w : World) : Calls Tryz.prog 16 #[.pointer none] w fun e w' => e = .returned (.int .i64 2) ∧ w' = w := by
  go_enter Tryz.func16, Tryz.ntmps16
  go_wp2
  go_ret
  exact ⟨rfl, rfl⟩
set_option maxRecDepth 100000 in
set_option maxHeartbeats 4000000 in
theorem lsync_dirty {w : World} {bd bl : Nat} {S : DS} {L : LS} {ro : Int} (h : DL w bd bl S L ro) (hu : L.uns = true) {x : Int} (hx : L.fs.getLast? = some x) (hnm : L.nm = logB) (hst : S.steps < 4611686018427387903) :
    Calls Tryz.prog 16 #[.pointer (some ⟨bl, 0, none⟩)] w fun e w' => ∃ S' c, e = .returned (.int .i64 c) ∧ c = (dSync (absD S) (fileB logB x)).1 ∧ absD S' = (dSync (absD S) (fileB logB x)).2 ∧ DL w' bd bl S' (setU L (decide (c ≠ 0))) ro ∧ F3 w w' S L S' (setU L (decide (c ≠ 0))) := by
  have c6 : w.cell? ⟨bl, 6, none⟩ = some (.bool true) := by rw [cell_of_block h.log.log]; show some (Value.bool L.uns) = _; rw [hu]
  have HH : Hid (DL w bd bl S L ro ∧ L.fs.getLast? = some x ∧ L.nm = logB ∧ L.uns = true) := ⟨h, hx, hnm, hu⟩
  have hB0 : L.bd = bd := h.bdq
  clear h hx hnm hu
  go_enter Tryz.func16, Tryz.ntmps16
  go_wp2_with fail
  refine wp_region_held_drew (S := fun w' => w'.heap[bl]? = some (.cells (lC L) 82)) (by kernel_rfl) HH.out.1.log.log (fun hHeld => ?_)
  refine wpAnyH_take (i := 0) (v := .pointer (some ⟨bl, 0, none⟩)) rfl (by kernel_rfl) (by kernel_rfl) (by kernel_rfl) (fun _ _ _ h => h) (Or.inl ⟨by rfl, fun w9 hSw => ?_⟩) hHeld ?_
  · go_simp
  simp only [List.getElem_toArray, List.getElem_cons_succ, List.getElem_cons_zero, Act.put, List.setIfInBounds_toArray, List.set_cons_zero, List.set_cons_succ]
  refine wpAnyH_take (i := 1) (v := .pointer (some ⟨bl, 0, none⟩)) rfl (by kernel_rfl) (by kernel_rfl) (by kernel_rfl) (fun _ _ _ h => h) (Or.inl ⟨by rfl, fun w9 hSw => ?_⟩) hHeld ?_
  · go_simp
  simp only [List.getElem_toArray, List.getElem_cons_succ, List.getElem_cons_zero, Act.put, List.setIfInBounds_toArray, List.set_cons_zero, List.set_cons_succ]
  refine wpAnyH_take (i := 2) (v := .pointer (some ⟨bl, 0, none⟩)) rfl (by kernel_rfl) (by kernel_rfl) (by kernel_rfl) (fun _ _ _ h => h) (Or.inl ⟨by rfl, fun w9 hSw => ?_⟩) hHeld ?_
  · go_simp
  simp only [List.getElem_toArray, List.getElem_cons_succ, List.getElem_cons_zero, Act.put, List.setIfInBounds_toArray, List.set_cons_zero, List.set_cons_succ]
  refine wpAnyH_take (i := 3) (v := .pointer (some ⟨bd, 0, none⟩)) rfl (by kernel_rfl) (by kernel_rfl) (by kernel_rfl) (fun _ _ _ h => h) (Or.inl ⟨by rfl, fun w9 hSw => ?_⟩) hHeld ?_
  · have hc : w9.cell? ⟨bl, 0, none⟩ = some (.pointer (some ⟨bd, 0, none⟩)) := (cell_of_block hSw 0).trans (by show some (Value.pointer (some ⟨L.bd, 0, none⟩)) = _; rw [hB0])
    go_simp
  simp only [List.getElem_toArray, List.getElem_cons_succ, List.getElem_cons_zero, Act.put, List.setIfInBounds_toArray, List.set_cons_zero, List.set_cons_succ]
  refine wpAnyH_take (i := 4) (v := .pointer (some ⟨bl, 0, none⟩)) rfl (by kernel_rfl) (by kernel_rfl) (by kernel_rfl) (fun _ _ _ h => h) (Or.inl ⟨by rfl, fun w9 hSw => ?_⟩) hHeld ?_
  · go_simp
  simp only [List.getElem_toArray, List.getElem_cons_succ, List.getElem_cons_zero, Act.put, List.setIfInBounds_toArray, List.set_cons_zero, List.set_cons_succ]
  refine wpAnyH_take (i := 5) (v := .pointer (some ⟨bl, 0, none⟩)) rfl (by kernel_rfl) (by kernel_rfl) (by kernel_rfl) (fun _ _ _ h => h) (Or.inl ⟨by rfl, fun w9 hSw => ?_⟩) hHeld ?_
  · go_simp
  simp only [List.getElem_toArray, List.getElem_cons_succ, List.getElem_cons_zero, Act.put, List.setIfInBounds_toArray, List.set_cons_zero, List.set_cons_succ]
  refine wpAnyH_take (i := 6) (v := .pointer (some ⟨bl, 1, none⟩)) rfl (by kernel_rfl) (by kernel_rfl) (by kernel_rfl) (fun _ _ _ h => h) (Or.inl ⟨by rfl, fun w9 hSw => ?_⟩) hHeld ?_
  · go_simp
  simp only [List.getElem_toArray, List.getElem_cons_succ, List.getElem_cons_zero, Act.put, List.setIfInBounds_toArray, List.set_cons_zero, List.set_cons_succ]
  refine wpAnyH_take (i := 7) (v := .string logB) rfl (by kernel_rfl) (by kernel_rfl) (by kernel_rfl) (fun _ _ _ h => h) (Or.inl ⟨by rfl, fun w9 hSw => ?_⟩) hHeld ?_
  · have hc : w9.cell? ⟨bl, 1, none⟩ = some (.string logB) := (cell_of_block hSw 1).trans (by show some (Value.string L.nm) = _; rw [HH.out.2.2.1])
    go_simp
  simp only [List.getElem_toArray, List.getElem_cons_succ, List.getElem_cons_zero, Act.put, List.setIfInBounds_toArray, List.set_cons_zero, List.set_cons_succ]
  refine wpAnyH_take (i := 8) (v := .pointer (some ⟨bl, 0, none⟩)) rfl (by kernel_rfl) (by kernel_rfl) (by kernel_rfl) (fun _ _ _ h => h) (Or.inl ⟨by rfl, fun w9 hSw => ?_⟩) hHeld ?_
  · go_simp
  simp only [List.getElem_toArray, List.getElem_cons_succ, List.getElem_cons_zero, Act.put, List.setIfInBounds_toArray, List.set_cons_zero, List.set_cons_succ]
  refine wpAnyH_ready (rs := [9]) (by kernel_rfl) (by simp) ?_
  refine AllReadyH.cons rfl (fun K hK => ?_) AllReadyH.nil
  have H1 : DL w.drew bd bl S L ro ∧ F3 w w.drew S L S L := ⟨HH.out.1.below ⟨rfl, rfl, rfl, Nat.le_refl _, fun _ _ => rfl⟩, F3.below ⟨rfl, rfl, rfl, Nat.le_refl _, fun _ _ => rfl⟩⟩
  generalize w.drew = w1 at hHeld H1 ⊢
  go_simp
  refine Calls.mono (last_any H1.1.log HH.out.2.1) ?_
  rintro e w2 ⟨rfl, m2, rfl⟩
  have H2 : DL (w1.drewN m2) bd bl S L ro ∧ F3 w (w1.drewN m2) S L S L := ⟨H1.1.below (below_drewN' _ _), H1.2.trans (F3.below (below_drewN' _ _))⟩
  have hH2 : (w1.drewN m2).heap[bl]? = some (.cells (lC L) 82) := hHeld
  generalize w1.drewN m2 = w2 at hH2 H2 ⊢
  clear H1 hHeld
  go_wp2_with fail
  refine hK.out _ _ hH2 (fun hHeld => ?_)
  clear hK K
  try simp only [List.getElem_toArray, List.getElem_cons_succ, List.getElem_cons_zero, Act.put, List.setIfInBounds_toArray, List.set_cons_zero, List.set_cons_succ]
  refine wpAnyH_ready (rs := [10]) (by kernel_rfl) (by simp) ?_
  refine AllReadyH.cons rfl (fun K hK => ?_) AllReadyH.nil
  go_simp
  refine Calls.mono (file_any H2.1.vars logB (by decide) x) ?_
  rintro e w3 ⟨rfl, hb3⟩
  have H3 : DL w3 bd bl S L ro ∧ F3 w w3 S L S L := ⟨H2.1.below hb3, H2.2.trans (F3.below hb3)⟩
  have hH3 : w3.heap[bl]? = some (.cells (lC L) 82) := H3.1.log.log
  clear H2 hHeld hH2 hb3
  go_wp2_with fail
  refine hK.out _ _ hH3 (fun hHeld => ?_)
  clear hK K
  try simp only [List.getElem_toArray, List.getElem_cons_succ, List.getElem_cons_zero, Act.put, List.setIfInBounds_toArray, List.set_cons_zero, List.set_cons_succ]
  refine wpAnyH_ready (rs := [11]) (by kernel_rfl) (by simp) ?_
  refine AllReadyH.cons rfl (fun K hK => ?_) AllReadyH.nil
  have HW := sync_wf H3.1.disk.srt H3.1.gb.wf (fileB logB x)
  go_simp
  refine Calls.mono (g_sync H3.1.disk H3.1.gb (fileB logB x) (by have := fileB_size x; omega)) ?_
  rintro e w4 ⟨rfl, S', hD, hF, hG⟩
  obtain ⟨K1, K2⟩ := H3.1.disked hD hF (H3.1.gb.next (e := eFind (absP S) (fileB logB x)) hG HW hst)
  have H4 : Hid (DL w4 bd bl S' L ro ∧ F3 w w4 S L S' L ∧ absD S' = (dSync (absD S) (fileB logB x)).2) := ⟨K1, H3.2.trans K2, gs_abs hG⟩
  have hE := gI_abs S (fileB logB x) (eFind (absP S) (fileB logB x)) (lSync (absP S) (fileB logB x))
  rw [hE]
  have hH4 : w4.heap[bl]? = some (.cells (lC L) 82) := K1.log.log
  obtain ⟨c, hc⟩ : ∃ c, c = (dSync (absD S) (fileB logB x)).1 := ⟨_, rfl⟩
  have HC : Hid (c = (dSync (absD S) (fileB logB x)).1) := hc
  rw [show (dDo (absD S) (fileB logB x) (eFind (absP S) (fileB logB x)) (lSync (absP S) (fileB logB x))).1 = c from hc.symm]
  clear H3 hHeld hH3 hD hF hG K1 K2 hE hc HW
  go_wp2_with fail
  refine hK.out _ _ hH4 (fun hHeld => ?_)
  clear hK K
  try simp only [List.getElem_toArray, List.getElem_cons_succ, List.getElem_cons_zero, Act.put, List.setIfInBounds_toArray, List.set_cons_zero, List.set_cons_succ]
  refine wpAnyH_take (i := 12) (v := .int .i64 c) rfl (by kernel_rfl) (by kernel_rfl) (by kernel_rfl) (fun _ _ _ h => h) (Or.inl ⟨by rfl, fun w9 hSw => ?_⟩) hHeld ?_
  · go_simp
  simp only [List.getElem_toArray, List.getElem_cons_succ, List.getElem_cons_zero, Act.put, List.setIfInBounds_toArray, List.set_cons_zero, List.set_cons_succ]
  refine wpAnyH_done (by kernel_rfl) ?_ _
  by_cases hc0 : c = 0
  · have hc1 : (c == 0) = true := by simpa using hc0
    have d6 : w4.cell? ⟨bl, 6, none⟩ = some (.bool true) := by rw [cell_of_block hH4]; show some (Value.bool L.uns) = _; rw [HH.out.2.2.2]
    have f6 : w4.frozen? ⟨bl, 6, none⟩ = false := unfrozen_of_block hH4 6
    have HC0 : Hid (c = 0) := hc0
    clear hc0 hHeld
    go_wp2
    go_ret
    obtain ⟨q1, q2⟩ := H4.out.1.log.setU false
    obtain ⟨r1, r2⟩ := H4.out.1.logged q1 q2 rfl
    refine ⟨S', 0, rfl, by rw [← HC.out, HC0.out], H4.out.2.2, ?_, ?_⟩
    · exact r1
    · exact H4.out.2.1.trans r2
  · have hc1 : (c == 0) = false := by simpa using hc0
    have hLL : setU L (decide (c ≠ 0)) = L := by
      have : decide (c ≠ 0) = L.uns := by rw [HH.out.2.2.2]; simpa using hc0
      rw [this]
      rfl
    have HLL : Hid (setU L (decide (c ≠ 0)) = L) := hLL
    clear hLL hc0
    go_wp2
    go_ret
    refine ⟨S', c, rfl, HC.out, H4.out.2.2, ?_, ?_⟩
    · rw [HLL.out]; exact H4.out.1
    · rw [HLL.out]; exact H4.out.2.1
end Go.Proofs.YtoplejbmgpgkhaaGreatDoor
