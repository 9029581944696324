/- wal: Open of a disk with one file of the log, or none. -/
import Derived.Test.YtoplejbmgpgkhaaGreatDoorWN4
import Derived.Test.YtoplejbmgpgkhaaGreatDoorGWK
namespace Go.Proofs.YtoplejbmgpgkhaaGreatDoor
open Go.RowKit Go.Maps Go.Joins Go.Sort
set_option linter.unusedSimpArgs false
set_option linter.unusedVariables false
/-- What lies beside a disk stays, and is none of the log's. -/
structure OFr (w w' : World) (S S' : DS) (L' : LS) : Prop where
  os : w'.os = w.os
  tape : w'.tape = w.tape
  output : w'.output = w.output
  size : w.heap.size ≤ w'.heap.size
  block : ∀ b, b < w.heap.size → S.role b = .none → w'.heap[b]? = w.heap[b]?
  off : ∀ b, b < w.heap.size → S.role b = .none → S'.role b = .none ∧ L'.own b = 0
theorem OFr.f3 {w w' w2 : World} {S S' S2 : DS} {L' L2 : LS} (h : OFr w w' S S' L') (k : F3 w' w2 S' L' S2 L2) : OFr w w2 S S2 L2 :=
  ⟨k.os.trans h.os, k.tape.trans h.tape, k.output.trans h.output, Nat.le_trans h.size k.size,
   fun b hb h1 => (k.block b (Nat.lt_of_lt_of_le hb h.size) (h.off b hb h1).1 (h.off b hb h1).2).trans (h.block b hb h1),
   fun b hb h1 => k.off b (Nat.lt_of_lt_of_le hb h.size) (h.off b hb h1).1 (h.off b hb h1).2⟩
def newL (bd : Nat) (most : Int) (x : Nat) : LS := ⟨bd, logB, most, .slice none 0 0, [], .slice none 0 0, [], 0, false, fun b => if b = x then 1 else 0⟩
theorem open_new {w : World} {bd : Nat} {S : DS} {ro : Int} (hD : DiskIs w bd S) (hG : GB S ro) (hV : Vars w) (hvo : ∀ b, b < 4 → S.role b = .none) (most : Int) :
    DL (w.alloc (.cells (lC (newL bd most w.heap.size)) 82)) bd w.heap.size S (newL bd most w.heap.size) ro ∧ OFr w (w.alloc (.cells (lC (newL bd most w.heap.size)) 82)) S S (newL bd most w.heap.size) := by
  have hb : Below w.heap.size w (w.alloc (.cells (lC (newL bd most w.heap.size)) 82)) := by go_grown
  have hvl := hV.lt
  refine ⟨⟨hD.below hb, hG, ⟨heap_alloc_new _ _, if_pos rfl, World.ownsRow_nil _ _ _ _, fun b hb' => (by cases hb'), World.ownsRow_nil _ _ _ _, fun b hb' => (by cases hb'), fun p hp => (by cases hp), fun p hp => (by cases hp), fun b hb' => if_neg (fun e => by rw [e] at hb'; simp at hb'; omega)⟩, rfl, fun b hb' => ?_, hV.below hb, fun b hb' => ⟨hvo b hb', if_neg (by omega)⟩⟩, ⟨rfl, rfl, rfl, hb.size, fun b h1 _ => hb.block b h1, fun b h1 h2 => ⟨h2, if_neg (by omega)⟩⟩⟩
  have : b = w.heap.size := by
    by_cases e : b = w.heap.size
    · exact e
    · exact absurd (if_neg e) hb'
  rw [this]
  exact hD.fresh _ (Nat.le_refl _)
def nmS (l : List Tf) : List ByteArray := l.map fun p => ⟨p.1.toArray⟩
theorem wlist_v {w : World} {bd : Nat} {S : DS} {ro : Int} (h : DiskIs w bd S) (hG : GB S ro) (hd : S.down = false) : Calls Tryz.prog 33 #[.pointer (some ⟨bd, 0, none⟩)] w fun e w' => ∃ v, e = .returned v ∧ StrV w' v (nmS (absP S)) ∧ Below w.heap.size w w' := by
  refine (list_up h hd (by have := hG.wf.len; unfold absP at this; rw [List.length_map] at this; omega)).mono ?_
  rintro e w' ⟨v, ss, rfl, hp, ho, _, hb⟩
  rw [names_sorted h hp] at ho
  have hl : ss.length = (nmS (absP S)).length := by
    have h1 := hp.length_eq
    simp only [nmS, absP, List.length_map] at h1 ⊢
    omega
  have e3 : (S.fs.map (·.1)).map encStr = (nmS (absP S)).map Value.string := by
    simp only [nmS, absP, List.map_map]
    rfl
  rw [e3, hl] at ho
  exact ⟨v, rfl, StrV.of_own ho, hb⟩
/-- What load gives of a log's only file. -/
def LdR (S : DS) (L' : LS) (n most c : Int) (S' : DS) : Prop :=
    ((¬ (dRead (absD S) (fileB logB n)).1 = 0 ∧ c = (dRead (absD S) (fileB logB n)).1 ∧ absD S' = (dRead (absD S) (fileB logB n)).2) ∨
     ((dRead (absD S) (fileB logB n)).1 = 0 ∧ ((c = 34 ∧ absD S' = (dRead (absD S) (fileB logB n)).2 ∧ ∃ k rs, Took (dBytes (absD S) (fileB logB n)) k rs ∧ k < (dBytes (absD S) (fileB logB n)).length ∧ (nx ((dBytes (absD S) (fileB logB n)).drop k)).1 ≠ 0 ∧ ¬ ((nx ((dBytes (absD S) (fileB logB n)).drop k)).1 = 10 ∧ true = true)) ∨ ∃ k rs, Took (dBytes (absD S) (fileB logB n)) k rs ∧ (absL L' = ⟨[n], rs, k, false, most⟩ ∧ L'.nm = logB) ∧ ((k = (dBytes (absD S) (fileB logB n)).length ∧ c = 0 ∧ absD S' = (dRead (absD S) (fileB logB n)).2) ∨ (k < (dBytes (absD S) (fileB logB n)).length ∧ (nx ((dBytes (absD S) (fileB logB n)).drop k)).1 = 10 ∧ true = true ∧ c = (dTru (dRead (absD S) (fileB logB n)).2 (fileB logB n) k).1 ∧ absD S' = (dTru (dRead (absD S) (fileB logB n)).2 (fileB logB n) k).2)))))
theorem load_one {w : World} {bd : Nat} {S : DS} {ro : Int} {x : Nat} {most : Int} (hI : LdIn w bd x S (newL bd most x) ro) (n : Int) : Calls Tryz.prog 51 #[.pointer (some ⟨x, 0, none⟩), .int .i64 n, .bool true] w fun e w' => ∃ c S' L', e = .returned (.int .i64 c) ∧ DL w' bd x S' L' ro ∧ F3 w w' S (newL bd most x) S' L' ∧ LdR S L' n most c S' := by
  by_cases he : (dRead (absD S) (fileB logB n)).1 = 0
  · refine (load_first hI n true he rfl).mono ?_
    rintro e w' ⟨c, S', L', rfl, h1, h2, h3⟩
    refine ⟨c, S', L', rfl, h1, h2, Or.inr ⟨he, ?_⟩⟩
    rcases h3 with h3 | ⟨k, rs, h4, ⟨h5, h6⟩, h7⟩
    · exact Or.inl h3
    · exact Or.inr ⟨k, rs, h4, ⟨h5, h6⟩, h7⟩
  · refine (load_err hI n true he).mono ?_
    rintro e w' ⟨c, S', L', rfl, h1, h2, h3, h4⟩
    exact ⟨c, S', L', rfl, h1, h2, Or.inl ⟨he, h3, h4⟩⟩
/-- What Open gives of a log with one file, or none. -/
def OpR (w w' : World) (bd : Nat) (S : DS) (ro most : Int) (e : Ending) : Prop :=
  (numsOf (nmS (absP S)) = [] ∧ ∃ bl L, e = .returned (.tuple #[.pointer (some ⟨bl, 0, none⟩), .int .i64 0]) ∧ DL w' bd bl S L ro ∧ OFr w w' S S L ∧ absL L = ⟨[], [], 0, false, most⟩ ∧ L.nm = logB) ∨
  ∃ n c bl S' L', numsOf (nmS (absP S)) = [n] ∧ e = .returned (.tuple #[if c = 0 then .pointer (some ⟨bl, 0, none⟩) else .pointer none, .int .i64 c]) ∧ DL w' bd bl S' L' ro ∧ OFr w w' S S' L' ∧ LdR S L' n most c S'
theorem newL_ln (bd : Nat) (most : Int) (x : Nat) : LN (newL bd most x) := by
  unfold LN newL
  simp
theorem srtI_one (n : Int) : srtI [n] = [n] := by simp [srtI]
theorem srtI_nil : srtI [] = [] := by simp [srtI]
set_option maxRecDepth 100000 in
set_option maxHeartbeats 8000000 in
theorem open_zero {w : World} {bd : Nat} {S : DS} {ro : Int} (hD : DiskIs w bd S) (hG : GB S ro) (hV : Vars w) (hvo : ∀ b, b < 4 → S.role b = .none) (hdn : S.down = false) (hst : S.steps < 4611686018427387900) (hnm : ∀ s ∈ nmS (absP S), s.size ≤ 1000) (most : Int) (hm : 1 ≤ most) (hnum : numsOf (nmS (absP S)) = []) :
    Calls Tryz.prog 12 #[.pointer (some ⟨bd, 0, none⟩), .string logB, .int .i64 most] w fun e w' => OpR w w' bd S ro most e := by
  obtain ⟨q1, q2⟩ := open_new hD hG hV hvo most
  have HN : Hid (DL (w.alloc (.cells #[.pointer (some ⟨bd, 0, none⟩), .string logB, .int .i64 most, .slice none 0 0, .slice none 0 0, .int .i64 0, .bool false] 82)) bd w.heap.size S (newL bd most w.heap.size) ro ∧ OFr w (w.alloc (.cells #[.pointer (some ⟨bd, 0, none⟩), .string logB, .int .i64 most, .slice none 0 0, .slice none 0 0, .int .i64 0, .bool false] 82)) S S (newL bd most w.heap.size)) := ⟨q1, q2⟩
  have hdown := down_any hD
  rw [hdn] at hdown
  have HD : Hid _ := hdown
  have HS : Hid (S.down = false ∧ S.steps < 4611686018427387900 ∧ (∀ s ∈ nmS (absP S), s.size ≤ 1000) ∧ (nmS (absP S)).length ≤ 1000) := ⟨hdn, hst, hnm, by have := hG.wf.len; simp only [nmS, List.length_map]; omega⟩
  have hwn : wnameB logB = true := by decide
  have HW : Hid _ := hwn
  have hm1 : decide (most < 1) = false := by simp; omega
  have HNUM : Hid _ := hnum
  clear q1 q2 hD hG hV hvo hdown hdn hst hnm hwn hnum
  go_enter Tryz.func12, Tryz.ntmps12
  go_wp2_with (first
    | (go_at_call 42
       refine Calls.mono (wname_any logB (by decide) _) ?_
       rw [HW.out]
       rintro e w1 ⟨rfl, hw1⟩
       obtain rfl := hw1.symm)
    | (go_at_call 49
       refine Calls.mono HD.out ?_
       rintro e w1 ⟨rfl, hw1⟩
       obtain rfl := hw1.symm)
    | (go_at_call 33
       refine Calls.mono (wlist_v HN.out.1.disk HN.out.1.gb HS.out.1) ?_
       rintro e w2 ⟨v2, rfl, hs2, hb2⟩
       have H2 : Hid (DL w2 bd w.heap.size S (newL bd most w.heap.size) ro ∧ OFr w w2 S S (newL bd most w.heap.size) ∧ StrV w2 v2 (nmS (absP S))) := ⟨HN.out.1.below hb2, HN.out.2.f3 (F3.below hb2), hs2⟩
       clear hs2 hb2)
    | (go_at_call 50
       refine Calls.mono (fnums_any H2.out.1.vars H2.out.2.2 HS.out.2.2.2 HS.out.2.2.1) ?_
       rintro e w3 ⟨v3, rfl, ho3, hb3⟩
       rw [HNUM.out] at ho3
       have H3 : Hid (DL w3 bd w.heap.size S (newL bd most w.heap.size) ro ∧ OFr w w3 S S (newL bd most w.heap.size) ∧ w3.ownsRow w2.heap.size 3 1 v3 _ _) := ⟨H2.out.1.below hb3, H2.out.2.1.f3 (F3.below hb3), ho3⟩
       obtain ⟨a3, k3, hv3⟩ := row_form ho3
       subst hv3
       clear hb3))
  clear ho3
  go_loopw [35] (fun i wr => i = .int .i64 0 ∧ wr = w3) (fun _ _ => 0)
  case atStart => exact ⟨rfl, rfl⟩
  case round =>
    obtain ⟨rfl, rfl⟩ := hrel
    go_wp2
    go_returns
    exact Or.inl ⟨HNUM.out, w.heap.size, _, rfl, H3.out.1, H3.out.2.1, rfl, rfl⟩
set_option maxRecDepth 100000 in
set_option maxHeartbeats 8000000 in
theorem open_one {w : World} {bd : Nat} {S : DS} {ro : Int} (hD : DiskIs w bd S) (hG : GB S ro) (hV : Vars w) (hvo : ∀ b, b < 4 → S.role b = .none) (hdn : S.down = false) (hst : S.steps < 4611686018427387900) (hnm : ∀ s ∈ nmS (absP S), s.size ≤ 1000) (most : Int) (hm : 1 ≤ most) {n : Int} (hnum : numsOf (nmS (absP S)) = [n]) :
    Calls Tryz.prog 12 #[.pointer (some ⟨bd, 0, none⟩), .string logB, .int .i64 most] w fun e w' => OpR w w' bd S ro most e := by
  obtain ⟨q1, q2⟩ := open_new hD hG hV hvo most
  have HN : Hid (DL (w.alloc (.cells #[.pointer (some ⟨bd, 0, none⟩), .string logB, .int .i64 most, .slice none 0 0, .slice none 0 0, .int .i64 0, .bool false] 82)) bd w.heap.size S (newL bd most w.heap.size) ro ∧ OFr w (w.alloc (.cells #[.pointer (some ⟨bd, 0, none⟩), .string logB, .int .i64 most, .slice none 0 0, .slice none 0 0, .int .i64 0, .bool false] 82)) S S (newL bd most w.heap.size)) := ⟨q1, q2⟩
  have hdown := down_any hD
  rw [hdn] at hdown
  have HD : Hid _ := hdown
  have HS : Hid (S.down = false ∧ S.steps < 4611686018427387900 ∧ (∀ s ∈ nmS (absP S), s.size ≤ 1000) ∧ (nmS (absP S)).length ≤ 1000) := ⟨hdn, hst, hnm, by have := hG.wf.len; simp only [nmS, List.length_map]; omega⟩
  have hwn : wnameB logB = true := by decide
  have HW : Hid _ := hwn
  have hm1 : decide (most < 1) = false := by simp; omega
  have HNUM : Hid _ := hnum
  clear q1 q2 hD hG hV hvo hdown hdn hst hnm hwn hnum
  go_enter Tryz.func12, Tryz.ntmps12
  go_wp2_with (first
    | (go_at_call 42
       refine Calls.mono (wname_any logB (by decide) _) ?_
       rw [HW.out]
       rintro e w1 ⟨rfl, hw1⟩
       obtain rfl := hw1.symm)
    | (go_at_call 49
       refine Calls.mono HD.out ?_
       rintro e w1 ⟨rfl, hw1⟩
       obtain rfl := hw1.symm)
    | (go_at_call 33
       refine Calls.mono (wlist_v HN.out.1.disk HN.out.1.gb HS.out.1) ?_
       rintro e w2 ⟨v2, rfl, hs2, hb2⟩
       have H2 : Hid (DL w2 bd w.heap.size S (newL bd most w.heap.size) ro ∧ OFr w w2 S S (newL bd most w.heap.size) ∧ StrV w2 v2 (nmS (absP S))) := ⟨HN.out.1.below hb2, HN.out.2.f3 (F3.below hb2), hs2⟩
       clear hs2 hb2)
    | (go_at_call 50
       refine Calls.mono (fnums_any H2.out.1.vars H2.out.2.2 HS.out.2.2.2 HS.out.2.2.1) ?_
       rintro e w3 ⟨v3, rfl, ho3, hb3⟩
       rw [HNUM.out] at ho3
       have H3 : Hid (DL w3 bd w.heap.size S (newL bd most w.heap.size) ro ∧ OFr w w3 S S (newL bd most w.heap.size) ∧ w3.ownsRow w2.heap.size 3 1 v3 _ _) := ⟨H2.out.1.below hb3, H2.out.2.1.f3 (F3.below hb3), ho3⟩
       obtain ⟨a3, k3, hv3⟩ := row_form ho3
       subst hv3
       clear hb3))
  rw [srtI_one] at ho3
  have hcell : ∃ g, a3 = some ⟨g, 0, none⟩ ∧ w3.cell? ⟨g, 0, none⟩ = some (.int .i64 n) := by
    rcases ho3.2 with ⟨_, h0⟩ | ⟨g, cap, cur, e, _⟩
    · simp at h0
    · injection e with e1 _ _
      have h0 := ho3.cells (g := g) (by rw [e1]; rfl) 0 (.int .i64 n) rfl
      rw [Addr.add_lit] at h0
      exact ⟨g, e1, h0⟩
  obtain ⟨g3, rfl, c3⟩ := hcell
  have hlt3 : g3 < w3.heap.size := cell_lt c3
  have H3b : Hid (DL w3 bd w.heap.size S (newL bd most w.heap.size) ro ∧ OFr w w3 S S (newL bd most w.heap.size)) := ⟨H3.out.1, H3.out.2.1⟩
  clear ho3 H3
  go_loopw [35] (fun i wr => (i = .int .i64 0 ∧ wr = w3) ∨ (i = .int .i64 1 ∧ OpR w wr bd S ro most (.returned (.tuple #[.pointer (some ⟨w.heap.size, 0, none⟩), .int .i64 0])))) (fun i _ => 1 - (intOf i).toNat)
  case atStart => exact Or.inl ⟨rfl, rfl⟩
  case round =>
    rcases hrel with ⟨rfl, rfl⟩ | ⟨rfl, hop⟩
    · have hI : LdIn wr bd w.heap.size S (newL bd most w.heap.size) ro := ⟨H3b.out.1, rfl, newL_ln _ _ _, Nat.zero_le _, Nat.zero_le _, HS.out.2.1⟩
      have hL := load_one hI n
      have HL : Hid _ := hL
      clear hI hL
      go_wp2_with (first
        | (go_at_call 51
           refine Calls.mono HL.out ?_
           rintro e w4 ⟨c, S4, L4, rfl, hd4, hf4, hcc⟩
           have H4 : Hid (DL w4 bd w.heap.size S4 L4 ro ∧ OFr w w4 S S4 L4 ∧ LdR S L4 n most c S4) := ⟨hd4, H3b.out.2.f3 hf4, hcc⟩
           clear hd4 hf4 hcc))
      · rename_i hc
        have hc0 : ¬ c = 0 := by simpa using hc
        go_returns
        exact Or.inr ⟨n, c, w.heap.size, S4, L4, HNUM.out, by rw [if_neg hc0]; rfl, H4.out.1, H4.out.2.1, H4.out.2.2⟩
      · rename_i hc
        have hc0 : c = 0 := by simpa using hc
        refine ⟨Or.inr ⟨rfl, Or.inr ⟨n, c, w.heap.size, S4, L4, HNUM.out, by rw [if_pos hc0, hc0], H4.out.1, H4.out.2.1, H4.out.2.2⟩⟩, ?_⟩
        simp [intOf]
    · have HOP : Hid (OpR w wr bd S ro most (.returned (.tuple #[.pointer (some ⟨w.heap.size, 0, none⟩), .int .i64 0]))) := hop
      clear hop
      go_wp2
      go_returns
      exact HOP.out
end Go.Proofs.YtoplejbmgpgkhaaGreatDoor
