/- WU0, WK, WO -/
import Derived.Test.YtconkienlcegaaaGreatDoorWN4
import Derived.Test.YtconkienlcegaaaGreatDoorWN5
import Derived.Test.YtconkienlcegaaaGreatDoorWN6
import Derived.Test.YtconkienlcegaaaGreatDoorGWG
import Derived.Sort.OwnSorted
namespace Go.Proofs.YtconkienlcegaaaGreatDoor
open Go.RowKit Go.Maps Go.Joins
set_option linter.unusedVariables false
/-- What load makes of a file's number: the code, the disk, the log (where the code is 0). -/
def LdX (A : DA) (P : PL) (n : Int) (last : Bool) (c : Int) (A' : DA) (P' : PL) : Prop :=
 (¬ (dRead A (fileB logB n)).1 = 0 ∧ c = (dRead A (fileB logB n)).1 ∧ A' = (dRead A (fileB logB n)).2) ∨
 ((dRead A (fileB logB n)).1 = 0 ∧
   ((P.fs ≠ [] ∧ n ≠ P.en ∧ c = 34 ∧ A' = (dRead A (fileB logB n)).2) ∨
    ((P.fs = [] ∨ n = P.en) ∧
      ((c = 34 ∧ A' = (dRead A (fileB logB n)).2 ∧ ∃ k rs, Took (dBytes A (fileB logB n)) k rs ∧ k < (dBytes A (fileB logB n)).length ∧ (nx ((dBytes A (fileB logB n)).drop k)).1 ≠ 0 ∧ ¬ ((nx ((dBytes A (fileB logB n)).drop k)).1 = 10 ∧ last = true)) ∨
       ∃ k rs, Took (dBytes A (fileB logB n)) k rs ∧ P' = { P with fs := P.fs ++ [n], rs := P.rs ++ rs, size := k } ∧
         ((k = (dBytes A (fileB logB n)).length ∧ c = 0 ∧ A' = (dRead A (fileB logB n)).2) ∨
          (k < (dBytes A (fileB logB n)).length ∧ (nx ((dBytes A (fileB logB n)).drop k)).1 = 10 ∧ last = true ∧ c = (dTru (dRead A (fileB logB n)).2 (fileB logB n) k).1 ∧ A' = (dTru (dRead A (fileB logB n)).2 (fileB logB n) k).2))))))
theorem en_abs (L : LS) : (absL L).en = endL L := by
 unfold PL.en PL.fst endL Proofs.YtconkienlcegaaaGreatDoor.fst absL; simp
theorem load_any {w : World} {bd bl : Nat} {S : DS} {L : LS} {ro : Int} (hI : LdIn w bd bl S L ro) (n : Int) (last : Bool) :
 Calls Tryz.prog 74 #[.pointer (some ⟨bl, 0, none⟩), .int .i64 n, .bool last] w fun e w' => ∃ c S' L', e = .returned (.int .i64 c) ∧ DL w' bd bl S' L' ro ∧ F3 w w' S L S' L' ∧ LdX (absD S) (absL L) n last c (absD S') (absL L') ∧ (c = 0 → L'.nm = logB) := by
 by_cases he : (dRead (absD S) (fileB logB n)).1 = 0
 rotate_left
 · refine (load_err hI n last he).mono ?_
   rintro e w' ⟨c, S', L', rfl, h1, h2, h3, h4⟩; exact ⟨c, S', L', rfl, h1, h2, Or.inl ⟨he, h3, h4⟩, fun h => absurd (h3.symm.trans h) he⟩
 by_cases hfs : L.fs.length = 0
 · have h0 : (absL L).fs = [] := List.length_eq_zero_iff.1 hfs
   refine (load_first hI n last he hfs).mono ?_; rintro e w' ⟨c, S', L', rfl, h1, h2, h3⟩; refine ⟨c, S', L', rfl, h1, h2, Or.inr ⟨he, Or.inr ⟨Or.inl h0, ?_⟩⟩, ?_⟩
   · rcases h3 with h3 | ⟨k, rs, h4, ⟨h5, h6⟩, h7⟩
     · exact Or.inl h3
     · exact Or.inr ⟨k, rs, h4, h5, h7⟩
   · intro hc
     rcases h3 with ⟨h3, _⟩ | ⟨k, rs, h4, ⟨h5, h6⟩, h7⟩
     · rw [hc] at h3; exact absurd h3 (by decide)
     · exact h6.trans hI.nm
 have h0 : (absL L).fs ≠ [] := fun h => hfs (by have : L.fs = [] := h; rw [this]; rfl)
 by_cases hn : n = endL L
 · refine (load_next hI n last he hfs hn).mono ?_
   rintro e w' ⟨c, S', L', rfl, h1, h2, h3⟩; refine ⟨c, S', L', rfl, h1, h2, Or.inr ⟨he, Or.inr ⟨Or.inr (hn.trans (en_abs L).symm), ?_⟩⟩, ?_⟩
   · rcases h3 with h3 | ⟨k, rs, h4, ⟨h5, h6⟩, h7⟩
     · exact Or.inl h3
     · exact Or.inr ⟨k, rs, h4, h5, h7⟩
   · intro hc
     rcases h3 with ⟨h3, _⟩ | ⟨k, rs, h4, ⟨h5, h6⟩, h7⟩
     · rw [hc] at h3; exact absurd h3 (by decide)
     · exact h6.trans hI.nm
 · refine (load_gap hI n last he hfs hn).mono ?_
   rintro e w' ⟨S', rfl, h1, h2, h3⟩; exact ⟨34, S', L, rfl, h1, h2, Or.inr ⟨he, Or.inl ⟨h0, fun h => hn (h.trans (en_abs L)), rfl, h3⟩⟩, fun h => absurd h (by decide)⟩
end Go.Proofs.YtconkienlcegaaaGreatDoor
namespace Go.Proofs.YtconkienlcegaaaGreatDoor
open Go.RowKit Go.Maps Go.Joins Go.Sort
set_option linter.unusedSimpArgs false
set_option linter.unusedVariables false
abbrev eI : Int → Value := Value.int .i64
theorem holdsI {w : World} {g : Nat} {cur : Array Value} {e : TypeId} {zs : List Int} (hb : w.heap[g]? = some (.cells cur e (0, 0))) (ht : cur.toList.take zs.length = zs.map eI) : Holds eI w g 0 zs.toArray := by
 intro j hj; have hj' : j < zs.length := by simpa using hj
 have h1 : (cur.toList.take zs.length)[j]? = (zs.map eI)[j]? := by rw [ht]
 rw [List.getElem?_take_of_lt hj'] at h1; have h2 : w.cell? ⟨g, 0 + j, none⟩ = cur[j]? := by rw [Nat.zero_add]; exact cell_of_block hb j
 refine ⟨?_, unfrozen_of_block hb _⟩; rw [h2, ← Array.getElem?_toList, h1]; simp [hj']
theorem heapI {w : World} {g n : Nat} {os : Array Obj} {cur : Array Value} {e : TypeId} (d : Array Int) (hb : w.heap[g]? = some (.cells cur e (0, 0))) : (grow (putRow eI (Sort.ahead w n) g 0 d) os).heap[g]? = some (.cells (putCells eI 0 d cur) e (0, 0)) := by
 have hg : g < w.heap.size := heap_lt hb; rw [heap_grow_old _ _ (by simpa using hg)]; simp [putRow, mapBlock, Sort.ahead, Array.getElem?_modify, hb, onCells]
theorem grownI {w : World} {g n : Nat} {os : Array Obj} (d : Array Int) : w.grownBy (grow (putRow eI (Sort.ahead w n) g 0 d) os) (some g) := by
 refine ⟨rfl, rfl, rfl, by simp, fun k hk hne => ?_⟩; rw [heap_grow_old _ _ (by simpa using hk)]; have : g ≠ k := fun e => hne (by rw [e])
 simp [putRow, mapBlock, Sort.ahead, Array.getElem?_modify, this]
theorem takeI (cur : Array Value) (ts : List Int) (h : ts.length ≤ cur.size) : (putCells eI 0 ts.toArray cur).toList.take ts.length = ts.map eI := by
 apply List.ext_getElem?
 intro j; by_cases hj : j < ts.length
 · rw [List.getElem?_take_of_lt hj, Array.getElem?_toList]
   simp [putCells, hj, show j < cur.size by omega]
 · rw [List.getElem?_take_eq_none (by omega), List.getElem?_eq_none (by simp; omega)]
def srtI (l : List Int) : List Int := l.mergeSort fun x y => decide (x ≤ y)
theorem srtI_length (l : List Int) : (srtI l).length = l.length := by simp [srtI]
/-- slices.Sort of numbers of one's own. -/
theorem sortI {w : World} {base : Nat} {v : Value} {l : List Int} (h : w.ownsRow base 3 1 v l.length (vI l)) (hl : l.length ≤ 1000000) : Calls Tryz.prog 105 #[v] w fun e w' => e = .returned (.tuple #[]) ∧ w'.ownsRow base 3 1 v l.length (vI (srtI l)) ∧ w.grownBy w' v.ownBlock := by
 rcases h.2 with ⟨rfl, h0⟩ | ⟨g, cap, cur, rfl, hbase, hb, h1, h2, h3, h4⟩
 · have : l = [] := List.eq_nil_of_length_eq_zero h0
   subst this; refine (Tryz.slices_Sort_int_none none 0 w).mono ?_; rintro e w' ⟨rfl, rfl⟩; have e0 : srtI [] = [] := by simp [srtI]
   exact ⟨rfl, by rw [e0]; exact h, World.grownBy.refl _ _⟩
 · rw [Nat.mul_one] at h4
   refine (Tryz.slices_Sort_int g 0 cap l w (holdsI hb h4) (heap_lt hb) (by omega)).mono ?_; rintro e w' ⟨rfl, n, os, rfl⟩; have hls : (srtI l).length = l.length := srtI_length l; refine ⟨rfl, ⟨by rw [vI_length, hls, Nat.mul_one], Or.inr ⟨g, cap, _, rfl, hbase, heapI _ hb, h1, h2, by simp [putCells, h3], ?_⟩⟩, grownI _⟩; rw [Nat.mul_one, ← hls]; exact takeI cur (srtI l) (by rw [hls]; omega)
def pfx : ByteArray := logB ++ ⟨#[46]⟩
def restB (s : ByteArray) : ByteArray := ⟨(Lib.trimPrefix s.data.toList pfx.data.toList).toArray⟩
/-- The number of a log's file. -/
def numOf (s : ByteArray) : Option Int := if Lib.hasPrefix s.data.toList pfx.data.toList then (match Lib.atoiAll (restB s).data.toList with | .ok v => if fileB logB v = s then some v else none | _ => none) else none
def numsOf (l : List ByteArray) : List Int := l.filterMap numOf
theorem numsOf_succ {l : List ByteArray} {k : Nat} {s : ByteArray} (h : l[k]? = some s) : numsOf (l.take (k + 1)) = numsOf (l.take k) ++ (numOf s).toList := by
 unfold numsOf; rw [List.take_add_one, h, List.filterMap_append]; cases hn : numOf s <;> simp [hn]
theorem numsOf_length (l : List ByteArray) : (numsOf l).length ≤ l.length := List.length_filterMap_le _ _
theorem restB_size (s : ByteArray) : (restB s).size ≤ s.size := by
 unfold restB; show (Lib.trimPrefix s.data.toList pfx.data.toList).toArray.size ≤ s.data.size; rw [List.size_toArray]; unfold Lib.trimPrefix; split
 · rw [List.length_drop]; simp
 · simp
theorem ownsRow_below {w w' : World} {base size n : Nat} {e : TypeId} {v : Value} {xs : List Value} (h : w.ownsRow base e size v n xs) (hb : Below w.heap.size w w') : w'.ownsRow base e size v n xs := ownsRow_heap h (fun b hb' => hb.block b (h.lt b hb').2)
set_option maxRecDepth 100000 in
set_option maxHeartbeats 8000000 in
/-- fileNumbers -/
theorem fnums_any {w : World} (hV : Vars w) {v : Value} {l : List ByteArray} (hv : StrV w v l) (hl : l.length ≤ 1000) (hs : ∀ s ∈ l, s.size ≤ 1000) :
 Calls Tryz.prog 72 #[v, .string logB] w fun e w' => ∃ v', e = .returned v' ∧ w'.ownsRow w.heap.size 3 1 v' (numsOf l).length (vI (srtI (numsOf l))) ∧ Below w.heap.size w w' := by
 obtain ⟨a, cap, rfl, hc⟩ := hv; have HV : Hid (Vars w ∧ (∀ j s, l[j]? = some s → ∃ g, a = some ⟨g, 0, none⟩ ∧ w.cell? ⟨g, j, none⟩ = some (.string s)) ∧ ∀ s ∈ l, s.size ≤ 1000) := ⟨hV, hc, hs⟩
 clear hV hc hs; have s1 : ¬ 9223372036854775807 < logB.size + 1 := by decide
 have hpf : logB ++ ⟨#[46]⟩ = pfx := rfl; go_enter Tryz.func72, Tryz.ntmps72; go_wp2; go_loopw [5, 14] (fun o i wr => ∃ k : Nat, k ≤ l.length ∧ i = .int .i64 k ∧ wr.ownsRow w.heap.size 3 1 o (numsOf (l.take k)).length (vI (numsOf (l.take k))) ∧ Below w.heap.size w wr) (fun _ i _ => l.length - (intOf i).toNat)
 case atStart => exact ⟨0, Nat.zero_le _, rfl, World.ownsRow_nil _ _ _ _, Below.refl _ _⟩
 case round =>
  obtain ⟨k, hk, rfl, hown, hb⟩ := hrel; obtain ⟨oa, ocap, hov⟩ := row_form hown; subst hov; have hnl : (numsOf (l.take k)).length ≤ 1000 := by
   have h1 := numsOf_length (l.take k); have h2 := List.length_take_le k l; omega
  by_cases hkl : k < l.length
  · obtain ⟨s, hsk⟩ : ∃ s, l[k]? = some s := ⟨_, List.getElem?_eq_getElem hkl⟩
    obtain ⟨g, rfl, c0⟩ := HV.out.2.1 k s hsk; have c1 : wr.cell? ⟨g, k, none⟩ = some (.string s) := (hb.cell (p := ⟨g, k, none⟩) (cell_lt c0)).trans c0; have hki : (k : Int) < l.length := by omega
    have hss := HV.out.2.2 s (List.mem_of_getElem? hsk); have hrs := restB_size s; have HO : Hid (wr.ownsRow w.heap.size 3 1 (.slice oa (numsOf (l.take k)).length ocap) (numsOf (l.take k)).length (vI (numsOf (l.take k))) ∧ Below w.heap.size w wr ∧ numsOf (l.take (k + 1)) = numsOf (l.take k) ++ (numOf s).toList) := ⟨hown, hb, numsOf_succ hsk⟩
    clear hown hb hsk c0; generalize hNN : (numsOf (l.take k)) = NN at *; have hcp := fun w' => Tryz.strings_CutPrefix s pfx w'
    rw [show (⟨(Lib.trimPrefix s.data.toList pfx.data.toList).toArray⟩ : ByteArray) = restB s from rfl] at hcp; have HCP : Hid _ := hcp; clear hcp; cases hP : Lib.hasPrefix s.data.toList pfx.data.toList with
    | false =>
      have hn : numOf s = none := by unfold numOf; rw [hP]; simp
      have HN : Hid _ := hn; clear hn; go_wp2_with (first
       | (go_at_call 103
          refine Calls.mono (HCP.out _) ?_; rw [hP]; rintro e w' ⟨rfl, rfl⟩))
      go_roundw
      case rel =>
       refine ⟨k + 1, by omega, by go_num, ?_, HO.out.2.1⟩; rw [HO.out.2.2, HN.out]
       simpa using HO.out.1
      case measure => simp [intOf]; omega
    | true =>
      cases hA : Lib.atoiAll (restB s).data.toList with
      | ok v =>
        have HA := Tryz.strconv_Atoi_ok (restB s) (by omega) v hA; have HAA : Hid _ := HA; clear HA; by_cases hF : fileB logB v = s
        · have hbq : ((fileB logB v).toList == s.toList) = true := by rw [hF]; simp
          have hn : numOf s = some v := by unfold numOf; rw [hP, hA]; simp [hF]
          have HN : Hid _ := hn; have HF : Hid (fileB logB v = s) := hF; clear hn hF hA; go_wp2_with (first
           | (go_at_call 103
              refine Calls.mono (HCP.out _) ?_; rw [hP]; rintro e w' ⟨rfl, rfl⟩)
           | (go_at_call 104
              refine Calls.mono (HAA.out _) ?_; rintro e w2 ⟨rfl, hw2⟩; have H2 : Hid (Below w'.heap.size w' w2) := (by
               rcases hw2 with rfl | ⟨t, rfl⟩
               · exact Below.refl _ _
               · exact Lib.bytesWorld_below _ _ _)
              clear hw2)
           | (go_at_call 90
              refine Calls.mono (file_any ((HV.out.1.below HO.out.2.1).below H2.out) logB (by decide) v) ?_; rintro e w3 ⟨rfl, hb3⟩; have H3 : Hid (w3.ownsRow w.heap.size 3 1 (.slice oa NN.length ocap) NN.length (vI NN) ∧ Below w.heap.size w w3) := ⟨ownsRow_below (ownsRow_below HO.out.1 H2.out) hb3, (HO.out.2.1.trans (H2.out.mono HO.out.2.1.size)).trans (hb3.mono (Nat.le_trans HO.out.2.1.size H2.out.size))⟩
              clear hb3)
           | (at_builtin
              have hB := heap_alloc_new w3 (.cells #[.int .i64 v] 3); refine wpList_append_i rfl _ _ rfl w.heap.size (.slice oa NN.length ocap) NN v rfl (H3.out.1.alloc _) w3.heap.size hB rfl (by omega) (by have := H3.out.2.size; simp; omega) ?_; intro v4 w4 ho hg ha; have H4 : Hid (w4.ownsRow w.heap.size 3 1 v4 (NN ++ [v]).length (vI (NN ++ [v])) ∧ Below w.heap.size w w4) := ⟨ho, (H3.out.2.alloc H3.out.2.size _).grown hg (by have := H3.out.2.size; simp; omega) (fun j hj => (H3.out.1.lt j hj).1)⟩
              clear ho hg ha hB))
          go_roundw
          case rel =>
           refine ⟨k + 1, by omega, by go_num, ?_, H4.out.2⟩; rw [HO.out.2.2, HN.out]; exact H4.out.1
          case measure => simp [intOf]; omega
        · have hbq : ((fileB logB v).toList == s.toList) = false := by rw [eqS]; simpa using hF
          have hn : numOf s = none := by unfold numOf; rw [hP, hA]; simp [hF]
          have HN : Hid _ := hn; clear hn hA; go_wp2_with (first
           | (go_at_call 103
              refine Calls.mono (HCP.out _) ?_; rw [hP]; rintro e w' ⟨rfl, rfl⟩)
           | (go_at_call 104
              refine Calls.mono (HAA.out _) ?_; rintro e w2 ⟨rfl, hw2⟩; have H2 : Hid (Below w'.heap.size w' w2) := (by
               rcases hw2 with rfl | ⟨t, rfl⟩
               · exact Below.refl _ _
               · exact Lib.bytesWorld_below _ _ _)
              clear hw2)
           | (go_at_call 90
              refine Calls.mono (file_any ((HV.out.1.below HO.out.2.1).below H2.out) logB (by decide) v) ?_; rintro e w3 ⟨rfl, hb3⟩; have H3 : Hid (w3.ownsRow w.heap.size 3 1 (.slice oa NN.length ocap) NN.length (vI NN) ∧ Below w.heap.size w w3) := ⟨ownsRow_below (ownsRow_below HO.out.1 H2.out) hb3, (HO.out.2.1.trans (H2.out.mono HO.out.2.1.size)).trans (hb3.mono (Nat.le_trans HO.out.2.1.size H2.out.size))⟩
              clear hb3))
          go_roundw
          case rel =>
           refine ⟨k + 1, by omega, by go_num, ?_, H3.out.2⟩; rw [HO.out.2.2, HN.out]
           simpa using H3.out.1
          case measure => simp [intOf]; omega
      | «syntax» =>
        have hn : numOf s = none := by unfold numOf; rw [hP, hA]; simp
        have HN : Hid _ := hn; have HAA : Hid (Lib.atoiAll (restB s).data.toList = .«syntax») := hA; clear hn hA; go_wp2_with (first
         | (go_at_call 103
            refine Calls.mono (HCP.out _) ?_; rw [hP]; rintro e w' ⟨rfl, rfl⟩)
         | (go_at_call 104
            obtain ⟨tp, p, hvar⟩ := (HV.out.1.below HO.out.2.1).syn; refine Calls.mono (Tryz.strconv_Atoi_syntax_var (restB s) (by omega) HAA.out tp p _ hvar) ?_; rintro e w2 ⟨N2, rfl, _, _, hw2⟩; have H3 : Hid (w2.ownsRow w.heap.size 3 1 (.slice oa NN.length ocap) NN.length (vI NN) ∧ Below w.heap.size w w2) := ⟨ownsRow_below HO.out.1 hw2, HO.out.2.1.trans (hw2.mono HO.out.2.1.size)⟩
            clear hw2))
        go_roundw
        case rel =>
         refine ⟨k + 1, by omega, by go_num, ?_, H3.out.2⟩; rw [HO.out.2.2, HN.out]
         simpa using H3.out.1
        case measure => simp [intOf]; omega
      | range =>
        have hn : numOf s = none := by unfold numOf; rw [hP, hA]; simp
        have HN : Hid _ := hn; have HAA : Hid (Lib.atoiAll (restB s).data.toList = .range) := hA; clear hn hA; go_wp2_with (first
         | (go_at_call 103
            refine Calls.mono (HCP.out _) ?_; rw [hP]; rintro e w' ⟨rfl, rfl⟩)
         | (go_at_call 104
            obtain ⟨tp, p, hvar⟩ := (HV.out.1.below HO.out.2.1).ran; refine Calls.mono (Tryz.strconv_Atoi_range_var (restB s) (by omega) HAA.out tp p _ hvar) ?_; rintro e w2 ⟨N2, rfl, _, _, hw2⟩; have H3 : Hid (w2.ownsRow w.heap.size 3 1 (.slice oa NN.length ocap) NN.length (vI NN) ∧ Below w.heap.size w w2) := ⟨ownsRow_below HO.out.1 hw2, HO.out.2.1.trans (hw2.mono HO.out.2.1.size)⟩
            clear hw2))
        go_roundw
        case rel =>
         refine ⟨k + 1, by omega, by go_num, ?_, H3.out.2⟩; rw [HO.out.2.2, HN.out]
         simpa using H3.out.1
        case measure => simp [intOf]; omega
  · have hki : decide ((k : Int) < l.length) = false := by simp; omega
    obtain rfl : k = l.length := by omega
    rw [List.take_length] at *; have HO : Hid (wr.ownsRow w.heap.size 3 1 (.slice oa (numsOf l).length ocap) (numsOf l).length (vI (numsOf l)) ∧ Below w.heap.size w wr) := ⟨hown, hb⟩
    clear hown hb; generalize hNN : (numsOf l) = NN at *; have HNN : Hid (numsOf l = NN) := hNN; clear hNN; go_wp2_with (first
     | (go_at_call 105
        refine Calls.mono (sortI HO.out.1 (by omega)) ?_; rintro e w2 ⟨rfl, ho, hg⟩; have H2 : Hid (w2.ownsRow w.heap.size 3 1 (.slice oa NN.length ocap) NN.length (vI (srtI NN)) ∧ Below w.heap.size w w2) := ⟨ho, HO.out.2.grown hg HO.out.2.size (fun j hj => (HO.out.1.lt j hj).1)⟩
        clear ho hg))
    go_ret; rw [HNN.out]
    exact ⟨_, rfl, H2.out⟩
/-- What lies beside a disk stays, and is none of the log's. -/
structure OFr (w w' : World) (S S' : DS) (L' : LS) : Prop where
 os : w'.os = w.os
 tape : w'.tape = w.tape
 output : w'.output = w.output
 size : w.heap.size ≤ w'.heap.size
 block : ∀ b, b < w.heap.size → S.role b = .none → w'.heap[b]? = w.heap[b]?
 off : ∀ b, b < w.heap.size → S.role b = .none → S'.role b = .none ∧ L'.own b = 0
theorem OFr.f3 {w w' w2 : World} {S S' S2 : DS} {L' L2 : LS} (h : OFr w w' S S' L') (k : F3 w' w2 S' L' S2 L2) : OFr w w2 S S2 L2 :=
 ⟨k.os.trans h.os, k.tape.trans h.tape, k.output.trans h.output, Nat.le_trans h.size k.size,
  fun b hb h1 => (k.block b (Nat.lt_of_lt_of_le hb h.size) (h.off b hb h1).1 (h.off b hb h1).2).trans (h.block b hb h1),
  fun b hb h1 => k.off b (Nat.lt_of_lt_of_le hb h.size) (h.off b hb h1).1 (h.off b hb h1).2⟩
def newL (bd : Nat) (most : Int) (x : Nat) : LS := ⟨bd, logB, most, .slice none 0 0, [], .slice none 0 0, [], 0, false, fun b => if b = x then 1 else 0⟩
theorem open_new {w : World} {bd : Nat} {S : DS} {ro : Int} (hD : DiskIs w bd S) (hG : GB S ro) (hV : Vars w) (hvo : ∀ b, b < 5 → S.role b = .none) (most : Int) :
 DL (w.alloc (.cells (lC (newL bd most w.heap.size)) 141)) bd w.heap.size S (newL bd most w.heap.size) ro ∧ OFr w (w.alloc (.cells (lC (newL bd most w.heap.size)) 141)) S S (newL bd most w.heap.size) := by
 have hb : Below w.heap.size w (w.alloc (.cells (lC (newL bd most w.heap.size)) 141)) := by go_grown
 have hvl := hV.lt; refine ⟨⟨hD.below hb, hG, ⟨heap_alloc_new _ _, if_pos rfl, World.ownsRow_nil _ _ _ _, fun b hb' => (by cases hb'), World.ownsRow_nil _ _ _ _, fun b hb' => (by cases hb'), fun p hp => (by cases hp), fun p hp => (by cases hp), fun b hb' => if_neg (fun e => by rw [e] at hb'; simp at hb'; omega)⟩, rfl, fun b hb' => ?_, hV.below hb, fun b hb' => ⟨hvo b hb', if_neg (by omega)⟩⟩, ⟨rfl, rfl, rfl, hb.size, fun b h1 _ => hb.block b h1, fun b h1 h2 => ⟨h2, if_neg (by omega)⟩⟩⟩; have : b = w.heap.size := by
  by_cases e : b = w.heap.size
  · exact e
  · exact absurd (if_neg e) hb'
 rw [this]; exact hD.fresh _ (Nat.le_refl _)
def nmS (l : List Tf) : List ByteArray := l.map fun p => ⟨p.1.toArray⟩
theorem wlist_v {w : World} {bd : Nat} {S : DS} {ro : Int} (h : DiskIs w bd S) (hG : GB S ro) (hd : S.down = false) : Calls Tryz.prog 73 #[.pointer (some ⟨bd, 0, none⟩)] w fun e w' => ∃ v, e = .returned v ∧ StrV w' v (nmS (absP S)) ∧ Below w.heap.size w w' := by
 refine (list_up h hd (by have := hG.wf.len; unfold absP at this; rw [List.length_map] at this; omega)).mono ?_; rintro e w' ⟨v, ss, rfl, hp, ho, _, hb⟩; rw [names_sorted h hp] at ho; have hl : ss.length = (nmS (absP S)).length := by
  have h1 := hp.length_eq; simp only [nmS, absP, List.length_map] at h1 ⊢; omega
 have e3 : (S.fs.map (·.1)).map encStr = (nmS (absP S)).map Value.string := by
  simp only [nmS, absP, List.map_map]; rfl
 rw [e3, hl] at ho; exact ⟨v, rfl, StrV.of_own ho, hb⟩
/-- What load gives of a log's only file. -/
def LdR (S : DS) (L' : LS) (n most c : Int) (S' : DS) : Prop :=
    ((¬ (dRead (absD S) (fileB logB n)).1 = 0 ∧ c = (dRead (absD S) (fileB logB n)).1 ∧ absD S' = (dRead (absD S) (fileB logB n)).2) ∨
     ((dRead (absD S) (fileB logB n)).1 = 0 ∧ ((c = 34 ∧ absD S' = (dRead (absD S) (fileB logB n)).2 ∧ ∃ k rs, Took (dBytes (absD S) (fileB logB n)) k rs ∧ k < (dBytes (absD S) (fileB logB n)).length ∧ (nx ((dBytes (absD S) (fileB logB n)).drop k)).1 ≠ 0 ∧ ¬ ((nx ((dBytes (absD S) (fileB logB n)).drop k)).1 = 10 ∧ true = true)) ∨ ∃ k rs, Took (dBytes (absD S) (fileB logB n)) k rs ∧ (absL L' = ⟨[n], rs, k, false, most⟩ ∧ L'.nm = logB) ∧ ((k = (dBytes (absD S) (fileB logB n)).length ∧ c = 0 ∧ absD S' = (dRead (absD S) (fileB logB n)).2) ∨ (k < (dBytes (absD S) (fileB logB n)).length ∧ (nx ((dBytes (absD S) (fileB logB n)).drop k)).1 = 10 ∧ true = true ∧ c = (dTru (dRead (absD S) (fileB logB n)).2 (fileB logB n) k).1 ∧ absD S' = (dTru (dRead (absD S) (fileB logB n)).2 (fileB logB n) k).2)))))
theorem load_one {w : World} {bd : Nat} {S : DS} {ro : Int} {x : Nat} {most : Int} (hI : LdIn w bd x S (newL bd most x) ro) (n : Int) : Calls Tryz.prog 74 #[.pointer (some ⟨x, 0, none⟩), .int .i64 n, .bool true] w fun e w' => ∃ c S' L', e = .returned (.int .i64 c) ∧ DL w' bd x S' L' ro ∧ F3 w w' S (newL bd most x) S' L' ∧ LdR S L' n most c S' := by
 by_cases he : (dRead (absD S) (fileB logB n)).1 = 0
 · refine (load_first hI n true he rfl).mono ?_
   rintro e w' ⟨c, S', L', rfl, h1, h2, h3⟩; refine ⟨c, S', L', rfl, h1, h2, Or.inr ⟨he, ?_⟩⟩; rcases h3 with h3 | ⟨k, rs, h4, ⟨h5, h6⟩, h7⟩
   · exact Or.inl h3
   · exact Or.inr ⟨k, rs, h4, ⟨h5, h6⟩, h7⟩
 · refine (load_err hI n true he).mono ?_
   rintro e w' ⟨c, S', L', rfl, h1, h2, h3, h4⟩; exact ⟨c, S', L', rfl, h1, h2, Or.inl ⟨he, h3, h4⟩⟩
/-- What Open gives of a log with one file, or none. -/
def OpR (w w' : World) (bd : Nat) (S : DS) (ro most : Int) (e : Ending) : Prop :=
 (numsOf (nmS (absP S)) = [] ∧ ∃ bl L, e = .returned (.tuple #[.pointer (some ⟨bl, 0, none⟩), .int .i64 0]) ∧ DL w' bd bl S L ro ∧ OFr w w' S S L ∧ absL L = ⟨[], [], 0, false, most⟩ ∧ L.nm = logB) ∨
 ∃ n c bl S' L', numsOf (nmS (absP S)) = [n] ∧ e = .returned (.tuple #[if c = 0 then .pointer (some ⟨bl, 0, none⟩) else .pointer none, .int .i64 c]) ∧ DL w' bd bl S' L' ro ∧ OFr w w' S S' L' ∧ LdR S L' n most c S'
theorem newL_ln (bd : Nat) (most : Int) (x : Nat) : LN (newL bd most x) := by
 unfold LN newL; simp
theorem srtI_one (n : Int) : srtI [n] = [n] := by simp [srtI]
theorem srtI_nil : srtI [] = [] := by simp [srtI]
set_option maxRecDepth 100000 in
set_option maxHeartbeats 8000000 in
theorem open_zero {w : World} {bd : Nat} {S : DS} {ro : Int} (hD : DiskIs w bd S) (hG : GB S ro) (hV : Vars w) (hvo : ∀ b, b < 5 → S.role b = .none) (hdn : S.down = false) (hst : S.steps < 4611686018427387900) (hnm : ∀ s ∈ nmS (absP S), s.size ≤ 1000) (most : Int) (hm : 1 ≤ most) (hnum : numsOf (nmS (absP S)) = []) :
 Calls Tryz.prog 40 #[.pointer (some ⟨bd, 0, none⟩), .string logB, .int .i64 most] w fun e w' => OpR w w' bd S ro most e := by
 obtain ⟨q1, q2⟩ := open_new hD hG hV hvo most; have HN : Hid (DL (w.alloc (.cells #[.pointer (some ⟨bd, 0, none⟩), .string logB, .int .i64 most, .slice none 0 0, .slice none 0 0, .int .i64 0, .bool false] 141)) bd w.heap.size S (newL bd most w.heap.size) ro ∧ OFr w (w.alloc (.cells #[.pointer (some ⟨bd, 0, none⟩), .string logB, .int .i64 most, .slice none 0 0, .slice none 0 0, .int .i64 0, .bool false] 141)) S S (newL bd most w.heap.size)) := ⟨q1, q2⟩
 have hdown := down_any hD; rw [hdn] at hdown; have HD : Hid _ := hdown; have HS : Hid (S.down = false ∧ S.steps < 4611686018427387900 ∧ (∀ s ∈ nmS (absP S), s.size ≤ 1000) ∧ (nmS (absP S)).length ≤ 1000) := ⟨hdn, hst, hnm, by have := hG.wf.len; simp only [nmS, List.length_map]; omega⟩
 have hwn : wnameB logB = true := by decide
 have HW : Hid _ := hwn; have hm1 : decide (most < 1) = false := by simp; omega
 have HNUM : Hid _ := hnum; clear q1 q2 hD hG hV hvo hdown hdn hst hnm hwn hnum; go_enter Tryz.func40, Tryz.ntmps40; go_wp2_with (first
  | (go_at_call 70
     refine Calls.mono (wname_any logB (by decide) _) ?_; rw [HW.out]; rintro e w1 ⟨rfl, hw1⟩; obtain rfl := hw1.symm)
  | (go_at_call 71
     refine Calls.mono HD.out ?_; rintro e w1 ⟨rfl, hw1⟩; obtain rfl := hw1.symm)
  | (go_at_call 73
     refine Calls.mono (wlist_v HN.out.1.disk HN.out.1.gb HS.out.1) ?_; rintro e w2 ⟨v2, rfl, hs2, hb2⟩; have H2 : Hid (DL w2 bd w.heap.size S (newL bd most w.heap.size) ro ∧ OFr w w2 S S (newL bd most w.heap.size) ∧ StrV w2 v2 (nmS (absP S))) := ⟨HN.out.1.below hb2, HN.out.2.f3 (F3.below hb2), hs2⟩
     clear hs2 hb2)
  | (go_at_call 72
     refine Calls.mono (fnums_any H2.out.1.vars H2.out.2.2 HS.out.2.2.2 HS.out.2.2.1) ?_; rintro e w3 ⟨v3, rfl, ho3, hb3⟩; rw [HNUM.out] at ho3; have H3 : Hid (DL w3 bd w.heap.size S (newL bd most w.heap.size) ro ∧ OFr w w3 S S (newL bd most w.heap.size) ∧ w3.ownsRow w2.heap.size 3 1 v3 _ _) := ⟨H2.out.1.below hb3, H2.out.2.1.f3 (F3.below hb3), ho3⟩
     obtain ⟨a3, k3, hv3⟩ := row_form ho3; subst hv3; clear hb3))
 clear ho3; go_loopw [35] (fun i wr => i = .int .i64 0 ∧ wr = w3) (fun _ _ => 0)
 case atStart => exact ⟨rfl, rfl⟩
 case round =>
  obtain ⟨rfl, rfl⟩ := hrel; go_wp2; go_returns; exact Or.inl ⟨HNUM.out, w.heap.size, _, rfl, H3.out.1, H3.out.2.1, rfl, rfl⟩
set_option maxRecDepth 100000 in
set_option maxHeartbeats 8000000 in
theorem open_one {w : World} {bd : Nat} {S : DS} {ro : Int} (hD : DiskIs w bd S) (hG : GB S ro) (hV : Vars w) (hvo : ∀ b, b < 5 → S.role b = .none) (hdn : S.down = false) (hst : S.steps < 4611686018427387900) (hnm : ∀ s ∈ nmS (absP S), s.size ≤ 1000) (most : Int) (hm : 1 ≤ most) {n : Int} (hnum : numsOf (nmS (absP S)) = [n]) :
 Calls Tryz.prog 40 #[.pointer (some ⟨bd, 0, none⟩), .string logB, .int .i64 most] w fun e w' => OpR w w' bd S ro most e := by
 obtain ⟨q1, q2⟩ := open_new hD hG hV hvo most; have HN : Hid (DL (w.alloc (.cells #[.pointer (some ⟨bd, 0, none⟩), .string logB, .int .i64 most, .slice none 0 0, .slice none 0 0, .int .i64 0, .bool false] 141)) bd w.heap.size S (newL bd most w.heap.size) ro ∧ OFr w (w.alloc (.cells #[.pointer (some ⟨bd, 0, none⟩), .string logB, .int .i64 most, .slice none 0 0, .slice none 0 0, .int .i64 0, .bool false] 141)) S S (newL bd most w.heap.size)) := ⟨q1, q2⟩
 have hdown := down_any hD; rw [hdn] at hdown; have HD : Hid _ := hdown; have HS : Hid (S.down = false ∧ S.steps < 4611686018427387900 ∧ (∀ s ∈ nmS (absP S), s.size ≤ 1000) ∧ (nmS (absP S)).length ≤ 1000) := ⟨hdn, hst, hnm, by have := hG.wf.len; simp only [nmS, List.length_map]; omega⟩
 have hwn : wnameB logB = true := by decide
 have HW : Hid _ := hwn; have hm1 : decide (most < 1) = false := by simp; omega
 have HNUM : Hid _ := hnum; clear q1 q2 hD hG hV hvo hdown hdn hst hnm hwn hnum; go_enter Tryz.func40, Tryz.ntmps40; go_wp2_with (first
  | (go_at_call 70
     refine Calls.mono (wname_any logB (by decide) _) ?_; rw [HW.out]; rintro e w1 ⟨rfl, hw1⟩; obtain rfl := hw1.symm)
  | (go_at_call 71
     refine Calls.mono HD.out ?_; rintro e w1 ⟨rfl, hw1⟩; obtain rfl := hw1.symm)
  | (go_at_call 73
     refine Calls.mono (wlist_v HN.out.1.disk HN.out.1.gb HS.out.1) ?_; rintro e w2 ⟨v2, rfl, hs2, hb2⟩; have H2 : Hid (DL w2 bd w.heap.size S (newL bd most w.heap.size) ro ∧ OFr w w2 S S (newL bd most w.heap.size) ∧ StrV w2 v2 (nmS (absP S))) := ⟨HN.out.1.below hb2, HN.out.2.f3 (F3.below hb2), hs2⟩
     clear hs2 hb2)
  | (go_at_call 72
     refine Calls.mono (fnums_any H2.out.1.vars H2.out.2.2 HS.out.2.2.2 HS.out.2.2.1) ?_; rintro e w3 ⟨v3, rfl, ho3, hb3⟩; rw [HNUM.out] at ho3; have H3 : Hid (DL w3 bd w.heap.size S (newL bd most w.heap.size) ro ∧ OFr w w3 S S (newL bd most w.heap.size) ∧ w3.ownsRow w2.heap.size 3 1 v3 _ _) := ⟨H2.out.1.below hb3, H2.out.2.1.f3 (F3.below hb3), ho3⟩
     obtain ⟨a3, k3, hv3⟩ := row_form ho3; subst hv3; clear hb3))
 rw [srtI_one] at ho3; have hcell : ∃ g, a3 = some ⟨g, 0, none⟩ ∧ w3.cell? ⟨g, 0, none⟩ = some (.int .i64 n) := by
  rcases ho3.2 with ⟨_, h0⟩ | ⟨g, cap, cur, e, _⟩
  · simp at h0
  · injection e with e1 _ _
    have h0 := ho3.cells (g := g) (by rw [e1]; rfl) 0 (.int .i64 n) rfl; rw [Addr.add_lit] at h0; exact ⟨g, e1, h0⟩
 obtain ⟨g3, rfl, c3⟩ := hcell; have hlt3 : g3 < w3.heap.size := cell_lt c3; have H3b : Hid (DL w3 bd w.heap.size S (newL bd most w.heap.size) ro ∧ OFr w w3 S S (newL bd most w.heap.size)) := ⟨H3.out.1, H3.out.2.1⟩
 clear ho3 H3; go_loopw [35] (fun i wr => (i = .int .i64 0 ∧ wr = w3) ∨ (i = .int .i64 1 ∧ OpR w wr bd S ro most (.returned (.tuple #[.pointer (some ⟨w.heap.size, 0, none⟩), .int .i64 0])))) (fun i _ => 1 - (intOf i).toNat)
 case atStart => exact Or.inl ⟨rfl, rfl⟩
 case round =>
  rcases hrel with ⟨rfl, rfl⟩ | ⟨rfl, hop⟩
  · have hI : LdIn wr bd w.heap.size S (newL bd most w.heap.size) ro := ⟨H3b.out.1, rfl, newL_ln _ _ _, Nat.zero_le _, Nat.zero_le _, HS.out.2.1⟩
    have hL := load_one hI n; have HL : Hid _ := hL; clear hI hL; go_wp2_with (first
     | (go_at_call 74
        refine Calls.mono HL.out ?_; rintro e w4 ⟨c, S4, L4, rfl, hd4, hf4, hcc⟩; have H4 : Hid (DL w4 bd w.heap.size S4 L4 ro ∧ OFr w w4 S S4 L4 ∧ LdR S L4 n most c S4) := ⟨hd4, H3b.out.2.f3 hf4, hcc⟩
        clear hd4 hf4 hcc))
    · rename_i hc
      have hc0 : ¬ c = 0 := by simpa using hc
      go_returns
      exact Or.inr ⟨n, c, w.heap.size, S4, L4, HNUM.out, by rw [if_neg hc0]; rfl, H4.out.1, H4.out.2.1, H4.out.2.2⟩
    · rename_i hc
      have hc0 : c = 0 := by simpa using hc
      refine ⟨Or.inr ⟨rfl, Or.inr ⟨n, c, w.heap.size, S4, L4, HNUM.out, by rw [if_pos hc0, hc0], H4.out.1, H4.out.2.1, H4.out.2.2⟩⟩, ?_⟩; simp [intOf]
  · have HOP : Hid (OpR w wr bd S ro most (.returned (.tuple #[.pointer (some ⟨w.heap.size, 0, none⟩), .int .i64 0]))) := hop
    clear hop; go_wp2; go_returns; exact HOP.out
end Go.Proofs.YtconkienlcegaaaGreatDoor
