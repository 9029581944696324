/- WU1, WU2, WU3, WU5, WV0, WU4 -/
import Derived.Test.YtconkienlcegaaaGreatDoorGWO
import Derived.Test.YtconkienlcegaaaGreatDoorGWC
namespace Go.Proofs.YtconkienlcegaaaGreatDoor
open Go.RowKit Go.Maps Go.Joins Go.Sort
set_option linter.unusedSimpArgs false
set_option linter.unusedVariables false
theorem numOf_bd {s : ByteArray} {v : Int} (h : numOf s = some v) : 0 ≤ v ∧ v < 1000000000 := by
 unfold numOf at h; split at h
 · rename_i hp
   split at h
   · split at h
     · rename_i v' _ hf
       injection h with h
       subst h; by_cases hb : v' < 0 ∨ 1000000000 ≤ v'
       · have : fileB logB v' = ByteArray.empty := if_pos hb
         rw [this] at hf; rw [← hf] at hp; exact absurd hp (by decide)
       · omega
     · cases h
   · cases h
 · cases h
theorem numsOf_bd {l : List ByteArray} {v : Int} (h : v ∈ numsOf l) : 0 ≤ v ∧ v < 1000000000 := by
 obtain ⟨s, _, hs⟩ := List.mem_filterMap.1 h; exact numOf_bd hs
theorem srtI_mem {l : List Int} {v : Int} (h : v ∈ srtI l) : v ∈ l := by
 unfold srtI at h; exact (List.mem_mergeSort).1 h
/-- What Open makes of the numbers that are left. -/
def OpX (A : DA) (P : PL) : List Int → Int → DA → PL → Prop
 | [], c, A', P' => c = 0 ∧ A' = A ∧ P' = P
 | n :: r, c, A', P' => ∃ c1 A1 P1, LdX A P n r.isEmpty c1 A1 P1 ∧ ((c1 ≠ 0 ∧ c = c1 ∧ A' = A1) ∨ (c1 = 0 ∧ OpX A1 P1 r c A' P'))
theorem ldx_steps {A A' : DA} {P P' : PL} {n c : Int} {last : Bool} (h : LdX A P n last c A' P') : A'.steps ≤ A.steps + 2 := by
 have r1 : (dRead A (fileB logB n)).2.steps ≤ A.steps + 1 := by
  unfold dRead dDo DA.sS; dsimp only; split
  · omega
  · split <;> (try dsimp only) <;> omega
 have r2 : ∀ k : Int, (dTru (dRead A (fileB logB n)).2 (fileB logB n) k).2.steps ≤ A.steps + 2 := by
  intro k; unfold dTru dDo; dsimp only; generalize (dRead A (fileB logB n)).2 = B at r1 ⊢; unfold DA.sS; split
  · omega
  · split <;> (try dsimp only) <;> omega
 rcases h with ⟨_, _, rfl⟩ | ⟨_, ⟨_, _, _, rfl⟩ | ⟨_, ⟨_, rfl, _⟩ | ⟨k, rs, _, _, ⟨_, _, rfl⟩ | ⟨_, _, _, _, rfl⟩⟩⟩⟩
 · omega
 · omega
 · omega
 · omega
 · exact r2 k
theorem ldx_grow {A A' : DA} {P P' : PL} {n c : Int} {last : Bool} (h : LdX A P n last c A' P') (hc : c = 0) (hb : (dBytes A (fileB logB n)).length ≤ 1073741824) : P'.fs = P.fs ++ [n] ∧ P'.rs.length ≤ P.rs.length + 1073741824 ∧ P'.most = P.most := by
 rcases h with ⟨h1, h2, _⟩ | ⟨_, ⟨_, _, h2, _⟩ | ⟨_, ⟨h2, _⟩ | ⟨k, rs, ht, rfl, _⟩⟩⟩
 · exact absurd (h2.symm.trans hc) h1
 · rw [hc] at h2; exact absurd h2 (by decide)
 · rw [hc] at h2; exact absurd h2 (by decide)
 · have := ht.le
   refine ⟨rfl, ?_, rfl⟩; rw [List.length_append]; omega
/-- What Open gives. -/
def OpZ (w w' : World) (bd : Nat) (S : DS) (ro most : Int) (e : Ending) : Prop :=
 ∃ c bl S' L', e = .returned (.tuple #[if c = 0 then .pointer (some ⟨bl, 0, none⟩) else .pointer none, .int .i64 c]) ∧ DL w' bd bl S' L' ro ∧ OFr w w' S S' L' ∧ OpX (absD S) ⟨[], [], 0, false, most⟩ (srtI (numsOf (nmS (absP S)))) c (absD S') (absL L') ∧ (c = 0 → L'.nm = logB ∧ LN L')
/-- Behind k of the numbers. -/
structure OpI (w wr : World) (bd x g : Nat) (S : DS) (ro most : Int) (ns : List Int) (k : Nat) (S1 : DS) (L1 : LS) : Prop where
 dl : DL wr bd x S1 L1 ro
 fr : OFr w wr S S1 L1
 nm : L1.nm = logB
 fs : L1.fs = ns.take k
 rs : L1.rs.length ≤ k * 1073741824
 st : S1.steps ≤ S.steps + 2 * k
 off : S1.role g = .none ∧ L1.own g = 0
 row : ∀ (j : Nat) (x : Int), ns[j]? = some x → wr.cell? ⟨g, j, none⟩ = some (.int .i64 x)
 go : ∀ c A' P', OpX (absD S1) (absL L1) (ns.drop k) c A' P' → OpX (absD S) ⟨[], [], 0, false, most⟩ ns c A' P'
theorem OpI.ldin {w wr : World} {bd x g : Nat} {S : DS} {ro most : Int} {ns : List Int} {k : Nat} {S1 : DS} {L1 : LS} (h : OpI w wr bd x g S ro most ns k S1 L1) (hk : k < ns.length) (hl : ns.length ≤ 16) (hb : ∀ v ∈ ns, 0 ≤ v ∧ v < 1000000000) (hs : S.steps < 4611686018427387800) : LdIn wr bd x S1 L1 ro := by
 have h1 := h.rs; have h2 := h.st; refine ⟨h.dl, h.nm, ⟨fun v hv => hb v ?_, by omega⟩, ?_, by omega, by omega⟩
 · rw [h.fs] at hv
   exact List.mem_of_mem_take hv
 · rw [h.fs, List.length_take]
   omega
theorem OpI.next {w wr w4 : World} {bd x g : Nat} {S : DS} {ro most : Int} {ns : List Int} {k : Nat} {S1 S4 : DS} {L1 L4 : LS} (h : OpI w wr bd x g S ro most ns k S1 L1) {n : Int} (hn : ns[k]? = some n) (hd : DL w4 bd x S4 L4 ro) (hf : F3 wr w4 S1 L1 S4 L4) (hx : LdX (absD S1) (absL L1) n (ns.drop (k + 1)).isEmpty 0 (absD S4) (absL L4)) (hnm : L4.nm = logB) (hg : g < wr.heap.size) : OpI w w4 bd x g S ro most ns (k + 1) S4 L4 := by
 obtain ⟨g1, g2, _⟩ := ldx_grow hx rfl (dBytes_len h.dl.gb _); have hlen : (absL L1).rs.length = L1.rs.length := by simp [absL]
 have hlen4 : (absL L4).rs.length = L4.rs.length := by simp [absL]
 have hst := ldx_steps hx; have e1 : (absD S4).steps = S4.steps := rfl; have e2 : (absD S1).steps = S1.steps := rfl; have h1 := h.rs; have h2 := h.st; have hkl := (List.getElem?_eq_some_iff.1 hn).1; refine ⟨hd, h.fr.f3 hf, hnm, ?_, by omega, by omega, hf.off g hg h.off.1 h.off.2, fun j v hj => ?_, fun c A' P' ho => ?_⟩
 · rw [List.take_add_one, hn]
   show (absL L4).fs = _; rw [g1]; show L1.fs ++ [n] = _; rw [h.fs]; rfl
 · exact (World.cell?_of_block (a := ⟨g, j, none⟩) (hf.block g hg h.off.1 h.off.2)).trans (h.row j v hj)
 · refine h.go c A' P' ?_
   have hd2 : ns.drop k = n :: ns.drop (k + 1) := by
    rw [List.drop_eq_getElem_cons hkl]; rw [List.getElem?_eq_getElem hkl] at hn; injection hn with hn
    rw [hn]
   rw [hd2]; exact ⟨0, _, _, hx, Or.inr ⟨rfl, ho⟩⟩
theorem OpI.drops {ns : List Int} {k : Nat} {n : Int} (hn : ns[k]? = some n) : ns.drop k = n :: ns.drop (k + 1) := by
 have hkl := (List.getElem?_eq_some_iff.1 hn).1; rw [List.drop_eq_getElem_cons hkl]; rw [List.getElem?_eq_getElem hkl] at hn; injection hn with hn
 rw [hn]
theorem open_any0 {w : World} {bd : Nat} {S : DS} {ro : Int} (hD : DiskIs w bd S) (hG : GB S ro) (hV : Vars w) (hvo : ∀ b, b < 5 → S.role b = .none) (hdn : S.down = false) (hst : S.steps < 4611686018427387800) (hnm : ∀ s ∈ nmS (absP S), s.size ≤ 1000) (most : Int) (hm : 1 ≤ most) (hnum : numsOf (nmS (absP S)) = []) :
 Calls Tryz.prog 40 #[.pointer (some ⟨bd, 0, none⟩), .string logB, .int .i64 most] w fun e w' => OpZ w w' bd S ro most e := by
 refine (open_zero hD hG hV hvo hdn (by omega) hnm most hm hnum).mono ?_; rintro e w' (⟨_, bl, L, rfl, hdl, hof, hp, hn⟩ | ⟨n, c, bl, S', L', hne, _⟩)
 · refine ⟨0, bl, S, L, by rw [if_pos rfl], hdl, hof, ?_, fun _ => ⟨hn, ?_⟩⟩
   · rw [hnum, srtI_nil, hp]
     exact ⟨rfl, rfl, rfl⟩
   · have e1 : L.fs = [] := congrArg PL.fs hp
     have e2 : (absL L).rs = [] := congrArg PL.rs hp; have e3 : L.rs = [] := by simpa [absL] using e2
     unfold LN; rw [e1, e3]; simp
 · rw [hnum] at hne
   cases hne
set_option maxRecDepth 100000 in
set_option maxHeartbeats 8000000 in
theorem open_any {w : World} {bd : Nat} {S : DS} {ro : Int} (hD : DiskIs w bd S) (hG : GB S ro) (hV : Vars w) (hvo : ∀ b, b < 5 → S.role b = .none) (hdn : S.down = false) (hst : S.steps < 4611686018427387800) (hnm : ∀ s ∈ nmS (absP S), s.size ≤ 1000) (most : Int) (hm : 1 ≤ most) :
 Calls Tryz.prog 40 #[.pointer (some ⟨bd, 0, none⟩), .string logB, .int .i64 most] w fun e w' => OpZ w w' bd S ro most e := by
 by_cases hnum : numsOf (nmS (absP S)) = []
 · exact open_any0 hD hG hV hvo hdn hst hnm most hm hnum
 obtain ⟨ns, hns⟩ : ∃ ns, ns = srtI (numsOf (nmS (absP S))) := ⟨_, rfl⟩
 have HNS : Hid (ns = srtI (numsOf (nmS (absP S)))) := hns; have hnl : ns.length ≤ 16 := by
  rw [hns, srtI_length]; have h1 := numsOf_length (nmS (absP S)); have h2 := hG.wf.len; have h3 : (nmS (absP S)).length = (absP S).length := by simp [nmS]
  omega
 have hn0 : 0 < ns.length := by
  rw [hns, srtI_length]; exact List.length_pos_iff.2 hnum
 have HLN : Hid ((numsOf (nmS (absP S))).length = ns.length) := (by show _ = _; rw [hns, srtI_length])
 have HST : Hid (S.steps < 4611686018427387800) := hst; have HB : Hid (∀ v ∈ ns, 0 ≤ v ∧ v < 1000000000) := fun v hv => numsOf_bd (srtI_mem (hns ▸ hv))
 clear hnum hns; obtain ⟨q1, q2⟩ := open_new hD hG hV hvo most; have HN : Hid (DL (w.alloc (.cells #[.pointer (some ⟨bd, 0, none⟩), .string logB, .int .i64 most, .slice none 0 0, .slice none 0 0, .int .i64 0, .bool false] 141)) bd w.heap.size S (newL bd most w.heap.size) ro ∧ OFr w (w.alloc (.cells #[.pointer (some ⟨bd, 0, none⟩), .string logB, .int .i64 most, .slice none 0 0, .slice none 0 0, .int .i64 0, .bool false] 141)) S S (newL bd most w.heap.size)) := ⟨q1, q2⟩
 have hdown := down_any hD; rw [hdn] at hdown; have HD : Hid _ := hdown; have HS : Hid (S.down = false ∧ S.steps < 4611686018427387900 ∧ (∀ s ∈ nmS (absP S), s.size ≤ 1000) ∧ (nmS (absP S)).length ≤ 1000) := ⟨hdn, by omega, hnm, by have := hG.wf.len; simp only [nmS, List.length_map]; omega⟩
 have hwn : wnameB logB = true := by decide
 have HW : Hid _ := hwn; have hm1 : decide (most < 1) = false := by simp; omega
 clear q1 q2 hD hG hV hvo hdown hdn hst hnm hwn; go_enter Tryz.func40, Tryz.ntmps40; go_wp2_with (first
  | (go_at_call 70
     refine Calls.mono (wname_any logB (by decide) _) ?_; rw [HW.out]; rintro e w1 ⟨rfl, hw1⟩; obtain rfl := hw1.symm)
  | (go_at_call 71
     refine Calls.mono HD.out ?_; rintro e w1 ⟨rfl, hw1⟩; obtain rfl := hw1.symm)
  | (go_at_call 73
     refine Calls.mono (wlist_v HN.out.1.disk HN.out.1.gb HS.out.1) ?_; rintro e w2 ⟨v2, rfl, hs2, hb2⟩; have H2 : Hid (DL w2 bd w.heap.size S (newL bd most w.heap.size) ro ∧ OFr w w2 S S (newL bd most w.heap.size) ∧ StrV w2 v2 (nmS (absP S))) := ⟨HN.out.1.below hb2, HN.out.2.f3 (F3.below hb2), hs2⟩
     clear hs2 hb2)
  | (go_at_call 72
     refine Calls.mono (fnums_any H2.out.1.vars H2.out.2.2 HS.out.2.2.2 HS.out.2.2.1) ?_; rintro e w3 ⟨v3, rfl, ho3, hb3⟩; rw [HLN.out, ← HNS.out] at ho3; have H3 : Hid (DL w3 bd w.heap.size S (newL bd most w.heap.size) ro ∧ OFr w w3 S S (newL bd most w.heap.size) ∧ w3.ownsRow w2.heap.size 3 1 v3 _ _) := ⟨H2.out.1.below hb3, H2.out.2.1.f3 (F3.below hb3), ho3⟩
     obtain ⟨a3, k3, hv3⟩ := row_form ho3; subst hv3; clear hb3))
 have hcell : ∃ g, a3 = some ⟨g, 0, none⟩ ∧ (w2.heap.size ≤ g ∧ g < w3.heap.size) ∧ ∀ (j : Nat) (x : Int), ns[j]? = some x → w3.cell? ⟨g, j, none⟩ = some (.int .i64 x) := by
  rcases id ho3.2 with ⟨_, h0⟩ | ⟨g, cap, cur, e, _⟩
  · exfalso
    have h9 : ns.length = 0 := by simpa [vI] using h0
    omega
  · injection e with e1 _ _
    refine ⟨g, e1, ho3.lt g (by rw [e1]; rfl), fun j x hj => ?_⟩; have h0 := ho3.cells (g := g) (by rw [e1]; rfl) j (.int .i64 x) (by unfold vI; rw [List.getElem?_map, hj]; rfl); rw [Addr.add_lit] at h0
    simpa using h0
 obtain ⟨g3, rfl, hg3, hrow3⟩ := hcell; have H0 : Hid (OpI w w3 bd w.heap.size g3 S ro most ns 0 S (newL bd most w.heap.size) ∧ g3 < w3.heap.size) := ⟨⟨H3.out.1, H3.out.2.1, rfl, by rw [List.take_zero]; rfl, Nat.zero_le _, by omega, ⟨H2.out.1.disk.fresh g3 hg3.1, H2.out.1.log.fresh g3 hg3.1⟩, hrow3, fun c A' P' h => h⟩, hg3.2⟩
 clear ho3 H3 H2 hrow3 hg3; go_loopw [35] (fun i wr => ∃ k S1 L1, k ≤ ns.length ∧ i = .int .i64 k ∧ OpI w wr bd w.heap.size g3 S ro most ns k S1 L1 ∧ g3 < wr.heap.size) (fun i _ => ns.length - (intOf i).toNat)
 case atStart => exact ⟨0, S, _, Nat.zero_le _, rfl, H0.out⟩
 case round =>
  obtain ⟨k, S1, L1, hk, rfl, hoi, hgr⟩ := hrel; have HO : Hid (OpI w wr bd w.heap.size g3 S ro most ns k S1 L1 ∧ g3 < wr.heap.size) := ⟨hoi, hgr⟩
  clear hoi hgr; by_cases hkl : k < ns.length
  · obtain ⟨n, hn⟩ : ∃ n, ns[k]? = some n := ⟨_, List.getElem?_eq_getElem hkl⟩
    have c3 := HO.out.1.row k n hn; have hki : (k : Int) < ns.length := by omega
    obtain ⟨b, hb⟩ : ∃ b, b = (ns.drop (k + 1)).isEmpty := ⟨_, rfl⟩
    have hq : ((k : Int) == (ns.length : Int) - 1) = b := by
     rw [hb, Bool.eq_iff_iff]; simp; omega
    have HBB : Hid _ := hb; have HNN : Hid _ := hn; have hL := load_any (HO.out.1.ldin hkl hnl HB.out HST.out) n b; have HL : Hid _ := hL; clear hL hb hn; go_wp2_with (first
     | (go_at_call 74
        refine Calls.mono HL.out ?_; rintro e w4 ⟨c, S4, L4, rfl, hd4, hf4, hx4, hn4⟩; have H4 : Hid (DL w4 bd w.heap.size S4 L4 ro ∧ F3 wr w4 S1 L1 S4 L4 ∧ LdX (absD S1) (absL L1) n b c (absD S4) (absL L4) ∧ (c = 0 → L4.nm = logB)) := ⟨hd4, hf4, hx4, hn4⟩
        clear hd4 hf4 hx4 hn4))
    · rename_i hc
      have hc0 : ¬ c = 0 := by simpa using hc
      go_returns
      refine ⟨c, w.heap.size, S4, L4, by rw [if_neg hc0]; rfl, H4.out.1, HO.out.1.fr.f3 H4.out.2.1, ?_, fun h => absurd h hc0⟩; rw [← HNS.out]; refine HO.out.1.go c _ _ ?_; rw [OpI.drops HNN.out]; refine ⟨c, absD S4, absL L4, ?_, Or.inl ⟨hc0, rfl, rfl⟩⟩; rw [← HBB.out]; exact H4.out.2.2.1
    · rename_i hc
      have hc0 : c = 0 := by simpa using hc
      refine ⟨⟨k + 1, S4, L4, by omega, by go_num, HO.out.1.next HNN.out H4.out.1 H4.out.2.1 (by rw [← HBB.out, ← hc0]; exact H4.out.2.2.1) (H4.out.2.2.2 hc0) HO.out.2, Nat.lt_of_lt_of_le HO.out.2 H4.out.2.1.size⟩, ?_⟩; simp [intOf]; omega
  · have hki : decide ((k : Int) < ns.length) = false := by simp; omega
    go_wp2; go_returns
    have hkn : k = ns.length := by omega
    refine ⟨0, w.heap.size, S1, L1, by rw [if_pos rfl]; rfl, HO.out.1.dl, HO.out.1.fr, ?_, fun _ => ⟨HO.out.1.nm, ?_⟩⟩
    · rw [← HNS.out]
      refine HO.out.1.go 0 _ _ ?_; rw [hkn, List.drop_length]; exact ⟨rfl, rfl, rfl⟩
    · have h1 := HO.out.1.rs
      refine ⟨fun v hv => HB.out v ?_, by omega⟩; rw [HO.out.1.fs] at hv; exact List.mem_of_mem_take hv
end Go.Proofs.YtconkienlcegaaaGreatDoor
namespace Go.Proofs.YtconkienlcegaaaGreatDoor
open Go.RowKit
set_option linter.unusedVariables false
inductive TookF : List Int → Nat → List (List Int) → Prop
 | nil (bs : List Int) : TookF bs 0 []
 | step {bs : List Int} {k : Nat} {rs : List (List Int)} : bs ≠ [] → (nx bs).1 = 0 → TookF (bs.drop (nx bs).2.1) k rs → TookF bs ((nx bs).2.1 + k) ((nx bs).2.2 :: rs)
theorem TookF.snoc {bs : List Int} {k : Nat} {rs : List (List Int)} (h : TookF bs k rs) (hk : k < bs.length) (hn : (nx (bs.drop k)).1 = 0) : TookF bs (k + (nx (bs.drop k)).2.1) (rs ++ [(nx (bs.drop k)).2.2]) := by
 induction h with
 | nil bs =>
   rw [List.drop_zero] at hn ⊢; rw [Nat.zero_add]; have := TookF.step (k := 0) (rs := []) (fun e => by rw [e] at hk; cases hk) hn (TookF.nil _); rw [Nat.add_zero] at this; exact this
 | step h1 h2 h3 ih =>
   rename_i bs k rs
   have e : bs.drop ((nx bs).2.1 + k) = (bs.drop (nx bs).2.1).drop k := by rw [List.drop_drop]
   rw [e] at hn ⊢; have := TookF.step h1 h2 (ih (by rw [List.length_drop]; omega) hn); rw [Nat.add_assoc]; exact this
theorem Took.front {bs : List Int} {k : Nat} {rs : List (List Int)} (h : Took bs k rs) : TookF bs k rs := by
 induction h with
 | nil => exact TookF.nil _
 | step h1 h2 h3 ih => exact ih.snoc h2 h3
theorem TookF.unique {bs : List Int} {k k' : Nat} {rs rs' : List (List Int)} (h : TookF bs k rs) (h' : TookF bs k' rs') (hs : k = bs.length ∨ (nx (bs.drop k)).1 ≠ 0) (hs' : k' = bs.length ∨ (nx (bs.drop k')).1 ≠ 0) : k = k' ∧ rs = rs' := by
 induction h generalizing k' rs' with
 | nil bs =>
   cases h' with
   | nil => exact ⟨rfl, rfl⟩
   | step g1 g2 g3 =>
     rcases hs with hs | hs
     · exact absurd (List.length_eq_zero_iff.1 hs.symm) g1
     · rw [List.drop_zero] at hs
       exact absurd g2 hs
 | step h1 h2 h3 ih =>
   rename_i bs k rs
   cases h' with
   | nil =>
     rcases hs' with hs' | hs'
     · exact absurd (List.length_eq_zero_iff.1 hs'.symm) h1
     · rw [List.drop_zero] at hs'
       exact absurd h2 hs'
   | step g1 g2 g3 =>
     rename_i k2 rs2
     have e : ∀ m, bs.drop ((nx bs).2.1 + m) = (bs.drop (nx bs).2.1).drop m := fun m => by rw [List.drop_drop]
     rw [e] at hs hs'; obtain ⟨q1, q2⟩ := ih g3 (hs.imp (fun h => by rw [List.length_drop]; omega) id) (hs'.imp (fun h => by rw [List.length_drop]; omega) id); rw [q1, q2]; exact ⟨rfl, rfl⟩
/-- What stands in a file is determined. -/
theorem Took.unique {bs : List Int} {k k' : Nat} {rs rs' : List (List Int)} (h : Took bs k rs) (h' : Took bs k' rs') (hs : k = bs.length ∨ (nx (bs.drop k)).1 ≠ 0) (hs' : k' = bs.length ∨ (nx (bs.drop k')).1 ≠ 0) : k = k' ∧ rs = rs' :=
 h.front.unique h'.front hs hs'
def NmB (l : List Tf) : Prop := ∀ p ∈ l, p.1.length ≤ 32
theorem nb_len {s : ByteArray} (h : nameB s = true) : (nb s).length ≤ 32 := by
 unfold nameB at h; simp only [Bool.and_eq_true, decide_eq_true_eq] at h; have := h.1.2
 simpa [nb] using this
theorem NmB.set {l : List Tf} (h : NmB l) {n : List UInt8} (hn : n.length ≤ 32) (b : List Int) (s : Int) : NmB (setT l n b s) := by
 intro p hp; obtain ⟨q, hq, rfl⟩ := List.mem_map.1 hp; split
 · exact hn
 · exact h q hq
theorem NmB.del {l : List Tf} (h : NmB l) (n : List UInt8) : NmB (delT l n) := fun p hp => h p (List.mem_filter.1 hp).1
theorem NmB.ins {x : Tf} (hx : x.1.length ≤ 32) : ∀ {l : List Tf}, NmB l → NmB (insT x l)
 | [], _ => fun p hp => by
   have : p = x := by simpa [insT] using hp
   rw [this]; exact hx
 | y :: r, h => fun p hp => by
   unfold insT at hp; split at hp
   · rcases List.mem_cons.1 hp with rfl | hp
     · exact hx
     · exact h p hp
   · rcases List.mem_cons.1 hp with rfl | hp
     · exact h _ List.mem_cons_self
     · exact NmB.ins hx (fun q hq => h q (List.mem_cons_of_mem _ hq)) p hp
theorem NmB.sync {l : List Tf} (h : NmB l) (s : ByteArray) : NmB (lSync l s) := by
 unfold lSync; split
 · rename_i hs
   split
   · exact h.set (nb_len hs) _ _
   · exact h
 · exact h
theorem NmB.app {l : List Tf} (h : NmB l) (room : Int) (s : ByteArray) (bs : List Int) : NmB (lApp l room s bs) := by
 unfold lApp; split
 · rename_i hs
   split
   · exact h
   · split
     · exact h
     · split
       · exact h.set (nb_len hs) _ _
       · exact NmB.ins (nb_len hs) (h.del _)
 · exact h
theorem NmB.dDo {A : DA} (h : NmB A.l) (s : ByteArray) (e : Int) {l' : List Tf} (h' : NmB l') : NmB (dDo A s e l').2.l := by
 unfold Proofs.YtconkienlcegaaaGreatDoor.dDo; dsimp only; split
 · exact h'
 · exact h
theorem NmB.dApp {A : DA} (h : NmB A.l) (s : ByteArray) (bs : List Int) : NmB (dApp A s bs).2.l := h.dDo _ _ (h.app _ _ _)
theorem NmB.dSync {A : DA} (h : NmB A.l) (s : ByteArray) : NmB (dSync A s).2.l := h.dDo _ _ (h.sync _)
theorem NmB.nmS {l : List Tf} (h : NmB l) : ∀ s ∈ nmS l, s.size ≤ 1000 := by
 intro s hs; unfold Proofs.YtconkienlcegaaaGreatDoor.nmS at hs; obtain ⟨p, hp, rfl⟩ := List.mem_map.1 hs; have := h p hp; show p.1.toArray.size ≤ 1000; rw [List.size_toArray]; omega
theorem pu_snoc (c : UInt8) : ∀ (l : List UInt8) (acc : Nat), Lib.parseUint10 acc (l ++ [c]) = (match Lib.parseUint10 acc l with | .ok v => Lib.parseUint10 v [c] | .syntax => .syntax | .range => .range)
 | [], acc => rfl
 | d :: r, acc => by
   rw [List.cons_append]; have e : ∀ t, Lib.parseUint10 acc (d :: t) = if 48 ≤ d.toNat ∧ d.toNat ≤ 57 then (if 1844674407370955162 ≤ acc then .range else if 18446744073709551616 ≤ acc * 10 + (d.toNat - 48) then .range else Lib.parseUint10 (acc * 10 + (d.toNat - 48)) t) else .syntax := fun t => rfl
   rw [e, e]; split
   · split
     · rfl
     · split
       · rfl
       · exact pu_snoc c r _
   · rfl
theorem dig_nat (d : Nat) (h : d < 10) : (UInt8.ofNat (48 + d)).toNat = 48 + d := by
 simp
 omega
theorem pu_one (a d : Nat) (hd : d < 10) (ha : a < 100000000000000000) : Lib.parseUint10 a [UInt8.ofNat (48 + d)] = .ok (a * 10 + d) := by
 have e : Lib.parseUint10 a [UInt8.ofNat (48 + d)] = if 48 ≤ (UInt8.ofNat (48 + d)).toNat ∧ (UInt8.ofNat (48 + d)).toNat ≤ 57 then (if 1844674407370955162 ≤ a then .range else if 18446744073709551616 ≤ a * 10 + ((UInt8.ofNat (48 + d)).toNat - 48) then .range else .ok (a * 10 + ((UInt8.ofNat (48 + d)).toNat - 48))) else .syntax := rfl
 rw [e, dig_nat d hd, if_pos (by omega), if_neg (by omega), if_neg (by omega)]; congr 1; omega
theorem pu_dec (u : Nat) : u < 1000000000000000000 → Lib.parseUint10 0 (Lib.decDigits u) = .ok u := by
 induction u using Nat.strongRecOn with
 | ind u ih =>
   intro hu; rw [Lib.decDigits]; split
   · have := pu_one 0 u (by omega) (by omega)
     rw [Nat.zero_mul, Nat.zero_add] at this; exact this
   · rw [pu_snoc, ih (u / 10) (by omega) (by omega)]
     show Lib.parseUint10 (u / 10) [UInt8.ofNat (48 + u % 10)] = _; rw [pu_one _ _ (by omega) (by omega)]; congr 1; omega
theorem dec_head (u : Nat) : ∃ c r, Lib.decDigits u = c :: r ∧ 48 ≤ c.toNat ∧ c.toNat ≤ 57 := by
 induction u using Nat.strongRecOn with
 | ind u ih =>
   rw [Lib.decDigits]; split
   · exact ⟨_, _, rfl, by rw [dig_nat u (by omega)]; omega, by rw [dig_nat u (by omega)]; omega⟩
   · obtain ⟨c, r, h1, h2⟩ := ih (u / 10) (by omega)
     exact ⟨c, r ++ [UInt8.ofNat (48 + u % 10)], by rw [h1]; rfl, h2⟩
theorem atoi_itoa (n : Int) (h0 : 0 ≤ n) (h1 : n < 1000000000) : Lib.atoiAll (Lib.itoa n) = .ok n := by
 have e : Lib.itoa n = Lib.decDigits n.toNat := if_neg (by omega); rw [e]; obtain ⟨c, r, hd, hc⟩ := dec_head n.toNat; have hp := pu_dec n.toNat (by omega); rw [hd] at hp ⊢; have hm : Lib.parseMag (c :: r) = .ok n.toNat := by
  unfold Lib.parseMag; rw [if_neg (by simp)]; exact hp
 unfold Lib.atoiAll; dsimp only; rw [if_neg (by omega), hm]; dsimp only; rw [if_neg (by omega), if_neg (by omega), if_neg (by omega)]; congr 1; omega
theorem file_list (n : Int) (h0 : 0 ≤ n) (h1 : n < 1000000000) : (fileB logB n).data.toList = pfx.data.toList ++ Lib.itoa n := by
 have e : fileB logB n = logB ++ ⟨#[46]⟩ ++ ⟨(Lib.itoa n).toArray⟩ := if_neg (by omega); rw [e]; simp [pfx, ByteArray.data_append]
theorem numOf_file (n : Int) (h0 : 0 ≤ n) (h1 : n < 1000000000) : numOf (fileB logB n) = some n := by
 have hl := file_list n h0 h1; have hp : Lib.hasPrefix (fileB logB n).data.toList pfx.data.toList = true := by
  rw [hl]; unfold Lib.hasPrefix; rw [List.isPrefixOf_iff_prefix]; exact List.prefix_append _ _
 have hr : (restB (fileB logB n)).data.toList = Lib.itoa n := by
  unfold restB Lib.trimPrefix; rw [if_pos hp, hl]; simp
 unfold numOf; rw [if_pos hp, hr, atoi_itoa n h0 h1]; dsimp only; rw [if_pos rfl]
theorem file_inj {m n : Int} (hm : 0 ≤ m ∧ m < 1000000000) (hn : 0 ≤ n ∧ n < 1000000000) (h : nb (fileB logB m) = nb (fileB logB n)) : m = n := by
 have h1 : fileB logB m = fileB logB n := nm_eq.2 h; have h2 := numOf_file m hm.1 hm.2; rw [h1, numOf_file n hn.1 hn.2] at h2; injection h2 with h2
 exact h2.symm
theorem name_lt {n : Int} (h : nameB (fileB logB n) = true) : 0 ≤ n ∧ n < 1000000000 := by
 by_cases hb : n < 0 ∨ 1000000000 ≤ n
 · rw [show fileB logB n = ByteArray.empty from if_pos hb] at h
   exact absurd h (by decide)
 · omega
end Go.Proofs.YtconkienlcegaaaGreatDoor
namespace Go.Proofs.YtconkienlcegaaaGreatDoor
open Go.RowKit
set_option linter.unusedSimpArgs false
set_option linter.unusedVariables false
theorem byteJ (n : BitVec 32) (r : Nat) (m : Int) (hm : m = ((2 ^ r : Nat) : Int)) : BitVec.ofInt 32 (J n / m % 256) = BitVec.ofNat 32 (n.toNat / 2 ^ r % 2 ^ 8) := by
 have : J n / m % 256 = ((n.toNat / 2 ^ r % 2 ^ 8 : Nat) : Int) := by
  unfold J; rw [hm]; omega
 rw [this, BitVec.ofInt_natCast]
theorem num4_four (n : BitVec 32) : num4 (J n / 16777216 % 256) (J n / 65536 % 256) (J n / 256 % 256) (J n % 256) = n := by
 have e0 := byteJ n 0 1 (by decide); rw [Int.ediv_one] at e0; unfold num4; rw [byteJ n 24 16777216 (by decide), byteJ n 16 65536 (by decide), byteJ n 8 256 (by decide), e0]; apply BitVec.eq_of_getLsbD_eq; intro i hi; have hg : n.getLsbD i = n.toNat.testBit i := rfl; simp only [BitVec.getLsbD_or, BitVec.getLsbD_shiftLeft, BitVec.getLsbD_ofNat, Nat.testBit_mod_two_pow, Nat.testBit_div_two_pow, hg, hi, decide_true, Bool.true_and]; rcases (by omega : i < 8 ∨ (8 ≤ i ∧ i < 16) ∨ (16 ≤ i ∧ i < 24) ∨ 24 ≤ i) with h | h | h | h
 · have a1 : i < 24 := by omega
   have a2 : i < 16 := by omega
   simp [h, a1, a2]
 · have a1 : i < 24 := by omega
   have a2 : i < 16 := by omega
   have a3 : ¬ i < 8 := by omega
   have a4 : i - 8 < 8 := by omega
   have a5 : i - 8 < 32 := by omega
   simp [h, a1, a2, a3, a4, a5]
 · have a1 : i < 24 := by omega
   have a2 : ¬ i < 16 := by omega
   have a3 : ¬ i < 8 := by omega
   have a4 : ¬ i - 8 < 8 := by omega
   have a5 : i - 16 < 8 := by omega
   have a6 : i - 16 < 32 := by omega
   simp [h, a1, a2, a3, a4, a5, a6]
 · have a1 : ¬ i < 24 := by omega
   have a2 : ¬ i < 16 := by omega
   have a3 : ¬ i < 8 := by omega
   have a4 : ¬ i - 8 < 8 := by omega
   have a5 : ¬ i - 16 < 8 := by omega
   have a6 : i - 24 < 8 := by omega
   have a7 : i - 24 < 32 := by omega
   simp [h, a1, a2, a3, a4, a5, a6, a7]
theorem numAt_four (a : List Int) (n : BitVec 32) (t : List Int) : numAt (a ++ (fourB n ++ t)) a.length = n := by
 have hg : ∀ j, j < 4 → (a ++ (fourB n ++ t)).getD (a.length + j) 0 = (fourB n).getD j 0 := fun j hj => by
  simp only [List.getD]; rw [List.getElem?_append_right (by omega), show a.length + j - a.length = j by omega, List.getElem?_append_left (by rw [fourB_length]; exact hj)]
 unfold numAt; have h0 := hg 0 (by omega); rw [Nat.add_zero] at h0; rw [h0, hg 1 (by omega), hg 2 (by omega), hg 3 (by omega)]; exact num4_four n
/-- A frame, whatever stands behind it, gives its record back. -/
theorem nx_frame (bs t : List Int) (hl : bs.length ≤ 65536) : nx (frameB bs ++ t) = (0, 12 + bs.length, bs) := by
 have hF : frameB bs ++ t = fourB (BitVec.ofNat 32 bs.length) ++ (fourB (sumB (headB bs)) ++ (fourB (sumB bs) ++ (bs ++ t))) := by
  unfold frameB headB; simp only [List.append_assoc]
 have hn0 : numAt (frameB bs ++ t) 0 = BitVec.ofNat 32 bs.length := by
  rw [hF]; exact numAt_four [] _ _
 have hn4 : numAt (frameB bs ++ t) 4 = sumB (headB bs) := by
  rw [hF]; exact numAt_four (fourB (BitVec.ofNat 32 bs.length)) _ _
 have hn8 : numAt (frameB bs ++ t) 8 = sumB bs := by
  rw [hF, ← List.append_assoc]; exact numAt_four (fourB (BitVec.ofNat 32 bs.length) ++ fourB (sumB (headB bs))) _ _
 have hN : (BitVec.ofNat 32 bs.length).toNat = bs.length := by
  rw [BitVec.toNat_ofNat, Nat.mod_eq_of_lt]; omega
 have ht4 : (frameB bs ++ t).take 4 = headB bs := by
  rw [hF]; rfl
 have hd : (frameB bs ++ t).drop 12 = bs ++ t := by
  rw [hF]; rfl
 have hlen : (frameB bs ++ t).length = 12 + bs.length + t.length := by rw [List.length_append, frameB_length]
 unfold nx; rw [hn0, hn4, hn8, hN, ht4, hd, hlen]; rw [if_neg (by omega), if_neg (by simp; omega), if_neg (by omega)]; have hx : (bs ++ t).take bs.length = bs := by simp
 rw [hx, if_neg (by simp)]
end Go.Proofs.YtconkienlcegaaaGreatDoor
