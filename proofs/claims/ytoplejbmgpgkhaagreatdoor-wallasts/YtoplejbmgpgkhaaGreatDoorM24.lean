/- PO, PP, PI, PW, PX, PY, laid into one text. -/
import Derived.Test.YtoplejbmgpgkhaaGreatDoorM20
import Derived.Test.YtoplejbmgpgkhaaGreatDoorPN
import Derived.Test.YtoplejbmgpgkhaaGreatDoorM16
import Derived.Test.YtoplejbmgpgkhaaGreatDoorM10
import Derived.Test.YtoplejbmgpgkhaaGreatDoorM21
import Derived.Test.YtoplejbmgpgkhaaGreatDoorM22
import Derived.Test.YtoplejbmgpgkhaaGreatDoorM17
import Derived.BigQuiet
import Derived.Test.YtoplejbmgpgkhaaGreatDoorM18
/- disk: Boot of both by what it leaves; names in their order. -/
namespace Go.Proofs.YtoplejbmgpgkhaaGreatDoor
open Go.RowKit Go.Maps Go.Joins
set_option linter.unusedSimpArgs false
set_option linter.unusedVariables false
theorem before_lt : ∀ (x y : List UInt8), bytesBefore x y = true → x < y
  | [], [], h => by simp [bytesBefore] at h
  | [], b :: y, _ => List.nil_lt_cons b y
  | a :: x, [], h => by simp [bytesBefore] at h
  | a :: x, b :: y, h => by
    rw [List.cons_lt_cons_iff]
    simp only [bytesBefore, Bool.or_eq_true, Bool.and_eq_true, decide_eq_true_eq, beq_iff_eq] at h
    rcases h with h | ⟨h1, h2⟩
    · exact Or.inl h
    · exact Or.inr ⟨h1, before_lt x y h2⟩
theorem names_sorted {w : World} {bd : Nat} {S : DS} (h : DiskIs w bd S) {ss : List (List UInt8)} (hp : ss.Perm (S.fs.map (·.1))) : ss.mergeSort (fun x y => decide (x ≤ y)) = S.fs.map (·.1) := by
  have hs : (S.fs.map (·.1)).Pairwise (fun a b => decide (a ≤ b) = true) := by
    have h1 := h.srt
    unfold Srt absP at h1
    rw [List.pairwise_map] at h1 ⊢
    exact h1.imp fun {a b} h2 => by
      simp only [decide_eq_true_eq]
      exact List.le_of_lt (before_lt _ _ h2)
  refine List.Perm.eq_of_pairwise (le := fun a b => decide (a ≤ b) = true) (fun a b _ _ h1 h2 => ?_) (List.pairwise_mergeSort (fun a b c h1 h2 => ?_) (fun a b => ?_) ss) hs ((List.mergeSort_perm ss _).trans hp)
  · simp only [decide_eq_true_eq] at h1 h2
    exact List.le_antisymm h1 h2
  · simp only [decide_eq_true_eq] at h1 h2 ⊢
    exact List.le_trans h1 h2
  · simp only [Bool.or_eq_true, decide_eq_true_eq]
    exact List.le_total a b
def keepT (p : Tf) (ks : List Int) (j : Nat) : Int := match ks[j]? with
  | none => p.2.2
  | some x => min (max x p.2.2) p.2.1.length
def bootT (l : List Tf) (ks : List Int) : List Tf := l.mapIdx fun j p => (p.1, p.2.1.take (keepT p ks j).toNat, keepT p ks j)
theorem bt_abs {A A' : List RF} {ks : List Int} (h : Bt A A' ks A.length) : absR A' = bootT (absR A) ks := by
  apply List.ext_getElem?
  intro j
  unfold absR bootT
  rw [List.getElem?_mapIdx, List.getElem?_map, List.getElem?_map]
  by_cases hj : j < A.length
  · obtain ⟨f, hf⟩ : ∃ f, A[j]? = some f := ⟨_, List.getElem?_eq_getElem hj⟩
    obtain ⟨bv, hb⟩ := h.done j f hj hf
    rw [hf, hb]
    rfl
  · have h1 : A[j]? = none := List.getElem?_eq_none (by omega)
    have h2 : A'[j]? = none := List.getElem?_eq_none (by rw [h.len]; omega)
    rw [h1, h2]
    rfl
theorem cut_abs {w : World} {bd : Nat} {S S' : DS} {ks : List Int} {ss : List (List UInt8)} (h : DiskIs w bd S) (hp : ss.Perm (S.fs.map (·.1))) (hc : Cutto (upS S) S' (ss.mergeSort (fun x y => decide (x ≤ y))) ks ss.length) : absP S' = bootT (absP S) ks := by
  rw [names_sorted h hp] at hc
  have hfs : S'.fs = S.fs := hc.fs
  have hlen : ss.length = S.fs.length := by rw [hp.length_eq, List.length_map]
  apply List.ext_getElem?
  intro j
  unfold absP bootT
  rw [List.getElem?_mapIdx, List.getElem?_map, List.getElem?_map, hfs]
  by_cases hj : j < S.fs.length
  · obtain ⟨p, hpj⟩ : ∃ p, S.fs[j]? = some p := ⟨_, List.getElem?_eq_getElem hj⟩
    have hd := hc.done j p.1 (by omega) (by rw [List.getElem?_map, hpj]; rfl)
    rw [hpj]
    show some (p.1, (S'.fl p.1).bs, (S'.fl p.1).safe) = _
    rw [hd.1, hd.2]
    rfl
  · rw [List.getElem?_eq_none (by omega)]
    rfl
theorem boot_sum {ks : List Int} : ∀ {l : List Tf} {o : Nat}, sumT (l.mapIdx fun j p => ((p.1, p.2.1.take (keepT p ks (o + j)).toNat, keepT p ks (o + j)) : Tf)) ≤ sumT l
  | [], _ => by simp [sumT]
  | p :: l, o => by
    rw [List.mapIdx_cons]
    have ih := boot_sum (ks := ks) (l := l) (o := o + 1)
    have e : (List.mapIdx ((fun j p => ((p.1, p.2.1.take (keepT p ks (o + j)).toNat, keepT p ks (o + j)) : Tf)) ∘ fun x => x + 1) l) = l.mapIdx fun j p => ((p.1, p.2.1.take (keepT p ks (o + 1 + j)).toNat, keepT p ks (o + 1 + j)) : Tf) := by
      congr 1
      funext j p
      simp only [Function.comp]
      rw [show o + (j + 1) = o + 1 + j by omega]
    simp only [sumT]
    rw [List.length_take]
    have e2 : (List.mapIdx (fun i p => ((p.1, p.2.1.take (keepT p ks (o + (i + 1))).toNat, keepT p ks (o + (i + 1))) : Tf)) l) = l.mapIdx fun j p => ((p.1, p.2.1.take (keepT p ks (o + 1 + j)).toNat, keepT p ks (o + 1 + j)) : Tf) := by
      congr 1
      funext j p
      rw [show o + (j + 1) = o + 1 + j by omega]
    rw [e2]
    omega
theorem boot_wf {l : List Tf} {ro : Int} (h : Wf l ro) (ks : List Int) : Wf (bootT l ks) ro := by
  refine ⟨by unfold bootT; rw [List.length_mapIdx]; exact h.len, ?_, fun p hp => ?_⟩
  · have h1 := boot_sum (ks := ks) (l := l) (o := 0)
    simp only [Nat.zero_add] at h1
    have h2 := h.sum
    unfold bootT
    omega
  · unfold bootT at hp
    obtain ⟨j, hj, hpj⟩ := List.mem_mapIdx.1 hp
    have hs := h.safe _ (List.getElem_mem hj)
    subst hpj
    simp only
    rw [List.length_take]
    unfold keepT
    split <;> omega
end Go.Proofs.YtoplejbmgpgkhaaGreatDoor
/- disk: does, Boot. -/
namespace Go.Proofs.YtoplejbmgpgkhaaGreatDoor
open Go.RowKit Go.Maps Go.Joins
set_option linter.unusedSimpArgs false
set_option linter.unusedVariables false
theorem Tw.boot {w w2 : World} {bd br : Nat} {S S' : DS} {R : RS} {ro : Int} {A' : List RF} {ks : List Int} {ss : List (List UInt8)} (h : Tw w bd br S R ro) (hD : DiskIs w2 bd S') (hp : ss.Perm (S.fs.map (·.1))) (hc : Cutto (upS S) S' (ss.mergeSort (fun x y => decide (x ≤ y))) ks ss.length) (hB : Bt R.A A' ks R.A.length)
    (hR : RefIs w2 br { R with A := A', pv := .slice none 0 0, plan := [], down := false }) (hap : ∀ b, R.own b ≠ 0 → S'.role b = .none) : Tw w2 bd br S' { R with A := A', pv := .slice none 0 0, plan := [], down := false } ro ∧ absP S' = bootT (absP S) ks ∧ S'.steps = S.steps := by
  have ha := cut_abs h.disk hp hc
  have hb := bt_abs hB
  have hst : S'.steps = S.steps := hc.steps
  have har : S'.armed = S.armed := hc.armed
  have hw : Wf (absP S') ro := by rw [ha]; exact boot_wf h.gb.wf ks
  have hsm : absP S' = absR A' := by rw [ha, hb, h.same]
  refine ⟨⟨hD, ⟨by have := h.gb.cnt; unfold Cnt at this ⊢; rw [hst, har]; exact this, hc.room.trans h.gb.rm, h.gb.r0, hw⟩, hR, ⟨PlanR.nil rfl, h.hb.cnt, h.hb.rm, h.gb.r0, by show Wf (absR A') ro; rw [← hsm]; exact hw, by show Srt (absR A'); rw [← hsm]; exact hD.srt⟩, hsm, hap, hc.down, hst.trans h.steps, har.trans h.armed, fun x hx => ?_⟩, ha, hst⟩
  rw [hc.plan]
  rfl
end Go.Proofs.YtoplejbmgpgkhaaGreatDoor
/- disk: the document's List. -/
namespace Go.Proofs.YtoplejbmgpgkhaaGreatDoor
open Go.RowKit Go.Maps Go.Joins
set_option linter.unusedSimpArgs false
set_option linter.unusedVariables false
theorem info9b : (Tryz.prog.info? 9).map (fun i => (i.zero, i.size, i.bytes)) = some (some (.string ByteArray.empty), 1, 16) := by kernel_rfl
theorem info9c : ∃ i, Tryz.prog.info? 9 = some i ∧ i.zero = some (.string ByteArray.empty) ∧ i.size = 1 ∧ i.bytes = 16 := by
  have := info9b
  cases h : Tryz.prog.info? 9 with
  | none => rw [h] at this; cases this
  | some i =>
    rw [h] at this
    simp at this
    exact ⟨i, rfl, this.1, this.2.1, this.2.2⟩
def nmL (A : List RF) : List Value := A.map fun f => .string f.nm
/-- append(out, name) -/
theorem wpList_append_s {w : World} {ops : Array Oper} {rest : List Oper} {o : Oper} {a : Act} {Q : Exit → Act → World → Prop} (hgd : o.guard = none) (s x : Operand)
    (ho : o.op = .call { callee := .builtin .append, args := #[s, x], argTypes := #[59, 59] }) (base : Nat)
    (v : Value) (A : List RF) (f : RF) (hs : a.eval s = v) (hown : w.ownsRow base 9 1 v A.length (nmL A)) (g : Nat) (hg : w.heap[g]? = some (.cells #[.string f.nm] 9)) (hx : a.eval x = .slice (some ⟨g, 0, none⟩) 1 1)
    (hl : A.length ≤ 1000) (hbase : base ≤ w.heap.size)
    (h : ∀ v' w', w'.ownsRow base 9 1 v' (A ++ [f]).length (nmL (A ++ [f])) → w.grownBy w' v.ownBlock → (v'.ownBlock = v.ownBlock ∨ v'.ownBlock = some w.heap.size) → wpList Tryz.prog ops Q rest (a.put o.dst v') w') : wpList Tryz.prog ops Q (o :: rest) a w := by
  obtain ⟨i0, hi, hz0, hz1, hz2⟩ := info9c
  refine wpList_append_own_at w hgd s x 59 ho base 9 i0 _ 1 16 Tryz.underlying59 hi hz0 hz1 hz2 rfl (by decide) v A.length (nmL A) hs hown ⟨g, 0, none⟩ 1 1 [.string f.nm] hx rfl (fun j u hu => ?_) (by simp [Value.oneCell']) (by unfold maxLen; omega) (by omega) hbase (fun v' w' a b _ d => h v' w' ?_ b d)
  · rw [Addr.add_lit, Nat.zero_add, cell_of_block hg]
    simpa using hu
  · rw [List.length_append]
    have : nmL (A ++ [f]) = nmL A ++ [.string f.nm] := by simp [nmL]
    rw [this]
    exact a
set_option maxRecDepth 100000 in
set_option maxHeartbeats 8000000 in
/-- List -/
theorem rlist_any {w : World} {br : Nat} {R : RS} (h : RefIs w br R) (hl : R.A.length ≤ 1000) :
    Calls Tryz.prog 34 #[.pointer (some ⟨br, 0, none⟩)] w fun e w' => ∃ v, e = .returned v ∧ w'.ownsRow w.heap.size 9 1 v (if R.down then [] else R.A).length (nmL (if R.down then [] else R.A)) ∧ Below w.heap.size w w' := by
  have c3 : w.cell? ⟨br, 3, none⟩ = some R.lv := by rw [cell_of_block h.disk]; rfl
  have c5 : w.cell? ⟨br, 5, none⟩ = some (.bool R.down) := by rw [cell_of_block h.disk]; rfl
  obtain ⟨a, cap, hlv⟩ := row_form h.list
  rw [hlv] at c3
  have HLV : Hid (R.lv = .slice a R.A.length cap) := hlv
  have HR : Hid (RefIs w br R) := h
  have hlt := h.lt
  clear h hlv
  cases hd : R.down
  · rw [hd] at c5
    clear hd
    go_enter Tryz.func34, Tryz.ntmps34
    go_wp2
    go_loopw [3, 4] (fun o i wr => ∃ k : Nat, k ≤ R.A.length ∧ i = .int .i64 k ∧ wr.ownsRow w.heap.size 9 1 o (R.A.take k).length (nmL (R.A.take k)) ∧ Below w.heap.size w wr) (fun _ i _ => R.A.length - (intOf i).toNat)
    case atStart => exact ⟨0, Nat.zero_le _, rfl, World.ownsRow_nil _ _ _ _, Below.refl _ _⟩
    case round =>
      obtain ⟨k, hk, rfl, hown, hb⟩ := hrel
      have cw : wr.cell? ⟨br, 3, none⟩ = some (.slice a R.A.length cap) := (hb.cell (p := ⟨br, 3, none⟩) hlt).trans c3
      have cw5 : wr.cell? ⟨br, 5, none⟩ = some (.bool false) := (hb.cell (p := ⟨br, 5, none⟩) hlt).trans c5
      obtain ⟨oa, ocap, hov⟩ := row_form hown
      subst hov
      have hkl0 : (R.A.take k).length = k := by rw [List.length_take]; omega
      by_cases hkl : k < R.A.length
      · obtain ⟨f, hf⟩ : ∃ f, R.A[k]? = some f := ⟨_, List.getElem?_eq_getElem hkl⟩
        obtain ⟨g, cap', hv, _, hgl, _, hc⟩ := HR.out.cell hf
        have hc0 : wr.cell? ⟨g, k * 3, none⟩ = some (.string f.nm) := (hb.cell (p := ⟨g, k * 3, none⟩) hgl).trans (by have := hc 0 (.string f.nm) rfl; rwa [Nat.add_zero] at this)
        rw [HLV.out] at hv
        injection hv with hva _ _
        subst hva
        have hki : (k : Int) < R.A.length := by omega
        have HO2 : Hid ((wr.alloc (.cells #[.string f.nm] 9)).ownsRow w.heap.size 9 1 (.slice oa (R.A.take k).length ocap) (R.A.take k).length (nmL (R.A.take k)) ∧ Below w.heap.size w (wr.alloc (.cells #[.string f.nm] 9)) ∧ (wr.alloc (.cells #[.string f.nm] 9)).heap[wr.heap.size]? = some (.cells #[.string f.nm] 9)) := ⟨hown.alloc _, hb.alloc hb.size _, heap_alloc_new _ _⟩
        clear hc hown hb
        go_wp2_with (first
          | (at_builtin
             refine wpList_append_s rfl _ _ rfl w.heap.size (.slice oa (R.A.take k).length ocap) (R.A.take k) f rfl HO2.out.1 wr.heap.size HO2.out.2.2 rfl (by omega) HO2.out.2.1.size ?_
             intro v' w2 ho hg2 ha
             have H2 : Hid (w2.ownsRow w.heap.size 9 1 v' (R.A.take k ++ [f]).length (nmL (R.A.take k ++ [f])) ∧ Below w.heap.size w w2) := ⟨ho, HO2.out.2.1.grown hg2 HO2.out.2.1.size (fun j hj => (HO2.out.1.lt j hj).1)⟩
             clear ho hg2 ha)
          | go_in)
        go_roundw
        case rel =>
          refine ⟨k + 1, by omega, by go_num, ?_, H2.out.2⟩
          rw [List.take_add_one, hf]
          exact H2.out.1
        case measure => simp [intOf]; omega
      · have hki : decide ((k : Int) < R.A.length) = false := by simp; omega
        obtain rfl : k = R.A.length := by omega
        rw [List.take_length] at *
        have HO : Hid (wr.ownsRow w.heap.size 9 1 (.slice oa R.A.length ocap) R.A.length (nmL R.A) ∧ Below w.heap.size w wr) := ⟨hown, hb⟩
        clear hown hb
        go_wp2
        go_ret
        exact ⟨_, rfl, HO.out⟩
  · rw [hd] at c5
    clear hd
    go_enter Tryz.func34, Tryz.ntmps34
    go_wp2
    refine wp_loop_rounds 1 ?_
    rw [rounds_succ]
    by_cases h0 : (0 : Int) < R.A.length
    · go_wp2
      go_ret
      exact ⟨_, rfl, World.ownsRow_nil _ _ _ _, Below.refl _ _⟩
    · have h0' : decide ((0 : Int) < R.A.length) = false := by simpa using h0
      go_wp2
      go_ret
      exact ⟨_, rfl, World.ownsRow_nil _ _ _ _, Below.refl _ _⟩
end Go.Proofs.YtoplejbmgpgkhaaGreatDoor
/- disk: does whole; both Lists; DiskPlays' walk. -/
namespace Go.Proofs.YtoplejbmgpgkhaaGreatDoor
open Go.RowKit Go.Maps Go.Joins Go.Sort
set_option linter.unusedSimpArgs false
set_option linter.unusedVariables false
theorem gL_wf {l l' : List Tf} {ro c : Int} (h : Wf l ro) (h' : Wf l' ro) : Wf (gL c l l') ro := by
  unfold gL
  split
  · exact h'
  · exact h
/-- A slice of names. -/
def StrV (w : World) (v : Value) (l : List ByteArray) : Prop := ∃ a cap, v = .slice a l.length cap ∧ ∀ j s, l[j]? = some s → ∃ g, a = some ⟨g, 0, none⟩ ∧ w.cell? ⟨g, j, none⟩ = some (.string s)
theorem StrV.below {w w' : World} {v : Value} {l : List ByteArray} (h : StrV w v l) (hb : Below w.heap.size w w') : StrV w' v l := by
  obtain ⟨a, cap, rfl, hc⟩ := h
  refine ⟨a, cap, rfl, fun j s hj => ?_⟩
  obtain ⟨g, rfl, h1⟩ := hc j s hj
  exact ⟨g, rfl, (hb.cell (p := ⟨g, j, none⟩) (cell_lt h1)).trans h1⟩
theorem StrV.of_own {w : World} {base : Nat} {v : Value} {l : List ByteArray} (h : w.ownsRow base 9 1 v l.length (l.map Value.string)) : StrV w v l := by
  obtain ⟨a, cap, rfl⟩ := row_form h
  refine ⟨a, cap, rfl, fun j s hj => ?_⟩
  have hl := (List.getElem?_eq_some_iff.1 hj).1
  rcases h.2 with ⟨_, h0⟩ | ⟨g, cap', cur, e, _⟩
  · omega
  · injection e with e1 e2 e3
    subst e1
    have h0 := h.cells (g := g) rfl j (.string s) (by rw [List.getElem?_map, hj]; rfl)
    rw [Addr.add_lit, Nat.zero_add] at h0
    exact ⟨g, rfl, h0⟩
def nmsR (R : RS) : List ByteArray := (if R.down then [] else R.A).map (·.nm)
theorem list_v {w : World} {bd br : Nat} {S : DS} {R : RS} {ro : Int} (h : Tw w bd br S R ro) : Calls Tryz.prog 33 #[.pointer (some ⟨bd, 0, none⟩)] w fun e w' => ∃ v, e = .returned v ∧ StrV w' v (nmsR R) ∧ Below w.heap.size w w' := by
  have hd := h.down
  cases hR : R.down
  · rw [hR] at hd
    refine (list_up h.disk hd (by have := h.gb.wf.len; unfold absP at this; rw [List.length_map] at this; omega)).mono ?_
    rintro e w' ⟨v, ss, rfl, hp, ho, _, hb⟩
    rw [names_sorted h.disk hp] at ho
    have hsame := congrArg (List.map (fun p : Tf => p.1)) h.same
    have e1 : (absP S).map (fun p : Tf => p.1) = S.fs.map (·.1) := by unfold absP; rw [List.map_map]; rfl
    have e2 : (absR R.A).map (fun p : Tf => p.1) = R.A.map fun f => f.nm.data.toList := by unfold absR; rw [List.map_map]; rfl
    rw [e1, e2] at hsame
    have hl : ss.length = (nmsR R).length := by
      have h1 := hp.length_eq
      have h2 := congrArg List.length hsame
      simp only [nmsR, hR, List.length_map] at h1 h2 ⊢
      simp
      omega
    have e3 : (S.fs.map (·.1)).map encStr = (nmsR R).map Value.string := by
      rw [hsame]
      simp only [nmsR, hR, List.map_map]
      rfl
    rw [e3, hl] at ho
    exact ⟨v, rfl, StrV.of_own ho, hb⟩
  · rw [hR] at hd
    refine (list_down h.disk hd).mono ?_
    rintro e w' ⟨rfl, rfl⟩
    refine ⟨_, rfl, ?_, Below.refl _ _⟩
    have : nmsR R = [] := by simp [nmsR, hR]
    rw [this]
    exact ⟨none, 0, rfl, fun j s hj => by simp at hj⟩
theorem rlist_v {w : World} {bd br : Nat} {S : DS} {R : RS} {ro : Int} (h : Tw w bd br S R ro) : Calls Tryz.prog 34 #[.pointer (some ⟨br, 0, none⟩)] w fun e w' => ∃ v, e = .returned v ∧ StrV w' v (nmsR R) ∧ Below w.heap.size w w' := by
  refine (rlist_any h.ref (by have := h.hb.wf.len; unfold absR at this; rw [List.length_map] at this; omega)).mono ?_
  rintro e w' ⟨v, rfl, ho, hb⟩
  refine ⟨v, rfl, StrV.of_own (base := w.heap.size) ?_, hb⟩
  have e1 : nmL (if R.down then [] else R.A) = (nmsR R).map Value.string := by unfold nmL nmsR; rw [List.map_map]; rfl
  have e2 : (if R.down then [] else R.A).length = (nmsR R).length := by unfold nmsR; rw [List.length_map]
  rw [e1, e2] at ho
  exact ho
set_option maxHeartbeats 1000000 in
theorem rnew_bad (r : Int) (h : r < 0 ∨ 1073741824 < r) (w : World) :
    Calls Tryz.prog 10 #[.int .i64 r] w fun e w' => e = .returned (.pointer none) ∧ w' = w := by
  by_cases h0 : r < 0
  · have d1 : decide (r < 0) = true := by simp; omega
    go_enter Tryz.func10, Tryz.ntmps10
    go_wp2
    go_ret
    exact ⟨rfl, rfl⟩
  · have d1 : decide (r < 0) = false := by simp; omega
    have d2 : decide (1073741824 < r) = true := by simp; omega
    go_enter Tryz.func10, Tryz.ntmps10
    go_wp2
    go_ret
    exact ⟨rfl, rfl⟩
/-- Both disks behind k calls. -/
structure Pv (w w' : World) (bd br : Nat) (S : DS) (R : RS) (ro : Int) (k : Int) : Prop where
  tw : Tw w' bd br S R ro
  bel : Below w.heap.size w w'
  off : ∀ b, b < w.heap.size → S.role b = .none ∧ R.own b = 0
  st : S.steps ≤ k
theorem Pv.next {w w' w2 : World} {bd br : Nat} {S S' : DS} {R R' : RS} {ro k : Int} (h : Pv w w' bd br S R ro k) (hT : Tw w2 bd br S' R' ro) (hF : F2 w' w2 S R S' R') (hs : S'.steps ≤ S.steps + 1) : Pv w w2 bd br S' R' ro (k + 1) :=
  ⟨hT, ⟨hF.os.trans h.bel.os, hF.tape.trans h.bel.tape, hF.output.trans h.bel.output, Nat.le_trans h.bel.size hF.size, fun b hb => (hF.block b (Nat.lt_of_lt_of_le hb h.bel.size) (h.off b hb).1 (h.off b hb).2).trans (h.bel.block b hb)⟩, fun b hb => hF.off b (Nat.lt_of_lt_of_le hb h.bel.size) (h.off b hb).1 (h.off b hb).2, by have := h.st; omega⟩
theorem Pv.below {w w' w2 : World} {bd br : Nat} {S : DS} {R : RS} {ro k : Int} (h : Pv w w' bd br S R ro k) (hb : Below w'.heap.size w' w2) : Pv w w2 bd br S R ro k :=
  ⟨h.tw.below hb, h.bel.trans (hb.mono h.bel.size), h.off, h.st⟩
theorem Pv.new {w w1 w2 : World} {bd : Nat} {S : DS} {r : Int} (h0 : 0 ≤ r) (h1 : r ≤ 1073741824) (hD : DiskIs w1 bd S) (hb : Below w.heap.size w w1) (hS : S = { room := r, bm := w.heap.size, down := false, steps := 0, armed := 0, pl := none, plan := fun _ => 0, fs := [], fl := S.fl, role := S.role }) (hr : ∀ b, b < w.heap.size → S.role b = .none)
    (hR : RefIs w2 w1.heap.size { room := r, frm := 0, n := 0, lv := .slice none 0 0, A := [], pv := .slice none 0 0, plan := [], down := false, own := fun b => if b = w1.heap.size then 1 else 0 }) (hb2 : Below w1.heap.size w1 w2) :
    Pv w w2 bd w1.heap.size S { room := r, frm := 0, n := 0, lv := .slice none 0 0, A := [], pv := .slice none 0 0, plan := [], down := false, own := fun b => if b = w1.heap.size then 1 else 0 } r 0 := by
  have ha : absP S = [] := by rw [hS]; rfl
  refine ⟨⟨hD.below hb2, ⟨?_, by rw [hS], ⟨h0, h1⟩, by rw [ha]; exact wf_nil h0⟩, hR, ⟨PlanR.nil rfl, ?_, rfl, ⟨h0, h1⟩, wf_nil h0, List.Pairwise.nil⟩, by rw [ha]; rfl, fun b hb' => ?_, by rw [hS], by rw [hS], by rw [hS], fun x _ => by rw [hS]; rfl⟩, hb.trans (hb2.mono hb.size), fun b hb' => ⟨hr b hb', if_neg (by have := hb.size; omega)⟩, by rw [hS]; exact Int.le_refl 0⟩
  · rw [hS]
    unfold Cnt
    show (0 : Int) ≤ 0 ∧ (0 : Int) ≤ 0 ∧ (0 : Int) < 4611686018427387904
    omega
  · unfold Rn
    show (0 : Int) ≤ 0 ∧ (0 : Int) < 4611686018427387904
    omega
  · have : b = w1.heap.size := by
      by_cases e : b = w1.heap.size
      · exact e
      · exact absurd (if_neg e) hb'
    subst this
    exact hD.fresh _ (Nat.le_refl _)
end Go.Proofs.YtoplejbmgpgkhaaGreatDoor
/- disk: DiskPlays' walk. -/
namespace Go.Proofs.YtoplejbmgpgkhaaGreatDoor
open Go.RowKit Go.Maps Go.Joins Go.Sort
set_option linter.unusedSimpArgs false
set_option linter.unusedVariables false
theorem down_R {w : World} {bd br : Nat} {S : DS} {R : RS} {ro : Int} (h : Tw w bd br S R ro) : Calls Tryz.prog 49 #[.pointer (some ⟨bd, 0, none⟩)] w fun e w' => e = .returned (.bool R.down) ∧ w' = w := by
  rw [← h.down]
  exact down_any h.disk
theorem steps_R {w : World} {bd br : Nat} {S : DS} {R : RS} {ro : Int} (h : Tw w bd br S R ro) : Calls Tryz.prog 31 #[.pointer (some ⟨bd, 0, none⟩)] w fun e w' => e = .returned (.int .i64 R.n) ∧ w' = w := by
  rw [← h.steps]
  exact steps_any h.disk
theorem below_drewN (w : World) (n : Nat) : Below w.heap.size w (w.drewN n) := ⟨rfl, rfl, rfl, Nat.le_refl _, fun _ _ => rfl⟩
end Go.Proofs.YtoplejbmgpgkhaaGreatDoor
/- disk: DiskPlays' arguments. -/
namespace Go.Proofs.YtoplejbmgpgkhaaGreatDoor
open Go.Deep Go.ChangeShapes Go.WideShapes Go.ChangeAt Go.WideElems Go.RowKit Go.ChangeMaps
set_option linter.unusedSimpArgs false
set_option linter.unusedVariables false
theorem cells82 : Tryz.prog.cellsOf 106 = 2 := by kernel_rfl
theorem bytes82 : Tryz.prog.bytesOf 106 = 16 := by kernel_rfl
theorem list2 {α : Type} : ∀ {l : List α}, l.length = 2 → ∃ c0 c1, l = [c0, c1]
  | [c0, c1], _ => ⟨c0, c1, rfl⟩
section
variable {H : Type} {enc : TypeId × Value → H} {W : World}
/-- Numbers. -/
theorem open_is2 {fuel : Nat} {cs : List Value} {x : DataW H × List MemPlace} (h : DataW.trod enc Tryz.prog W 0 (fun _ => true) true fuel 37 cs = some x) :
    ∃ ka kc ks, cs = [.slice ka ks.length kc] ∧ IntsV W (.slice ka ks.length kc) ks ∧ ks.length ≤ 9223372036854775807 := by
  obtain ⟨v, ks, rfl, hi, hl⟩ := open_is h
  obtain ⟨a, cap, rfl, hc⟩ := id hi
  exact ⟨a, cap, ks, rfl, hi, hl⟩
/-- A fault. -/
theorem open_flt {fuel : Nat} {cs : List Value} {x : DataW H × List MemPlace} (h : DataW.trod enc Tryz.prog W 0 (fun _ => true) true fuel 106 cs = some x) :
    ∃ p : Int × Int, cs = [.int .i64 p.1, .int .i64 p.2] ∧ (Lit.int .i64 p.1).wf = true ∧ (Lit.int .i64 p.2).wf = true := by
  obtain ⟨xs, n, _, rfl, hcl, hxl, hf⟩ := DataW.trod_struct Tryz.underlying106 h
  rw [cells82] at hcl
  obtain ⟨c0, c1, rfl⟩ := list2 hcl
  obtain ⟨x0, x1, rfl⟩ := list2 (show xs.length = 2 from hxl)
  have g0 : DataW.trod enc Tryz.prog W 0 (fun _ => true) true n 3 (([c0, c1].drop 0).take (Tryz.prog.cellsOf 3)) = some x0 := hf 0 _ rfl
  rw [cells3] at g0
  have g1 : DataW.trod enc Tryz.prog W 0 (fun _ => true) true n 3 (([c0, c1].drop 1).take (Tryz.prog.cellsOf 3)) = some x1 := hf 1 _ rfl
  rw [cells3] at g1
  obtain ⟨a, e0, _, w0⟩ := DataW.trod_int Tryz.underlying3 g0
  obtain ⟨b, e1, _, w1⟩ := DataW.trod_int Tryz.underlying3 g1
  injection e0 with e0
  injection e1 with e1
  subst e0 e1
  exact ⟨(a, b), rfl, w0, w1⟩
set_option maxRecDepth 100000 in
/-- Faults. -/
theorem open_pl {fuel : Nat} {cs : List Value} {x : DataW H × List MemPlace} (h : DataW.trod enc Tryz.prog W 0 (fun _ => true) true fuel 38 cs = some x) :
    ∃ pa pc ps, cs = [.slice pa ps.length pc] ∧ FltV W pa ps ∧ FW ps ∧ (pa = none → pc = 0 ∧ ps = []) ∧ (ps = [] ∨ ∃ n ∈ x.1.weights Tryz.prog 38, ps.length * 16 ≤ n) := by
  obtain ⟨d, q⟩ := x
  rcases open_slice Tryz.underlying38 h with ⟨rfl, _⟩ | ⟨a, len, cap, m, n, D, Pl, rfl, _, hl, hcap, hm, hx, hel⟩
  · exact ⟨none, 0, [], rfl, fun j p hj => by simp at hj, fun p hp => by simp at hp, fun _ => ⟨rfl, rfl⟩, Or.inl rfl⟩
  · simp only [if_true] at hm
    subst hm
    injection hx with hd hp
    subst hd
    have hsp : 0 < len → a.spot = none := fun h0 => by
      obtain ⟨cs', hcs, ht⟩ := hel 0 (by omega)
      rw [cells82] at hcs
      obtain ⟨_, hlen, hcell⟩ := World.cells?_some hcs
      obtain ⟨p, rfl, _, _⟩ := open_flt ht
      have h2 := World.cell?_spot (hcell 0 (by omega))
      simpa [Addr.add] using h2
    have hex : ∀ k, ∃ p : Int × Int, k < len → (W.cell? (a.add (k * 2)) = some (.int .i64 p.1) ∧ W.cell? (a.add (k * 2 + 1)) = some (.int .i64 p.2) ∧ (Lit.int .i64 p.1).wf = true ∧ (Lit.int .i64 p.2).wf = true) := by
      intro k
      by_cases hk : k < len
      · obtain ⟨cs', hcs, ht⟩ := hel k (by omega)
        rw [cells82] at hcs
        obtain ⟨_, hlen, hcell⟩ := World.cells?_some hcs
        obtain ⟨p, rfl, w0, w1⟩ := open_flt ht
        have h0 := hcell 0 (by omega)
        have h1 := hcell 1 (by omega)
        obtain ⟨g, o, spot⟩ := a
        have hspot : spot = none := by
          exact hsp (by omega)
        subst hspot
        rw [Addr.add_lit, Addr.add_lit] at h0 h1
        rw [Addr.add_lit, Addr.add_lit]
        refine ⟨p, fun _ => ⟨by simpa using h0, by simpa [Nat.add_assoc] using h1, w0, w1⟩⟩
      · exact ⟨(0, 0), fun h => absurd h hk⟩
    obtain ⟨f, hf⟩ := Classical.axiomOfChoice hex
    have hfl : ((List.range len).map f).length = len := by simp
    refine ⟨some a, m, (List.range len).map f, by rw [hfl], fun j p hj => ?_, fun p hp => ?_, (fun h => by cases h), Or.inr ⟨(len + (m - len)) * 16, ?_, by rw [hfl]; omega⟩⟩
    · have hjl : j < len := by have := (List.getElem?_eq_some_iff.1 hj).1; omega
      rw [List.getElem?_map, List.getElem?_range hjl] at hj
      injection hj with hj
      subst hj
      obtain ⟨h0, h1, _⟩ := hf j hjl
      obtain ⟨g, o, spot⟩ := a
      have hspot : spot = none := by
        exact hsp (by omega)
      subst hspot
      rw [Addr.add_lit] at h0 h1
      exact ⟨g, o, rfl, h0, by rw [← h1, Nat.add_assoc]⟩
    · obtain ⟨k, hk, rfl⟩ := List.mem_map.1 hp
      exact (hf k (List.mem_range.1 hk)).2.2
    · show _ ∈ DataW.weights Tryz.prog 38 _
      unfold DataW.weights
      rw [Tryz.underlying38]
      simp [bytes82]
end
end Go.Proofs.YtoplejbmgpgkhaaGreatDoor
