/- PU, PO, PI, PW, WG -/
import Derived.Test.YtconkienlcegaaaGreatDoorGPT
import Derived.Maps.Views
import Derived.Test.YtconkienlcegaaaGreatDoorGCA
import Derived.Test.YtconkienlcegaaaGreatDoorGWF
import Derived.BigQuiet
import Derived.Test.YtconkienlcegaaaGreatDoorRows
import Derived.Carry
import Derived.ChangeSlices
import Derived.ChangeMaps5
import Derived.SizedLaws
import Derived.Deep.Slices
import Derived.Deep.Fields
namespace Go.Proofs.YtconkienlcegaaaGreatDoor
open Go.RowKit Go.Maps Go.Joins
set_option linter.unusedSimpArgs false
set_option linter.unusedVariables false
def hasP (l : List (Int × Int)) (x : Int) : Bool := l.any (fun p => p.1 == x)
/-- The program's map of a plan. -/
structure PlD (D : DataW Unit) (l : List (Int × Int)) : Prop where
 map : IsMap D
 kind : ∀ x, D.atKey (.int .i64 x) (.lit (.int .i64 0)) = .lit (.int .i64 (pK l x))
 has : ∀ x, Maps.has D (.int .i64 x) = hasP l x
theorem PlD.nil : PlD (.map []) [] := ⟨isMap_empty, fun _ => rfl, fun _ => rfl⟩
theorem pK_snoc {l : List (Int × Int)} {p : Int × Int} (h : hasP l p.1 = false) (x : Int) : pK (l ++ [p]) x = if x = p.1 then p.2 else pK l x := by
 unfold pK; rw [List.find?_append]; by_cases e : x = p.1
 · subst e
   have : l.find? (fun q => q.1 == p.1) = none := by
    rw [List.find?_eq_none]; intro q hq; unfold hasP at h; rw [List.any_eq_false] at h
    simpa using h q hq
   rw [this]; simp
 · rw [if_neg e]
   have : [p].find? (fun q => q.1 == x) = none := by
    rw [List.find?_eq_none]; intro q hq; simp at hq; subst hq
    simpa using fun h => e h.symm
   rw [this, Option.or_none]
theorem PlD.put {D : DataW Unit} {l : List (Int × Int)} (h : PlD D l) {p : Int × Int} (hn : hasP l p.1 = false) : PlD (D.put (.int .i64 p.1) (.lit (.int .i64 p.2))) (l ++ [p]) := by
 have hk : WideAt.IsKeyLit (.int .i64 p.1) := trivial; refine ⟨(?_ : IsMap _), fun x => ?_, fun x => ?_⟩
 · obtain ⟨es, rfl⟩ := h.map
   exact ⟨_, rfl⟩
 · rw [pK_snoc hn]
   by_cases e : x = p.1
   · subst e
     rw [atKey_put_same h.map hk, if_pos rfl]
   · rw [atKey_put_other (fun hc => e (by injection hc)), h.kind, if_neg e]
 · unfold hasP
   rw [List.any_append]; by_cases e : x = p.1
   · subst e
     rw [has_put_same h.map hk]; simp
   · rw [has_put_other (fun hc => e (by injection hc)), h.has]
     have : [p].any (fun q => q.1 == x) = false := by simpa using fun h => e h.symm
     rw [this, Bool.or_false]; rfl
theorem hasP_take {ps : List (Int × Int)} {k : Nat} {x : Int} : hasP (ps.take k) x = true ↔ ∃ (j : Nat) (q : Int × Int), j < k ∧ ps[j]? = some q ∧ q.1 = x := by
 unfold hasP; rw [List.any_eq_true]; constructor
 · rintro ⟨q, hq, he⟩
   obtain ⟨j, hj⟩ := List.mem_iff_getElem?.1 hq; rw [List.getElem?_take] at hj; split at hj
   · exact ⟨j, q, by assumption, hj, by simpa using he⟩
   · cases hj
 · rintro ⟨j, q, hj, hq, he⟩
   exact ⟨q, List.mem_iff_getElem?.2 ⟨j, by rw [List.getElem?_take, if_pos hj]; exact hq⟩, by simpa using he⟩
/-- A disk with a new plan. -/
def armS (S : DS) (b : Nat) (ps : List (Int × Int)) : DS := { S with armed := S.steps, pl := some b, plan := fun x => pK ps x, role := fun x => if x = b then .plan else S.role x }
theorem arm_end {w wr : World} {bd : Nat} {S : DS} {D : DataW Unit} {n : Nat} {ps : List (Int × Int)} (h : DiskIs w bd S) (hB : Below w.heap.size w wr) (hm : wr.ownsMap (H := Unit) Tryz.prog 3 (plainElem Tryz.prog 3) w.heap.size n D) (hD : PlD D ps) :
 DiskIs ((wr.setCell ⟨bd, 5, none⟩ (.map (some w.heap.size))).setCell ⟨bd, 4, none⟩ (.int .i64 S.steps)) bd (armS S w.heap.size ps) ∧ Fr w ((wr.setCell ⟨bd, 5, none⟩ (.map (some w.heap.size))).setCell ⟨bd, 4, none⟩ (.int .i64 S.steps)) S (armS S w.heap.size ps) := by
 have hlt := h.lt; have hmlt := hm.lt; have hw := h.below hB; have hk : ∀ b, b ≠ bd → ((wr.setCell ⟨bd, 5, none⟩ (.map (some w.heap.size))).setCell ⟨bd, 4, none⟩ (.int .i64 S.steps)).heap[b]? = wr.heap[b]? := fun b hb => (Below.heap_setCell _ _ _ _ hb).trans (Below.heap_setCell _ _ _ _ hb)
 have hold : ∀ b, S.role b ≠ .none → (armS S w.heap.size ps).role b = S.role b := fun b hb => if_neg (fun hc => by
  have h2 := h.role_lt hb; omega)
 have hne : ∀ b, S.role b ≠ .none → S.role b ≠ .disk → b ≠ bd := fun b _ h1 e => h1 (by rw [e]; exact h.rd)
 refine ⟨⟨?_, ?_, ?_, ?_, ?_, fun b hb => ?_, fun p hp => ?_, fun p hp => ?_, fun p hp => ?_, fun p hp b hb => ?_, fun b hb => ?_⟩, ?_⟩
 · rw [block_setCell (block_setCell hw.disk _) _]
   simp [dC, armS]
 · rw [hold bd (by rw [h.rd]; simp)]
   exact h.rd
 · exact ownsMap_heap hw.files (hk S.bm (hne S.bm (by rw [h.rm]; simp) (by rw [h.rm]; simp)))
 · show (armS S w.heap.size ps).role S.bm = .map
   rw [hold _ (by rw [h.rm]; simp)]; exact h.rm
 · exact ⟨n, D, ownsMap_heap hm (hk _ (by omega)), fun x _ => hD.kind x⟩
 · injection hb with hb
   subst hb; exact if_pos rfl
 · exact (hk _ (hne _ (by rw [h.rf p hp]; simp) (by rw [h.rf p hp]; simp))).trans (hw.file p hp)
 · show (armS S w.heap.size ps).role p.2 = .file p.1
   rw [hold _ (by rw [h.rf p hp]; simp)]; exact h.rf p hp
 · exact ownsRow_heap (hw.row p hp) (fun b hb => hk b (hne _ (by rw [h.rr p hp b hb]; simp) (by rw [h.rr p hp b hb]; simp)))
 · show (armS S w.heap.size ps).role b = .bytes p.1
   rw [hold _ (by rw [h.rr p hp b hb]; simp)]; exact h.rr p hp b hb
 · have hb' : wr.heap.size ≤ b := by simpa using hb
   show (if b = w.heap.size then Role.plan else S.role b) = .none; rw [if_neg (by omega)]; exact hw.fresh b hb'
 · refine ⟨hB.os, hB.tape, hB.output, by simpa using hB.size, fun b h0 h1 => ?_, fun b h0 h1 => ?_⟩
   · exact (hk b (fun e => by rw [e, h.rd] at h1; cases h1)).trans (hB.block b h0)
   · show (if b = w.heap.size then Role.plan else S.role b) = .none
     rw [if_neg (by omega)]; exact h1
/-- Numbers as they are. -/
def FW (ps : List (Int × Int)) : Prop := ∀ p ∈ ps, (Lit.int .i64 p.1).wf = true ∧ (Lit.int .i64 p.2).wf = true
def ArmR (w : World) (bd : Nat) (S : DS) (ps : List (Int × Int)) (e : Ending) (w' : World) : Prop := (Right ps ∧ e = .returned (.int .i64 0) ∧ ∃ b, DiskIs w' bd (armS S b ps) ∧ Fr w w' S (armS S b ps)) ∨ (¬ Right ps ∧ e = .returned (.int .i64 1) ∧ Below w.heap.size w w')
set_option maxRecDepth 100000 in
set_option maxHeartbeats 8000000 in
theorem arm_any {w : World} {bd : Nat} {S : DS} (h : DiskIs w bd S) (va : Option Addr) (vc : Nat) (ps : List (Int × Int)) (hv : FltV w va ps) (hw : FW ps) :
 Calls Tryz.prog 20 #[.pointer (some ⟨bd, 0, none⟩), .slice va ps.length vc] w fun e w' => ArmR w bd S ps e w' := by
 by_cases h64 : 64 < ps.length
 · clear hv
   go_enter Tryz.func20, Tryz.ntmps20
   go_wp2; go_ret
   exact Or.inr ⟨fun h => by have := h.1; omega, rfl, Below.refl _ _⟩
 have HV : Hid (FltV w va ps ∧ FW ps ∧ DiskIs w bd S) := ⟨hv, hw, h⟩
 have hlt := h.lt; clear hv hw h; have hm := fun w => run_makeMap (P := Tryz.prog) 87 w
 go_enter Tryz.func20, Tryz.ntmps20
 go_wp2; go_loopw [18] (fun i wr => ∃ (k : Nat) (D : DataW Unit), k ≤ ps.length ∧ i = .int .i64 k ∧ OkTo ps k ∧ wr.ownsMap (H := Unit) Tryz.prog 3 (plainElem Tryz.prog 3) w.heap.size k D ∧ PlD D (ps.take k) ∧ Below w.heap.size w wr) (fun i _ => ps.length - (intOf i).toNat)
 case atStart => exact ⟨0, .map [], Nat.zero_le _, rfl, ⟨fun j p hj => by omega, fun i j p q _ hj => by omega⟩, World.ownsMap_made w Tryz.prog 3 _, PlD.nil, by go_grown⟩
 case round =>
  obtain ⟨k, D, hk, rfl, hok, hown, hpl, hb⟩ := hrel; have HO : Hid (OkTo ps k ∧ wr.ownsMap (H := Unit) Tryz.prog 3 (plainElem Tryz.prog 3) w.heap.size k D ∧ PlD D (ps.take k) ∧ Below w.heap.size w wr) := ⟨hok, hown, hpl, hb⟩
  by_cases hkn : k < ps.length
  · obtain ⟨p, hp⟩ : ∃ p, ps[k]? = some p := ⟨_, List.getElem?_eq_getElem hkn⟩
    obtain ⟨g, o, rfl, c0, c1⟩ := (HV.out.1.below hb) k p hp; have HP : Hid (ps[k]? = some p) := hp; have hwp := HV.out.2.1 p (List.mem_of_getElem? hp); have hki : (k : Int) < ps.length := by omega
    obtain ⟨v, qs, hrun, hvv⟩ := (hown.alloc (.cells #[.int .i64 p.1, .int .i64 p.2] 121)).look_ok law3 Tryz.underlying87 (zero3 _) (zd := .lit (.int .i64 0)) (zp := []) (plainElem_int Tryz.underlying3 (by decide)) (keyOf_int_mk Tryz.underlying3 hwp.1); obtain ⟨c, rfl, _, _⟩ := plainElem_int_inv Tryz.underlying3 hvv; rw [hpl.has] at hrun; have HW : Hid ((Lit.int .i64 p.1).wf = true ∧ (Lit.int .i64 p.2).wf = true) := hwp; clear hok hb hp hown hpl hwp hvv; cases hh : hasP (ps.take k) p.1 with
    | true =>
      rw [hh] at hrun; have HH : Hid (hasP (ps.take k) p.1 = true) := hh; clear hh; go_wp2; go_ret; refine Or.inr ⟨fun h => ?_, rfl, HO.out.2.2.2.alloc HO.out.2.2.2.size _⟩; obtain ⟨j, q, hj, hq, he⟩ := hasP_take.1 HH.out; exact absurd he (h.2.two j k q p hj hkn hq HP.out)
    | false =>
      rw [hh] at hrun; have HH : Hid (hasP (ps.take k) p.1 = false) := hh; clear hh; by_cases h1 : p.1 < 1
      · go_wp2
        go_ret; exact Or.inr ⟨fun h => by have := h.2.each k p hkn HP.out; omega, rfl, HO.out.2.2.2.alloc HO.out.2.2.2.size _⟩
      by_cases h2 : p.2 < 1
      · go_wp2
        go_ret; exact Or.inr ⟨fun h => by have := h.2.each k p hkn HP.out; omega, rfl, HO.out.2.2.2.alloc HO.out.2.2.2.size _⟩
      by_cases h3 : 3 < p.2
      · go_wp2
        go_ret; exact Or.inr ⟨fun h => by have := h.2.each k p hkn HP.out; omega, rfl, HO.out.2.2.2.alloc HO.out.2.2.2.size _⟩
      have HO2 : Hid ((wr.alloc (.cells #[.int .i64 p.1, .int .i64 p.2] 121)).ownsMap (H := Unit) Tryz.prog 3 (plainElem Tryz.prog 3) w.heap.size k D) := HO.out.2.1.alloc _; go_wp2_with (first
       | (at_mapUpdate
          refine wpList_mapUpdate_own _ rfl _ _ _ 87 rfl 3 3 law3 Tryz.underlying87 (plainElem Tryz.prog 3) w.heap.size k D rfl HO2.out (by unfold maxLen; omega) _ _ _ rfl rfl (keyOf_int_mk Tryz.underlying3 HW.out.1) (.lit (.int .i64 p.2)) [] (plainElem_int Tryz.underlying3 HW.out.2) ?_; intro w4 hown4 hg4; have H4 : Hid (w4.ownsMap (H := Unit) Tryz.prog 3 (plainElem Tryz.prog 3) w.heap.size (k + 1) (D.put (.int .i64 p.1) (.lit (.int .i64 p.2))) ∧ Below w.heap.size w w4) := ⟨hown4, (HO.out.2.2.2.alloc HO.out.2.2.2.size _).grown hg4 (by have := HO.out.2.2.2.size; simp; omega) (fun j hj => by injection hj with hj; omega)⟩
          clear hown4 hg4)
       | go_in)
      go_roundw
      case rel =>
       have e : ps.take (k + 1) = ps.take k ++ [p] := by rw [List.take_add_one, HP.out]; rfl
       refine ⟨k + 1, _, by omega, by go_num, ⟨fun j r hj hr => ?_, fun i j r q hij hj hr hq => ?_⟩, H4.out.1, ?_, H4.out.2⟩
       · by_cases ej : j = k
         · subst ej
           rw [HP.out] at hr; injection hr with hr
           rw [← hr]; omega
         · exact HO.out.1.each j r (by omega) hr
       · by_cases ej : j = k
         · subst ej
           rw [HP.out] at hq; injection hq with hq
           rw [← hq]; intro he; have := hasP_take.2 ⟨i, r, hij, hr, he⟩; rw [HH.out] at this; cases this
         · exact HO.out.1.two i j r q hij (by omega) hr hq
       · rw [e]
         exact HO.out.2.2.1.put HH.out
      case measure => simp [intOf]; omega
  · obtain rfl : k = ps.length := by omega
    clear hok hb hkn hown hpl; have hd := (HV.out.2.2.below HO.out.2.2.2).disk; have e3 : wr.cell? ⟨bd, 3, none⟩ = some (.int .i64 S.steps) := by rw [cell_of_block hd]; rfl
    have e4 : wr.cell? ⟨bd, 4, none⟩ = some (.int .i64 S.armed) := by rw [cell_of_block hd]; rfl
    have e5 : wr.cell? ⟨bd, 5, none⟩ = some (.map S.pl) := by rw [cell_of_block hd]; rfl
    have f4 : wr.frozen? ⟨bd, 4, none⟩ = false := unfrozen_of_block hd 4; have f5 : wr.frozen? ⟨bd, 5, none⟩ = false := unfrozen_of_block hd 5; clear hd; go_wp2; go_ret; have hpl := HO.out.2.2.1; rw [List.take_length] at hpl; exact Or.inl ⟨⟨by omega, HO.out.1⟩, rfl, w.heap.size, arm_end HV.out.2.2 HO.out.2.2.2 HO.out.2.1 hpl⟩
theorem before_lt : ∀ (x y : List UInt8), bytesBefore x y = true → x < y
 | [], [], h => by simp [bytesBefore] at h
 | [], b :: y, _ => List.nil_lt_cons b y
 | a :: x, [], h => by simp [bytesBefore] at h
 | a :: x, b :: y, h => by
   rw [List.cons_lt_cons_iff]; simp only [bytesBefore, Bool.or_eq_true, Bool.and_eq_true, decide_eq_true_eq, beq_iff_eq] at h; rcases h with h | ⟨h1, h2⟩
   · exact Or.inl h
   · exact Or.inr ⟨h1, before_lt x y h2⟩
theorem names_sorted {w : World} {bd : Nat} {S : DS} (h : DiskIs w bd S) {ss : List (List UInt8)} (hp : ss.Perm (S.fs.map (·.1))) : ss.mergeSort (fun x y => decide (x ≤ y)) = S.fs.map (·.1) := by
 have hs : (S.fs.map (·.1)).Pairwise (fun a b => decide (a ≤ b) = true) := by
  have h1 := h.srt; unfold Srt absP at h1; rw [List.pairwise_map] at h1 ⊢; exact h1.imp fun {a b} h2 => by
   simp only [decide_eq_true_eq]; exact List.le_of_lt (before_lt _ _ h2)
 refine List.Perm.eq_of_pairwise (le := fun a b => decide (a ≤ b) = true) (fun a b _ _ h1 h2 => ?_) (List.pairwise_mergeSort (fun a b c h1 h2 => ?_) (fun a b => ?_) ss) hs ((List.mergeSort_perm ss _).trans hp)
 · simp only [decide_eq_true_eq] at h1 h2
   exact List.le_antisymm h1 h2
 · simp only [decide_eq_true_eq] at h1 h2 ⊢
   exact List.le_trans h1 h2
 · simp only [Bool.or_eq_true, decide_eq_true_eq]
   exact List.le_total a b
def keepT (p : Tf) (ks : List Int) (j : Nat) : Int := match ks[j]? with
 | none => p.2.2
 | some x => min (max x p.2.2) p.2.1.length
def bootT (l : List Tf) (ks : List Int) : List Tf := l.mapIdx fun j p => (p.1, p.2.1.take (keepT p ks j).toNat, keepT p ks j)
theorem cut_abs {w : World} {bd : Nat} {S S' : DS} {ks : List Int} {ss : List (List UInt8)} (h : DiskIs w bd S) (hp : ss.Perm (S.fs.map (·.1))) (hc : Cutto (upS S) S' (ss.mergeSort (fun x y => decide (x ≤ y))) ks ss.length) : absP S' = bootT (absP S) ks := by
 rw [names_sorted h hp] at hc; have hfs : S'.fs = S.fs := hc.fs; have hlen : ss.length = S.fs.length := by rw [hp.length_eq, List.length_map]
 apply List.ext_getElem?
 intro j; unfold absP bootT; rw [List.getElem?_mapIdx, List.getElem?_map, List.getElem?_map, hfs]; by_cases hj : j < S.fs.length
 · obtain ⟨p, hpj⟩ : ∃ p, S.fs[j]? = some p := ⟨_, List.getElem?_eq_getElem hj⟩
   have hd := hc.done j p.1 (by omega) (by rw [List.getElem?_map, hpj]; rfl); rw [hpj]; show some (p.1, (S'.fl p.1).bs, (S'.fl p.1).safe) = _; rw [hd.1, hd.2]; rfl
 · rw [List.getElem?_eq_none (by omega)]
   rfl
theorem boot_sum {ks : List Int} : ∀ {l : List Tf} {o : Nat}, sumT (l.mapIdx fun j p => ((p.1, p.2.1.take (keepT p ks (o + j)).toNat, keepT p ks (o + j)) : Tf)) ≤ sumT l
 | [], _ => by simp [sumT]
 | p :: l, o => by
   rw [List.mapIdx_cons]; have ih := boot_sum (ks := ks) (l := l) (o := o + 1); have e : (List.mapIdx ((fun j p => ((p.1, p.2.1.take (keepT p ks (o + j)).toNat, keepT p ks (o + j)) : Tf)) ∘ fun x => x + 1) l) = l.mapIdx fun j p => ((p.1, p.2.1.take (keepT p ks (o + 1 + j)).toNat, keepT p ks (o + 1 + j)) : Tf) := by
    congr 1
    funext j p
    simp only [Function.comp]; rw [show o + (j + 1) = o + 1 + j by omega]
   simp only [sumT]; rw [List.length_take]; have e2 : (List.mapIdx (fun i p => ((p.1, p.2.1.take (keepT p ks (o + (i + 1))).toNat, keepT p ks (o + (i + 1))) : Tf)) l) = l.mapIdx fun j p => ((p.1, p.2.1.take (keepT p ks (o + 1 + j)).toNat, keepT p ks (o + 1 + j)) : Tf) := by
    congr 1
    funext j p
    rw [show o + (j + 1) = o + 1 + j by omega]
   rw [e2]; omega
theorem boot_wf {l : List Tf} {ro : Int} (h : Wf l ro) (ks : List Int) : Wf (bootT l ks) ro := by
 refine ⟨by unfold bootT; rw [List.length_mapIdx]; exact h.len, ?_, fun p hp => ?_⟩
 · have h1 := boot_sum (ks := ks) (l := l) (o := 0)
   simp only [Nat.zero_add] at h1; have h2 := h.sum; unfold bootT; omega
 · unfold bootT at hp
   obtain ⟨j, hj, hpj⟩ := List.mem_mapIdx.1 hp; have hs := h.safe _ (List.getElem_mem hj); subst hpj; simp only; rw [List.length_take]; unfold keepT; split <;> omega
theorem info9b : (Tryz.prog.info? 9).map (fun i => (i.zero, i.size, i.bytes)) = some (some (.string ByteArray.empty), 1, 16) := by kernel_rfl
end Go.Proofs.YtconkienlcegaaaGreatDoor
namespace Go.Proofs.YtconkienlcegaaaGreatDoor
open Go.RowKit Go.Maps Go.Joins Go.Sort
set_option linter.unusedSimpArgs false
set_option linter.unusedVariables false
/-- A slice of names. -/
def StrV (w : World) (v : Value) (l : List ByteArray) : Prop := ∃ a cap, v = .slice a l.length cap ∧ ∀ j s, l[j]? = some s → ∃ g, a = some ⟨g, 0, none⟩ ∧ w.cell? ⟨g, j, none⟩ = some (.string s)
theorem StrV.of_own {w : World} {base : Nat} {v : Value} {l : List ByteArray} (h : w.ownsRow base 9 1 v l.length (l.map Value.string)) : StrV w v l := by
 obtain ⟨a, cap, rfl⟩ := row_form h; refine ⟨a, cap, rfl, fun j s hj => ?_⟩; have hl := (List.getElem?_eq_some_iff.1 hj).1; rcases h.2 with ⟨_, h0⟩ | ⟨g, cap', cur, e, _⟩
 · omega
 · injection e with e1 e2 e3
   subst e1; have h0 := h.cells (g := g) rfl j (.string s) (by rw [List.getElem?_map, hj]; rfl); rw [Addr.add_lit, Nat.zero_add] at h0; exact ⟨g, rfl, h0⟩
end Go.Proofs.YtconkienlcegaaaGreatDoor
namespace Go.Proofs.YtconkienlcegaaaGreatDoor
open Go.RowKit Go.Maps Go.Joins
set_option linter.unusedSimpArgs false
set_option linter.unusedVariables false
/-- A disk, told apart from memory. -/
structure DA where
 l : List Tf
 down : Bool
 steps : Int
 armed : Int
 plan : Int → Int
 room : Int
def absD (S : DS) : DA := ⟨absP S, S.down, S.steps, S.armed, S.plan, S.room⟩
def DA.k (A : DA) : Int := A.plan (A.steps + 1 - A.armed)
def DA.sE (A : DA) (s : ByteArray) : Int := if A.down then 32 else if nameB s then faultE A.k else 1
def DA.sS (A : DA) (s : ByteArray) : DA := if A.down then A else if nameB s then { A with down := decide (A.k = 3), steps := A.steps + 1 } else A
/-- A call: its error, the disk behind it. -/
def dDo (A : DA) (s : ByteArray) (e : Int) (l' : List Tf) : Int × DA := (if A.sE s = 0 then e else A.sE s, { A.sS s with l := if A.sE s = 0 then l' else A.l })
def dSync (A : DA) (s : ByteArray) : Int × DA := dDo A s (eFind A.l s) (lSync A.l s)
def dRead (A : DA) (s : ByteArray) : Int × DA := dDo A s (eFind A.l s) A.l
def dBytes (A : DA) (s : ByteArray) : List Int := if A.sE s = 0 then (match fT A.l (nb s) with | some p => p.2.1 | none => []) else []
def dTru (A : DA) (s : ByteArray) (x : Int) : Int × DA := dDo A s (eTru A.l s x) (lTru A.l s x)
def dApp (A : DA) (s : ByteArray) (bs : List Int) : Int × DA := dDo A s (eApp A.l A.room s bs) (lApp A.l A.room s bs)
theorem okN_one (s : ByteArray) : okN [s] = nameB s := by simp [okN]
theorem stepE_abs (S : DS) (s : ByteArray) : stepE S [s] = (absD S).sE s := by unfold stepE DA.sE; rw [okN_one]; rfl
theorem stepS_abs (S : DS) (s : ByteArray) : (stepS S [s]).down = ((absD S).sS s).down ∧ (stepS S [s]).steps = ((absD S).sS s).steps := by
 unfold stepS DA.sS; rw [okN_one]; show _ = (if S.down = true then absD S else if nameB s = true then { absD S with down := decide ((absD S).k = 3), steps := S.steps + 1 } else absD S).down ∧ _ = (if S.down = true then absD S else if nameB s = true then { absD S with down := decide ((absD S).k = 3), steps := S.steps + 1 } else absD S).steps; split
 · exact ⟨rfl, rfl⟩
 · split
   · exact ⟨rfl, rfl⟩
   · exact ⟨rfl, rfl⟩
theorem sS_rest (A : DA) (s : ByteArray) : (A.sS s).armed = A.armed ∧ (A.sS s).plan = A.plan ∧ (A.sS s).room = A.room := by
 unfold DA.sS; split
 · exact ⟨rfl, rfl, rfl⟩
 · split
   · exact ⟨rfl, rfl, rfl⟩
   · exact ⟨rfl, rfl, rfl⟩
theorem gs_abs {S S' : DS} {s : ByteArray} {e : Int} {l' : List Tf} (h : GS S S' (stepS S [s]).down (stepS S [s]).steps (gL (stepE S [s]) (absP S) l')) : absD S' = (dDo (absD S) s e l').2 := by
 obtain ⟨a1, a2⟩ := stepS_abs S s; obtain ⟨b1, b2, b3⟩ := sS_rest (absD S) s; have e1 : (dDo (absD S) s e l').2 = ⟨if (absD S).sE s = 0 then l' else absP S, ((absD S).sS s).down, ((absD S).sS s).steps, ((absD S).sS s).armed, ((absD S).sS s).plan, ((absD S).sS s).room⟩ := rfl; have e2 : absD S' = ⟨absP S', S'.down, S'.steps, S'.armed, S'.plan, S'.room⟩ := rfl; rw [e1, e2, h.abs, h.down, h.steps, h.armed, h.plan, h.room, a1, a2, b1, b2, b3]; unfold gL; rw [stepE_abs]; rfl
theorem gI_abs (S : DS) (s : ByteArray) (e : Int) (l' : List Tf) : gI (stepE S [s]) e = (dDo (absD S) s e l').1 := by
 unfold gI; rw [stepE_abs]; rfl
theorem dDo_steps (A : DA) (s : ByteArray) (e : Int) (l' : List Tf) : A.steps ≤ (dDo A s e l').2.steps ∧ (dDo A s e l').2.steps ≤ A.steps + 1 := by
 show A.steps ≤ (A.sS s).steps ∧ (A.sS s).steps ≤ A.steps + 1; unfold DA.sS; split
 · omega
 · split
   · show A.steps ≤ A.steps + 1 ∧ A.steps + 1 ≤ A.steps + 1
     omega
   · omega
theorem GB.next {S S' : DS} {ro : Int} {s : ByteArray} {e : Int} {l' : List Tf} (h : GB S ro) (hG : GS S S' (stepS S [s]).down (stepS S [s]).steps (gL (stepE S [s]) (absP S) l')) (hw : Wf l' ro) (hst : S.steps < 4611686018427387903) : GB S' ro := by
 have h1 := gs_abs (e := e) hG; have h2 := dDo_steps (absD S) s e l'; have h3 : S'.steps = (dDo (absD S) s e l').2.steps := congrArg DA.steps h1; have h4 : (absD S).steps = S.steps := rfl; have hc := h.cnt; unfold Cnt at hc; refine ⟨?_, hG.room.trans h.rm, h.r0, ?_⟩
 · unfold Cnt
   rw [hG.armed]; omega
 · rw [hG.abs]
   unfold gL; split
   · exact hw
   · exact h.wf
/-- What lies beside a disk and a log stays. -/
structure F3 (w w' : World) (S : DS) (L : LS) (S' : DS) (L' : LS) : Prop where
 os : w'.os = w.os
 tape : w'.tape = w.tape
 output : w'.output = w.output
 size : w.heap.size ≤ w'.heap.size
 block : ∀ b, b < w.heap.size → S.role b = .none → L.own b = 0 → w'.heap[b]? = w.heap[b]?
 off : ∀ b, b < w.heap.size → S.role b = .none → L.own b = 0 → S'.role b = .none ∧ L'.own b = 0
theorem F3.refl (w : World) (S : DS) (L : LS) : F3 w w S L S L := ⟨rfl, rfl, rfl, Nat.le_refl _, fun _ _ _ _ => rfl, fun _ _ h h' => ⟨h, h'⟩⟩
theorem F3.trans {w w' w'' : World} {S S' S'' : DS} {L L' L'' : LS} (h : F3 w w' S L S' L') (k : F3 w' w'' S' L' S'' L'') : F3 w w'' S L S'' L'' :=
 ⟨k.os.trans h.os, k.tape.trans h.tape, k.output.trans h.output, Nat.le_trans h.size k.size,
  fun b hb h1 h2 => (k.block b (Nat.lt_of_lt_of_le hb h.size) (h.off b hb h1 h2).1 (h.off b hb h1 h2).2).trans (h.block b hb h1 h2),
  fun b hb h1 h2 => k.off b (Nat.lt_of_lt_of_le hb h.size) (h.off b hb h1 h2).1 (h.off b hb h1 h2).2⟩
theorem F3.below {w w' : World} {S : DS} {L : LS} (h : Below w.heap.size w w') : F3 w w' S L S L := ⟨h.os, h.tape, h.output, h.size, fun b hb _ _ => h.block b hb, fun _ _ h1 h2 => ⟨h1, h2⟩⟩
/-- A log and its disk. -/
structure DL (w : World) (bd bl : Nat) (S : DS) (L : LS) (ro : Int) : Prop where
 disk : DiskIs w bd S
 gb : GB S ro
 log : LogIs w bl L
 bdq : L.bd = bd
 apart : ∀ b, L.own b ≠ 0 → S.role b = .none
 vars : Vars w
 voff : ∀ b, b < 5 → S.role b = .none ∧ L.own b = 0
theorem DL.below {w w' : World} {bd bl : Nat} {S : DS} {L : LS} {ro : Int} (h : DL w bd bl S L ro) (hb : Below w.heap.size w w') : DL w' bd bl S L ro :=
 ⟨h.disk.below hb, h.gb, h.log.below hb, h.bdq, h.apart, h.vars.below hb, h.voff⟩
theorem DL.disked {w w' : World} {bd bl : Nat} {S S' : DS} {L : LS} {ro : Int} (h : DL w bd bl S L ro) (hD : DiskIs w' bd S') (hF : Fr w w' S S') (hG : GB S' ro) : DL w' bd bl S' L ro ∧ F3 w w' S L S' L := by
 have hvl := h.vars.lt; refine ⟨⟨hD, hG, h.log.kept (fun b hb => hF.block b (h.log.own_lt hb) (h.apart b hb)) hF.size, h.bdq, fun b hb => hF.role b (h.log.own_lt hb) (h.apart b hb), h.vars.kept (fun b hb => hF.block b (by omega) (h.voff b hb).1), fun b hb => ⟨hF.role b (by omega) (h.voff b hb).1, (h.voff b hb).2⟩⟩, ⟨hF.os, hF.tape, hF.output, hF.size, fun b hb h1 _ => hF.block b hb h1, fun b hb h1 h2 => ⟨hF.role b hb h1, h2⟩⟩⟩
theorem DL.off {w : World} {bd bl : Nat} {S : DS} {L : LS} {ro : Int} (h : DL w bd bl S L ro) (b : Nat) (hb : S.role b ≠ .none) : L.own b = 0 := by
 cases h1 : L.own b with
 | zero => rfl
 | succ n => exact absurd (h.apart b (by rw [h1]; simp)) hb
theorem DL.logged {w w' : World} {bd bl : Nat} {S : DS} {L L' : LS} {ro : Int} (h : DL w bd bl S L ro) (hL : LogIs w' bl L') (hF : LFr w w' L L') (hq : L'.bd = L.bd) : DL w' bd bl S L' ro ∧ F3 w w' S L S L' := by
 have hvl := h.vars.lt; refine ⟨⟨h.disk.kept (fun b hb => hF.block b (h.disk.role_lt hb) (h.off b hb)) hF.size, h.gb, hL, hq.trans h.bdq, fun b hb => ?_, h.vars.kept (fun b hb => hF.block b (by omega) (h.voff b hb).2), fun b hb => ⟨(h.voff b hb).1, hF.own b (by omega) (h.voff b hb).2⟩⟩, ⟨hF.os, hF.tape, hF.output, hF.size, fun b hb _ h2 => hF.block b hb h2, fun b hb h1 h2 => ⟨h1, hF.own b hb h2⟩⟩⟩; rcases Nat.lt_or_ge b w.heap.size with h1 | h1
 · by_cases h2 : L.own b = 0
   · exact absurd (hF.own b h1 h2) hb
   · exact h.apart b h2
 · exact h.disk.fresh b h1
/-- "db" -/
def logB : ByteArray := ⟨#[100, 98]⟩
theorem logB_size : logB.size = 2 := rfl
theorem fileB_size (n : Int) : (fileB logB n).size ≤ 100 := by
 unfold fileB; split
 · simp
 · rename_i h
   have := Lib.itoa_length_le n (by omega) (by omega); simp only [ByteArray.size_append, logB_size]; show 2 + 1 + (Lib.itoa n).toArray.size ≤ 100; simp; omega
end Go.Proofs.YtconkienlcegaaaGreatDoor
