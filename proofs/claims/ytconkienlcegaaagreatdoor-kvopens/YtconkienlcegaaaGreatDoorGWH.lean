/- PF, PO, PI, PW, WG, WH -/
import Derived.Test.YtconkienlcegaaaGreatDoorGWE
import Derived.Test.YtconkienlcegaaaGreatDoorGPE
import Derived.Test.YtconkienlcegaaaGreatDoorGRI
import Derived.Test.YtconkienlcegaaaGreatDoorGRC
import Derived.BigQuiet
import Derived.Deep.AppendLies
import Derived.Maps.Views
import Derived.Test.YtconkienlcegaaaGreatDoorGRK
import Derived.Test.YtconkienlcegaaaGreatDoorGRA
import Derived.Test.YtconkienlcegaaaGreatDoorWF
import Derived.Test.YtconkienlcegaaaGreatDoorRows
import Derived.Carry
import Derived.ChangeSlices
import Derived.ChangeMaps5
import Derived.SizedLaws
import Derived.Deep.Slices
import Derived.Deep.Fields
import Derived.Test.YtconkienlcegaaaGreatDoorGDD
namespace Go.Proofs.YtconkienlcegaaaGreatDoor
open Go.RowKit Go.Maps Go.Joins
set_option linter.unusedSimpArgs false
set_option linter.unusedVariables false
def pK (l : List (Int × Int)) (x : Int) : Int := match l.find? (fun p => p.1 == x) with
 | some p => p.2
 | none => 0
theorem before_lt : ∀ (x y : List UInt8), bytesBefore x y = true → x < y
 | [], [], h => by simp [bytesBefore] at h
 | [], b :: y, _ => List.nil_lt_cons b y
 | a :: x, [], h => by simp [bytesBefore] at h
 | a :: x, b :: y, h => by
   rw [List.cons_lt_cons_iff]; simp only [bytesBefore, Bool.or_eq_true, Bool.and_eq_true, decide_eq_true_eq, beq_iff_eq] at h; rcases h with h | ⟨h1, h2⟩
   · exact Or.inl h
   · exact Or.inr ⟨h1, before_lt x y h2⟩
theorem names_sorted {w : World} {bd : Nat} {S : DS} (h : DiskIs w bd S) {ss : List (List UInt8)} (hp : ss.Perm (S.fs.map (·.1))) : ss.mergeSort (fun x y => decide (x ≤ y)) = S.fs.map (·.1) := by
 have hs : (S.fs.map (·.1)).Pairwise (fun a b => decide (a ≤ b) = true) := by
  have h1 := h.srt; unfold Srt absP at h1; rw [List.pairwise_map] at h1 ⊢; exact h1.imp fun {a b} h2 => by
   simp only [decide_eq_true_eq]; exact List.le_of_lt (before_lt _ _ h2)
 refine List.Perm.eq_of_pairwise (le := fun a b => decide (a ≤ b) = true) (fun a b _ _ h1 h2 => ?_) (List.pairwise_mergeSort (fun a b c h1 h2 => ?_) (fun a b => ?_) ss) hs ((List.mergeSort_perm ss _).trans hp)
 · simp only [decide_eq_true_eq] at h1 h2
   exact List.le_antisymm h1 h2
 · simp only [decide_eq_true_eq] at h1 h2 ⊢
   exact List.le_trans h1 h2
 · simp only [Bool.or_eq_true, decide_eq_true_eq]
   exact List.le_total a b
def keepT (p : Tf) (ks : List Int) (j : Nat) : Int := match ks[j]? with
 | none => p.2.2
 | some x => min (max x p.2.2) p.2.1.length
def bootT (l : List Tf) (ks : List Int) : List Tf := l.mapIdx fun j p => (p.1, p.2.1.take (keepT p ks j).toNat, keepT p ks j)
theorem cut_abs {w : World} {bd : Nat} {S S' : DS} {ks : List Int} {ss : List (List UInt8)} (h : DiskIs w bd S) (hp : ss.Perm (S.fs.map (·.1))) (hc : Cutto (upS S) S' (ss.mergeSort (fun x y => decide (x ≤ y))) ks ss.length) : absP S' = bootT (absP S) ks := by
 rw [names_sorted h hp] at hc; have hfs : S'.fs = S.fs := hc.fs; have hlen : ss.length = S.fs.length := by rw [hp.length_eq, List.length_map]
 apply List.ext_getElem?
 intro j; unfold absP bootT; rw [List.getElem?_mapIdx, List.getElem?_map, List.getElem?_map, hfs]; by_cases hj : j < S.fs.length
 · obtain ⟨p, hpj⟩ : ∃ p, S.fs[j]? = some p := ⟨_, List.getElem?_eq_getElem hj⟩
   have hd := hc.done j p.1 (by omega) (by rw [List.getElem?_map, hpj]; rfl); rw [hpj]; show some (p.1, (S'.fl p.1).bs, (S'.fl p.1).safe) = _; rw [hd.1, hd.2]; rfl
 · rw [List.getElem?_eq_none (by omega)]
   rfl
theorem boot_sum {ks : List Int} : ∀ {l : List Tf} {o : Nat}, sumT (l.mapIdx fun j p => ((p.1, p.2.1.take (keepT p ks (o + j)).toNat, keepT p ks (o + j)) : Tf)) ≤ sumT l
 | [], _ => by simp [sumT]
 | p :: l, o => by
   rw [List.mapIdx_cons]; have ih := boot_sum (ks := ks) (l := l) (o := o + 1); have e : (List.mapIdx ((fun j p => ((p.1, p.2.1.take (keepT p ks (o + j)).toNat, keepT p ks (o + j)) : Tf)) ∘ fun x => x + 1) l) = l.mapIdx fun j p => ((p.1, p.2.1.take (keepT p ks (o + 1 + j)).toNat, keepT p ks (o + 1 + j)) : Tf) := by
    congr 1
    funext j p
    simp only [Function.comp]; rw [show o + (j + 1) = o + 1 + j by omega]
   simp only [sumT]; rw [List.length_take]; have e2 : (List.mapIdx (fun i p => ((p.1, p.2.1.take (keepT p ks (o + (i + 1))).toNat, keepT p ks (o + (i + 1))) : Tf)) l) = l.mapIdx fun j p => ((p.1, p.2.1.take (keepT p ks (o + 1 + j)).toNat, keepT p ks (o + 1 + j)) : Tf) := by
    congr 1
    funext j p
    rw [show o + (j + 1) = o + 1 + j by omega]
   rw [e2]; omega
theorem boot_wf {l : List Tf} {ro : Int} (h : Wf l ro) (ks : List Int) : Wf (bootT l ks) ro := by
 refine ⟨by unfold bootT; rw [List.length_mapIdx]; exact h.len, ?_, fun p hp => ?_⟩
 · have h1 := boot_sum (ks := ks) (l := l) (o := 0)
   simp only [Nat.zero_add] at h1; have h2 := h.sum; unfold bootT; omega
 · unfold bootT at hp
   obtain ⟨j, hj, hpj⟩ := List.mem_mapIdx.1 hp; have hs := h.safe _ (List.getElem_mem hj); subst hpj; simp only; rw [List.length_take]; unfold keepT; split <;> omega
theorem info9b : (Tryz.prog.info? 9).map (fun i => (i.zero, i.size, i.bytes)) = some (some (.string ByteArray.empty), 1, 16) := by kernel_rfl
theorem info9c : ∃ i, Tryz.prog.info? 9 = some i ∧ i.zero = some (.string ByteArray.empty) ∧ i.size = 1 ∧ i.bytes = 16 := by
 have := info9b; cases h : Tryz.prog.info? 9 with
 | none => rw [h] at this; cases this
 | some i =>
   rw [h] at this; simp at this; exact ⟨i, rfl, this.1, this.2.1, this.2.2⟩
def nmL (A : List RF) : List Value := A.map fun f => .string f.nm
theorem wpList_append_s {w : World} {ops : Array Oper} {rest : List Oper} {o : Oper} {a : Act} {Q : Exit → Act → World → Prop} (hgd : o.guard = none) (s x : Operand)
 (ho : o.op = .call { callee := .builtin .append, args := #[s, x], argTypes := #[112, 112] }) (base : Nat)
 (v : Value) (A : List RF) (f : RF) (hs : a.eval s = v) (hown : w.ownsRow base 9 1 v A.length (nmL A)) (g : Nat) (hg : w.heap[g]? = some (.cells #[.string f.nm] 9)) (hx : a.eval x = .slice (some ⟨g, 0, none⟩) 1 1)
 (hl : A.length ≤ 1000) (hbase : base ≤ w.heap.size)
 (h : ∀ v' w', w'.ownsRow base 9 1 v' (A ++ [f]).length (nmL (A ++ [f])) → w.grownBy w' v.ownBlock → (v'.ownBlock = v.ownBlock ∨ v'.ownBlock = some w.heap.size) → wpList Tryz.prog ops Q rest (a.put o.dst v') w') : wpList Tryz.prog ops Q (o :: rest) a w := by
 obtain ⟨i0, hi, hz0, hz1, hz2⟩ := info9c; refine wpList_append_own_at w hgd s x 112 ho base 9 i0 _ 1 16 Tryz.underlying112 hi hz0 hz1 hz2 rfl (by decide) v A.length (nmL A) hs hown ⟨g, 0, none⟩ 1 1 [.string f.nm] hx rfl (fun j u hu => ?_) (by simp [Value.oneCell']) (by unfold maxLen; omega) (by omega) hbase (fun v' w' a b _ d => h v' w' ?_ b d)
 · rw [Addr.add_lit, Nat.zero_add, cell_of_block hg]
   simpa using hu
 · rw [List.length_append]
   have : nmL (A ++ [f]) = nmL A ++ [.string f.nm] := by simp [nmL]
   rw [this]; exact a
set_option maxRecDepth 100000 in
set_option maxHeartbeats 8000000 in
theorem rlist_any {w : World} {br : Nat} {R : RS} (h : RefIs w br R) (hl : R.A.length ≤ 1000) :
 Calls Tryz.prog 77 #[.pointer (some ⟨br, 0, none⟩)] w fun e w' => ∃ v, e = .returned v ∧ w'.ownsRow w.heap.size 9 1 v (if R.down then [] else R.A).length (nmL (if R.down then [] else R.A)) ∧ Below w.heap.size w w' := by
 have c3 : w.cell? ⟨br, 3, none⟩ = some R.lv := by rw [cell_of_block h.disk]; rfl
 have c5 : w.cell? ⟨br, 5, none⟩ = some (.bool R.down) := by rw [cell_of_block h.disk]; rfl
 obtain ⟨a, cap, hlv⟩ := row_form h.list; rw [hlv] at c3; have HLV : Hid (R.lv = .slice a R.A.length cap) := hlv; have HR : Hid (RefIs w br R) := h; have hlt := h.lt; clear h hlv; cases hd : R.down
 · rw [hd] at c5
   clear hd; go_enter Tryz.func77, Tryz.ntmps77; go_wp2; go_loopw [3, 4] (fun o i wr => ∃ k : Nat, k ≤ R.A.length ∧ i = .int .i64 k ∧ wr.ownsRow w.heap.size 9 1 o (R.A.take k).length (nmL (R.A.take k)) ∧ Below w.heap.size w wr) (fun _ i _ => R.A.length - (intOf i).toNat)
   case atStart => exact ⟨0, Nat.zero_le _, rfl, World.ownsRow_nil _ _ _ _, Below.refl _ _⟩
   case round =>
    obtain ⟨k, hk, rfl, hown, hb⟩ := hrel; have cw : wr.cell? ⟨br, 3, none⟩ = some (.slice a R.A.length cap) := (hb.cell (p := ⟨br, 3, none⟩) hlt).trans c3; have cw5 : wr.cell? ⟨br, 5, none⟩ = some (.bool false) := (hb.cell (p := ⟨br, 5, none⟩) hlt).trans c5; obtain ⟨oa, ocap, hov⟩ := row_form hown; subst hov; have hkl0 : (R.A.take k).length = k := by rw [List.length_take]; omega
    by_cases hkl : k < R.A.length
    · obtain ⟨f, hf⟩ : ∃ f, R.A[k]? = some f := ⟨_, List.getElem?_eq_getElem hkl⟩
      obtain ⟨g, cap', hv, _, hgl, _, hc⟩ := HR.out.cell hf; have hc0 : wr.cell? ⟨g, k * 3, none⟩ = some (.string f.nm) := (hb.cell (p := ⟨g, k * 3, none⟩) hgl).trans (by have := hc 0 (.string f.nm) rfl; rwa [Nat.add_zero] at this); rw [HLV.out] at hv; injection hv with hva _ _
      subst hva; have hki : (k : Int) < R.A.length := by omega
      have HO2 : Hid ((wr.alloc (.cells #[.string f.nm] 9)).ownsRow w.heap.size 9 1 (.slice oa (R.A.take k).length ocap) (R.A.take k).length (nmL (R.A.take k)) ∧ Below w.heap.size w (wr.alloc (.cells #[.string f.nm] 9)) ∧ (wr.alloc (.cells #[.string f.nm] 9)).heap[wr.heap.size]? = some (.cells #[.string f.nm] 9)) := ⟨hown.alloc _, hb.alloc hb.size _, heap_alloc_new _ _⟩
      clear hc hown hb; go_wp2_with (first
       | (at_builtin
          refine wpList_append_s rfl _ _ rfl w.heap.size (.slice oa (R.A.take k).length ocap) (R.A.take k) f rfl HO2.out.1 wr.heap.size HO2.out.2.2 rfl (by omega) HO2.out.2.1.size ?_; intro v' w2 ho hg2 ha; have H2 : Hid (w2.ownsRow w.heap.size 9 1 v' (R.A.take k ++ [f]).length (nmL (R.A.take k ++ [f])) ∧ Below w.heap.size w w2) := ⟨ho, HO2.out.2.1.grown hg2 HO2.out.2.1.size (fun j hj => (HO2.out.1.lt j hj).1)⟩
          clear ho hg2 ha)
       | go_in)
      go_roundw
      case rel =>
       refine ⟨k + 1, by omega, by go_num, ?_, H2.out.2⟩; rw [List.take_add_one, hf]; exact H2.out.1
      case measure => simp [intOf]; omega
    · have hki : decide ((k : Int) < R.A.length) = false := by simp; omega
      obtain rfl : k = R.A.length := by omega
      rw [List.take_length] at *; have HO : Hid (wr.ownsRow w.heap.size 9 1 (.slice oa R.A.length ocap) R.A.length (nmL R.A) ∧ Below w.heap.size w wr) := ⟨hown, hb⟩
      clear hown hb; go_wp2; go_ret; exact ⟨_, rfl, HO.out⟩
 · rw [hd] at c5
   clear hd; go_enter Tryz.func77, Tryz.ntmps77; go_wp2; refine wp_loop_rounds 1 ?_; rw [rounds_succ]; by_cases h0 : (0 : Int) < R.A.length
   · go_wp2
     go_ret; exact ⟨_, rfl, World.ownsRow_nil _ _ _ _, Below.refl _ _⟩
   · have h0' : decide ((0 : Int) < R.A.length) = false := by simpa using h0
     go_wp2; go_ret
     exact ⟨_, rfl, World.ownsRow_nil _ _ _ _, Below.refl _ _⟩
end Go.Proofs.YtconkienlcegaaaGreatDoor
namespace Go.Proofs.YtconkienlcegaaaGreatDoor
open Go.RowKit Go.Maps Go.Joins Go.Sort
set_option linter.unusedSimpArgs false
set_option linter.unusedVariables false
def StrV (w : World) (v : Value) (l : List ByteArray) : Prop := ∃ a cap, v = .slice a l.length cap ∧ ∀ j s, l[j]? = some s → ∃ g, a = some ⟨g, 0, none⟩ ∧ w.cell? ⟨g, j, none⟩ = some (.string s)
theorem StrV.of_own {w : World} {base : Nat} {v : Value} {l : List ByteArray} (h : w.ownsRow base 9 1 v l.length (l.map Value.string)) : StrV w v l := by
 obtain ⟨a, cap, rfl⟩ := row_form h; refine ⟨a, cap, rfl, fun j s hj => ?_⟩; have hl := (List.getElem?_eq_some_iff.1 hj).1; rcases h.2 with ⟨_, h0⟩ | ⟨g, cap', cur, e, _⟩
 · omega
 · injection e with e1 e2 e3
   subst e1; have h0 := h.cells (g := g) rfl j (.string s) (by rw [List.getElem?_map, hj]; rfl); rw [Addr.add_lit, Nat.zero_add] at h0; exact ⟨g, rfl, h0⟩
end Go.Proofs.YtconkienlcegaaaGreatDoor
namespace Go.Proofs.YtconkienlcegaaaGreatDoor
open Go.RowKit Go.Maps Go.Joins
set_option linter.unusedSimpArgs false
set_option linter.unusedVariables false
structure DA where
 l : List Tf
 down : Bool
 steps : Int
 armed : Int
 plan : Int → Int
 room : Int
def absD (S : DS) : DA := ⟨absP S, S.down, S.steps, S.armed, S.plan, S.room⟩
def DA.k (A : DA) : Int := A.plan (A.steps + 1 - A.armed)
def DA.sE (A : DA) (s : ByteArray) : Int := if A.down then 32 else if nameB s then faultE A.k else 1
def DA.sS (A : DA) (s : ByteArray) : DA := if A.down then A else if nameB s then { A with down := decide (A.k = 3), steps := A.steps + 1 } else A
def dDo (A : DA) (s : ByteArray) (e : Int) (l' : List Tf) : Int × DA := (if A.sE s = 0 then e else A.sE s, { A.sS s with l := if A.sE s = 0 then l' else A.l })
def dSync (A : DA) (s : ByteArray) : Int × DA := dDo A s (eFind A.l s) (lSync A.l s)
def dRead (A : DA) (s : ByteArray) : Int × DA := dDo A s (eFind A.l s) A.l
def dBytes (A : DA) (s : ByteArray) : List Int := if A.sE s = 0 then (match fT A.l (nb s) with | some p => p.2.1 | none => []) else []
def dTru (A : DA) (s : ByteArray) (x : Int) : Int × DA := dDo A s (eTru A.l s x) (lTru A.l s x)
def dApp (A : DA) (s : ByteArray) (bs : List Int) : Int × DA := dDo A s (eApp A.l A.room s bs) (lApp A.l A.room s bs)
theorem okN_one (s : ByteArray) : okN [s] = nameB s := by simp [okN]
theorem stepE_abs (S : DS) (s : ByteArray) : stepE S [s] = (absD S).sE s := by unfold stepE DA.sE; rw [okN_one]; rfl
theorem stepS_abs (S : DS) (s : ByteArray) : (stepS S [s]).down = ((absD S).sS s).down ∧ (stepS S [s]).steps = ((absD S).sS s).steps := by
 unfold stepS DA.sS; rw [okN_one]; show _ = (if S.down = true then absD S else if nameB s = true then { absD S with down := decide ((absD S).k = 3), steps := S.steps + 1 } else absD S).down ∧ _ = (if S.down = true then absD S else if nameB s = true then { absD S with down := decide ((absD S).k = 3), steps := S.steps + 1 } else absD S).steps; split
 · exact ⟨rfl, rfl⟩
 · split
   · exact ⟨rfl, rfl⟩
   · exact ⟨rfl, rfl⟩
theorem sS_rest (A : DA) (s : ByteArray) : (A.sS s).armed = A.armed ∧ (A.sS s).plan = A.plan ∧ (A.sS s).room = A.room := by
 unfold DA.sS; split
 · exact ⟨rfl, rfl, rfl⟩
 · split
   · exact ⟨rfl, rfl, rfl⟩
   · exact ⟨rfl, rfl, rfl⟩
theorem gs_abs {S S' : DS} {s : ByteArray} {e : Int} {l' : List Tf} (h : GS S S' (stepS S [s]).down (stepS S [s]).steps (gL (stepE S [s]) (absP S) l')) : absD S' = (dDo (absD S) s e l').2 := by
 obtain ⟨a1, a2⟩ := stepS_abs S s; obtain ⟨b1, b2, b3⟩ := sS_rest (absD S) s; have e1 : (dDo (absD S) s e l').2 = ⟨if (absD S).sE s = 0 then l' else absP S, ((absD S).sS s).down, ((absD S).sS s).steps, ((absD S).sS s).armed, ((absD S).sS s).plan, ((absD S).sS s).room⟩ := rfl; have e2 : absD S' = ⟨absP S', S'.down, S'.steps, S'.armed, S'.plan, S'.room⟩ := rfl; rw [e1, e2, h.abs, h.down, h.steps, h.armed, h.plan, h.room, a1, a2, b1, b2, b3]; unfold gL; rw [stepE_abs]; rfl
theorem gI_abs (S : DS) (s : ByteArray) (e : Int) (l' : List Tf) : gI (stepE S [s]) e = (dDo (absD S) s e l').1 := by
 unfold gI; rw [stepE_abs]; rfl
theorem dDo_steps (A : DA) (s : ByteArray) (e : Int) (l' : List Tf) : A.steps ≤ (dDo A s e l').2.steps ∧ (dDo A s e l').2.steps ≤ A.steps + 1 := by
 show A.steps ≤ (A.sS s).steps ∧ (A.sS s).steps ≤ A.steps + 1; unfold DA.sS; split
 · omega
 · split
   · show A.steps ≤ A.steps + 1 ∧ A.steps + 1 ≤ A.steps + 1
     omega
   · omega
theorem GB.next {S S' : DS} {ro : Int} {s : ByteArray} {e : Int} {l' : List Tf} (h : GB S ro) (hG : GS S S' (stepS S [s]).down (stepS S [s]).steps (gL (stepE S [s]) (absP S) l')) (hw : Wf l' ro) (hst : S.steps < 4611686018427387903) : GB S' ro := by
 have h1 := gs_abs (e := e) hG; have h2 := dDo_steps (absD S) s e l'; have h3 : S'.steps = (dDo (absD S) s e l').2.steps := congrArg DA.steps h1; have h4 : (absD S).steps = S.steps := rfl; have hc := h.cnt; unfold Cnt at hc; refine ⟨?_, hG.room.trans h.rm, h.r0, ?_⟩
 · unfold Cnt
   rw [hG.armed]; omega
 · rw [hG.abs]
   unfold gL; split
   · exact hw
   · exact h.wf
structure F3 (w w' : World) (S : DS) (L : LS) (S' : DS) (L' : LS) : Prop where
 os : w'.os = w.os
 tape : w'.tape = w.tape
 output : w'.output = w.output
 size : w.heap.size ≤ w'.heap.size
 block : ∀ b, b < w.heap.size → S.role b = .none → L.own b = 0 → w'.heap[b]? = w.heap[b]?
 off : ∀ b, b < w.heap.size → S.role b = .none → L.own b = 0 → S'.role b = .none ∧ L'.own b = 0
theorem F3.refl (w : World) (S : DS) (L : LS) : F3 w w S L S L := ⟨rfl, rfl, rfl, Nat.le_refl _, fun _ _ _ _ => rfl, fun _ _ h h' => ⟨h, h'⟩⟩
theorem F3.trans {w w' w'' : World} {S S' S'' : DS} {L L' L'' : LS} (h : F3 w w' S L S' L') (k : F3 w' w'' S' L' S'' L'') : F3 w w'' S L S'' L'' :=
 ⟨k.os.trans h.os, k.tape.trans h.tape, k.output.trans h.output, Nat.le_trans h.size k.size,
  fun b hb h1 h2 => (k.block b (Nat.lt_of_lt_of_le hb h.size) (h.off b hb h1 h2).1 (h.off b hb h1 h2).2).trans (h.block b hb h1 h2),
  fun b hb h1 h2 => k.off b (Nat.lt_of_lt_of_le hb h.size) (h.off b hb h1 h2).1 (h.off b hb h1 h2).2⟩
theorem F3.below {w w' : World} {S : DS} {L : LS} (h : Below w.heap.size w w') : F3 w w' S L S L := ⟨h.os, h.tape, h.output, h.size, fun b hb _ _ => h.block b hb, fun _ _ h1 h2 => ⟨h1, h2⟩⟩
structure DL (w : World) (bd bl : Nat) (S : DS) (L : LS) (ro : Int) : Prop where
 disk : DiskIs w bd S
 gb : GB S ro
 log : LogIs w bl L
 bdq : L.bd = bd
 apart : ∀ b, L.own b ≠ 0 → S.role b = .none
 vars : Vars w
 voff : ∀ b, b < 5 → S.role b = .none ∧ L.own b = 0
theorem DL.below {w w' : World} {bd bl : Nat} {S : DS} {L : LS} {ro : Int} (h : DL w bd bl S L ro) (hb : Below w.heap.size w w') : DL w' bd bl S L ro :=
 ⟨h.disk.below hb, h.gb, h.log.below hb, h.bdq, h.apart, h.vars.below hb, h.voff⟩
theorem DL.disked {w w' : World} {bd bl : Nat} {S S' : DS} {L : LS} {ro : Int} (h : DL w bd bl S L ro) (hD : DiskIs w' bd S') (hF : Fr w w' S S') (hG : GB S' ro) : DL w' bd bl S' L ro ∧ F3 w w' S L S' L := by
 have hvl := h.vars.lt; refine ⟨⟨hD, hG, h.log.kept (fun b hb => hF.block b (h.log.own_lt hb) (h.apart b hb)) hF.size, h.bdq, fun b hb => hF.role b (h.log.own_lt hb) (h.apart b hb), h.vars.kept (fun b hb => hF.block b (by omega) (h.voff b hb).1), fun b hb => ⟨hF.role b (by omega) (h.voff b hb).1, (h.voff b hb).2⟩⟩, ⟨hF.os, hF.tape, hF.output, hF.size, fun b hb h1 _ => hF.block b hb h1, fun b hb h1 h2 => ⟨hF.role b hb h1, h2⟩⟩⟩
theorem DL.off {w : World} {bd bl : Nat} {S : DS} {L : LS} {ro : Int} (h : DL w bd bl S L ro) (b : Nat) (hb : S.role b ≠ .none) : L.own b = 0 := by
 cases h1 : L.own b with
 | zero => rfl
 | succ n => exact absurd (h.apart b (by rw [h1]; simp)) hb
theorem DL.logged {w w' : World} {bd bl : Nat} {S : DS} {L L' : LS} {ro : Int} (h : DL w bd bl S L ro) (hL : LogIs w' bl L') (hF : LFr w w' L L') (hq : L'.bd = L.bd) : DL w' bd bl S L' ro ∧ F3 w w' S L S L' := by
 have hvl := h.vars.lt; refine ⟨⟨h.disk.kept (fun b hb => hF.block b (h.disk.role_lt hb) (h.off b hb)) hF.size, h.gb, hL, hq.trans h.bdq, fun b hb => ?_, h.vars.kept (fun b hb => hF.block b (by omega) (h.voff b hb).2), fun b hb => ⟨(h.voff b hb).1, hF.own b (by omega) (h.voff b hb).2⟩⟩, ⟨hF.os, hF.tape, hF.output, hF.size, fun b hb _ h2 => hF.block b hb h2, fun b hb h1 h2 => ⟨h1, hF.own b hb h2⟩⟩⟩; rcases Nat.lt_or_ge b w.heap.size with h1 | h1
 · by_cases h2 : L.own b = 0
   · exact absurd (hF.own b h1 h2) hb
   · exact h.apart b h2
 · exact h.disk.fresh b h1
def logB : ByteArray := ⟨#[100, 98]⟩
theorem logB_size : logB.size = 2 := rfl
theorem fileB_size (n : Int) : (fileB logB n).size ≤ 100 := by
 unfold fileB; split
 · simp
 · rename_i h
   have := Lib.itoa_length_le n (by omega) (by omega); simp only [ByteArray.size_append, logB_size]; show 2 + 1 + (Lib.itoa n).toArray.size ≤ 100; simp; omega
def setU (L : LS) (u : Bool) : LS := { L with uns := u }
theorem LogIs.setU {w : World} {bl : Nat} {L : LS} (h : LogIs w bl L) (u : Bool) : LogIs (w.setCell ⟨bl, 6, none⟩ (.bool u)) bl (setU L u) ∧ LFr w (w.setCell ⟨bl, 6, none⟩ (.bool u)) L (Proofs.YtconkienlcegaaaGreatDoor.setU L u) := by
 have hk : ∀ b, b ≠ bl → (w.setCell ⟨bl, 6, none⟩ (.bool u)).heap[b]? = w.heap[b]? := fun b hb => Below.heap_setCell _ _ _ _ hb
 have hne : ∀ b, L.own b ≠ 1 → b ≠ bl := fun b h1 e => h1 (by rw [e]; exact h.rl)
 refine ⟨⟨?_, h.rl, ownsRow_heap h.files (fun b hb => hk b (hne b (by rw [h.rf b hb]; simp))), h.rf, ownsRow_heap h.recs (fun b hb => hk b (hne b (by rw [h.rr b hb]; simp))), h.rr, fun p hp => (h.each p hp).keep (fun b hb => hk b (hne b (by rw [h.re p hp b hb]; simp))), h.re, fun b hb => h.fresh b (by simpa using hb)⟩, rfl, rfl, rfl, by simp, fun b h0 h1 => hk b (hne b (by rw [h1]; simp)), fun b h0 h1 => h1⟩; rw [block_setCell h.log]; simp [lC, Proofs.YtconkienlcegaaaGreatDoor.setU]
set_option maxHeartbeats 1000000 in
theorem lsync_clean {w : World} {bd bl : Nat} {S : DS} {L : LS} {ro : Int} (h : DL w bd bl S L ro) (hu : L.uns = false) : Calls Tryz.prog 84 #[.pointer (some ⟨bl, 0, none⟩)] w fun e w' => e = .returned (.int .i64 0) ∧ w' = w := by
 have c6 : w.cell? ⟨bl, 6, none⟩ = some (.bool false) := by rw [cell_of_block h.log.log]; show some (Value.bool L.uns) = _; rw [hu]
 clear h; go_enter Tryz.func84, Tryz.ntmps84; go_wp2; go_ret; exact ⟨rfl, rfl⟩
set_option maxRecDepth 100000 in
set_option maxHeartbeats 4000000 in
theorem lsync_dirty {w : World} {bd bl : Nat} {S : DS} {L : LS} {ro : Int} (h : DL w bd bl S L ro) (hu : L.uns = true) {x : Int} (hx : L.fs.getLast? = some x) (hnm : L.nm = logB) (hst : S.steps < 4611686018427387903) :
 Calls Tryz.prog 84 #[.pointer (some ⟨bl, 0, none⟩)] w fun e w' => ∃ S' c, e = .returned (.int .i64 c) ∧ c = (dSync (absD S) (fileB logB x)).1 ∧ absD S' = (dSync (absD S) (fileB logB x)).2 ∧ DL w' bd bl S' (setU L (decide (c ≠ 0))) ro ∧ F3 w w' S L S' (setU L (decide (c ≠ 0))) := by
 have c6 : w.cell? ⟨bl, 6, none⟩ = some (.bool true) := by rw [cell_of_block h.log.log]; show some (Value.bool L.uns) = _; rw [hu]
 have HH : Hid (DL w bd bl S L ro ∧ L.fs.getLast? = some x ∧ L.nm = logB ∧ L.uns = true) := ⟨h, hx, hnm, hu⟩
 have hB0 : L.bd = bd := h.bdq; clear h hx hnm hu; go_enter Tryz.func84, Tryz.ntmps84; go_wp2_with fail; refine wp_region_held_drew (S := fun w' => w'.heap[bl]? = some (.cells (lC L) 141)) (by kernel_rfl) HH.out.1.log.log (fun hHeld => ?_); refine tk 0 (.pointer (some ⟨bl, 0, none⟩)) (fun w9 hSw => ?_) hHeld ?_
 · go_simp
 simp only [sm]; refine tk 1 (.pointer (some ⟨bl, 0, none⟩)) (fun w9 hSw => ?_) hHeld ?_
 · go_simp
 simp only [sm]; refine tk 2 (.pointer (some ⟨bl, 0, none⟩)) (fun w9 hSw => ?_) hHeld ?_
 · go_simp
 simp only [sm]; refine tk 3 (.pointer (some ⟨bd, 0, none⟩)) (fun w9 hSw => ?_) hHeld ?_
 · have hc : w9.cell? ⟨bl, 0, none⟩ = some (.pointer (some ⟨bd, 0, none⟩)) := (cell_of_block hSw 0).trans (by show some (Value.pointer (some ⟨L.bd, 0, none⟩)) = _; rw [hB0])
   go_simp
 simp only [sm]; refine tk 4 (.pointer (some ⟨bl, 0, none⟩)) (fun w9 hSw => ?_) hHeld ?_
 · go_simp
 simp only [sm]; refine tk 5 (.pointer (some ⟨bl, 0, none⟩)) (fun w9 hSw => ?_) hHeld ?_
 · go_simp
 simp only [sm]; refine tk 6 (.pointer (some ⟨bl, 1, none⟩)) (fun w9 hSw => ?_) hHeld ?_
 · go_simp
 simp only [sm]; refine tk 7 (.string logB) (fun w9 hSw => ?_) hHeld ?_
 · have hc : w9.cell? ⟨bl, 1, none⟩ = some (.string logB) := (cell_of_block hSw 1).trans (by show some (Value.string L.nm) = _; rw [HH.out.2.2.1])
   go_simp
 simp only [sm]; refine tk 8 (.pointer (some ⟨bl, 0, none⟩)) (fun w9 hSw => ?_) hHeld ?_
 · go_simp
 simp only [sm]; refine rd 9 (fun K hK => ?_); have H1 : DL w.drew bd bl S L ro ∧ F3 w w.drew S L S L := ⟨HH.out.1.below ⟨rfl, rfl, rfl, Nat.le_refl _, fun _ _ => rfl⟩, F3.below ⟨rfl, rfl, rfl, Nat.le_refl _, fun _ _ => rfl⟩⟩
 generalize w.drew = w1 at hHeld H1 ⊢; go_simp; refine Calls.mono (last_any H1.1.log HH.out.2.1) ?_; rintro e w2 ⟨rfl, m2, rfl⟩; have H2 : DL (w1.drewN m2) bd bl S L ro ∧ F3 w (w1.drewN m2) S L S L := ⟨H1.1.below (below_drewN' _ _), H1.2.trans (F3.below (below_drewN' _ _))⟩
 have hH2 : (w1.drewN m2).heap[bl]? = some (.cells (lC L) 141) := hHeld; generalize w1.drewN m2 = w2 at hH2 H2 ⊢; clear H1 hHeld; go_wp2_with fail; refine hK.out _ _ hH2 (fun hHeld => ?_); clear hK K; try simp only [sm]
 refine rd 10 (fun K hK => ?_); go_simp; refine Calls.mono (file_any H2.1.vars logB (by decide) x) ?_; rintro e w3 ⟨rfl, hb3⟩; have H3 : DL w3 bd bl S L ro ∧ F3 w w3 S L S L := ⟨H2.1.below hb3, H2.2.trans (F3.below hb3)⟩
 have hH3 : w3.heap[bl]? = some (.cells (lC L) 141) := H3.1.log.log; clear H2 hHeld hH2 hb3; go_wp2_with fail; refine hK.out _ _ hH3 (fun hHeld => ?_); clear hK K; try simp only [sm]
 refine rd 11 (fun K hK => ?_); have HW := sync_wf H3.1.disk.srt H3.1.gb.wf (fileB logB x); go_simp; refine Calls.mono (g_sync H3.1.disk H3.1.gb (fileB logB x) (by have := fileB_size x; omega)) ?_; rintro e w4 ⟨rfl, S', hD, hF, hG⟩; obtain ⟨K1, K2⟩ := H3.1.disked hD hF (H3.1.gb.next (e := eFind (absP S) (fileB logB x)) hG HW hst); have H4 : Hid (DL w4 bd bl S' L ro ∧ F3 w w4 S L S' L ∧ absD S' = (dSync (absD S) (fileB logB x)).2) := ⟨K1, H3.2.trans K2, gs_abs hG⟩
 have hE := gI_abs S (fileB logB x) (eFind (absP S) (fileB logB x)) (lSync (absP S) (fileB logB x)); rw [hE]; have hH4 : w4.heap[bl]? = some (.cells (lC L) 141) := K1.log.log; obtain ⟨c, hc⟩ : ∃ c, c = (dSync (absD S) (fileB logB x)).1 := ⟨_, rfl⟩
 have HC : Hid (c = (dSync (absD S) (fileB logB x)).1) := hc; rw [show (dDo (absD S) (fileB logB x) (eFind (absP S) (fileB logB x)) (lSync (absP S) (fileB logB x))).1 = c from hc.symm]; clear H3 hHeld hH3 hD hF hG K1 K2 hE hc HW; go_wp2_with fail; refine hK.out _ _ hH4 (fun hHeld => ?_); clear hK K; try simp only [sm]
 refine tk 12 (.int .i64 c) (fun w9 hSw => ?_) hHeld ?_
 · go_simp
 simp only [sm]; refine wpAnyH_done (by kernel_rfl) ?_ _; by_cases hc0 : c = 0
 · have hc1 : (c == 0) = true := by simpa using hc0
   have d6 : w4.cell? ⟨bl, 6, none⟩ = some (.bool true) := by rw [cell_of_block hH4]; show some (Value.bool L.uns) = _; rw [HH.out.2.2.2]
   have f6 : w4.frozen? ⟨bl, 6, none⟩ = false := unfrozen_of_block hH4 6; have HC0 : Hid (c = 0) := hc0; clear hc0 hHeld; go_wp2; go_ret; obtain ⟨q1, q2⟩ := H4.out.1.log.setU false; obtain ⟨r1, r2⟩ := H4.out.1.logged q1 q2 rfl; refine ⟨S', 0, rfl, by rw [← HC.out, HC0.out], H4.out.2.2, ?_, ?_⟩
   · exact r1
   · exact H4.out.2.1.trans r2
 · have hc1 : (c == 0) = false := by simpa using hc0
   have hLL : setU L (decide (c ≠ 0)) = L := by
    have : decide (c ≠ 0) = L.uns := by rw [HH.out.2.2.2]; simpa using hc0
    rw [this]; rfl
   have HLL : Hid (setU L (decide (c ≠ 0)) = L) := hLL; clear hLL hc0; go_wp2; go_ret; refine ⟨S', c, rfl, HC.out, H4.out.2.2, ?_, ?_⟩
   · rw [HLL.out]; exact H4.out.1
   · rw [HLL.out]; exact H4.out.2.1
end Go.Proofs.YtconkienlcegaaaGreatDoor
