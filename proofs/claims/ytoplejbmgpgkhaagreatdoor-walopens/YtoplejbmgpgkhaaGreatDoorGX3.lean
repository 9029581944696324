/- X1, X2, X3 -/
import Derived.Test.YtoplejbmgpgkhaaGreatDoorGX0
import Derived.Test.YtoplejbmgpgkhaaGreatDoorGWK
import Derived.Deep.RegionLaw
namespace Go.Proofs.YtoplejbmgpgkhaaGreatDoor
open Go.RowKit Go.Maps Go.Joins Go.Sort
set_option linter.unusedVariables false
set_option linter.unusedSimpArgs false
def absQ (R : RS) : DA := ⟨absR R.A, R.down, R.n, R.frm, fun x => pK R.plan x, R.room⟩
theorem rstE_abs (R : RS) (s : ByteArray) : rstE R s s = (absQ R).sE s := by
  unfold rstE DA.sE
  rw [Bool.and_self]
  rfl
theorem rstS_abs (R : RS) (s : ByteArray) : (rstS R s s).down = ((absQ R).sS s).down ∧ (rstS R s s).n = ((absQ R).sS s).steps := by
  unfold rstS DA.sS
  rw [Bool.and_self]
  show _ = (if R.down = true then absQ R else if nameB s = true then { absQ R with down := decide ((absQ R).k = 3), steps := R.n + 1 } else absQ R).down ∧ _ = (if R.down = true then absQ R else if nameB s = true then { absQ R with down := decide ((absQ R).k = 3), steps := R.n + 1 } else absQ R).steps
  split
  · exact ⟨rfl, rfl⟩
  · split
    · exact ⟨rfl, rfl⟩
    · exact ⟨rfl, rfl⟩
theorem hs_abs {R R' : RS} {s : ByteArray} {e : Int} {l' : List Tf} (h : HS R R' (rstS R s s).down (rstS R s s).n (gL (rstE R s s) (absR R.A) l')) : absQ R' = (dDo (absQ R) s e l').2 := by
  obtain ⟨a1, a2⟩ := rstS_abs R s
  obtain ⟨b1, b2, b3⟩ := sS_rest (absQ R) s
  have e1 : (dDo (absQ R) s e l').2 = ⟨if (absQ R).sE s = 0 then l' else absR R.A, ((absQ R).sS s).down, ((absQ R).sS s).steps, ((absQ R).sS s).armed, ((absQ R).sS s).plan, ((absQ R).sS s).room⟩ := rfl
  have e2 : absQ R' = ⟨absR R'.A, R'.down, R'.n, R'.frm, fun x => pK R'.plan x, R'.room⟩ := rfl
  rw [e1, e2, h.abs, h.down, h.n, h.frm, h.plan, h.room, a1, a2, b1, b2, b3]
  unfold gL
  rw [rstE_abs]
  rfl
theorem hI_abs (R : RS) (s : ByteArray) (e : Int) (l' : List Tf) : gI (rstE R s s) e = (dDo (absQ R) s e l').1 := by
  unfold gI
  rw [rstE_abs]
  rfl
theorem srt_set {l : List Tf} (h : Srt l) (n : List UInt8) (b : List Int) (s : Int) : Srt (setT l n b s) := by
  unfold Srt setT at *
  rw [List.pairwise_map]
  refine h.imp fun {p q} hpq => ?_
  have e : ∀ p : Tf, (if p.1 = n then (n, b, s) else p).1 = p.1 := fun p => by
    split
    · rename_i e
      exact e.symm
    · rfl
  rw [e, e]
  exact hpq
theorem srt_tru {l : List Tf} (h : Srt l) (s : ByteArray) (x : Int) : Srt (lTru l s x) := by
  unfold lTru
  split
  · split
    · split
      · exact h
      · exact srt_set h _ _ _
    · exact h
  · exact h
theorem HB.next {R R' : RS} {ro : Int} {s : ByteArray} {e : Int} {l' : List Tf} (h : HB R ro) (hG : HS R R' (rstS R s s).down (rstS R s s).n (gL (rstE R s s) (absR R.A) l')) (hw : Wf l' ro) (hs : Srt l') (hst : R.n < 4611686018427387903) : HB R' ro := by
  have h1 := hs_abs (e := e) hG
  have h2 := dDo_steps (absQ R) s e l'
  have h3 : R'.n = (dDo (absQ R) s e l').2.steps := congrArg DA.steps h1
  have h4 : (absQ R).steps = R.n := rfl
  have hc := h.cnt
  unfold Rn at hc
  refine ⟨⟨by rw [hG.plan]; exact h.planR.len, by rw [hG.plan]; exact h.planR.kind, fun hne => ?_⟩, ?_, hG.room.trans h.rm, h.r0, ?_, ?_⟩
  · have := h.planR.frm (by rw [← hG.plan]; exact hne)
    rw [hG.frm]
    omega
  · unfold Rn
    omega
  · rw [hG.abs]
    unfold gL
    split
    · exact hw
    · exact h.wf
  · rw [hG.abs]
    unfold gL
    split
    · exact hs
    · exact h.srt
theorem h_read2 {w : World} {br : Nat} {R : RS} {ro : Int} (h : RefIs w br R) (hb : HB R ro) (s : ByteArray) (hs : s.size ≤ 9223372036854775807) :
    Calls Tryz.prog 53 #[.pointer (some ⟨br, 0, none⟩), .string s] w fun e w' => ∃ v bs, e = .returned (.tuple #[v, .int .i64 (gI (rstE R s s) (eFind (absR R.A) s))]) ∧ w'.ownsRow w.heap.size 5 1 v bs.length (vB bs) ∧ bs = (if rstE R s s = 0 then (match fT (absR R.A) (nb s) with | some p => p.2.1 | none => []) else []) ∧ ∃ R', RefIs w' br R' ∧ RFr w w' R R' ∧ HS R R' (rstS R s s).down (rstS R s s).n (absR R.A) ∧ ∀ b, v.ownBlock = some b → R'.own b = 0 := by
  have hl := hb.len
  by_cases h1 : rstE R s s = 0
  case neg =>
    rw [gI1 h1]
    refine (rread_no h hb.planR hb.cnt (by omega) s hs (by rw [rthn h1]; exact h1)).mono ?_
    rintro e w' ⟨rfl, hD, hF⟩
    exact ⟨_, [], by rw [rthn h1], World.ownsRow_nil _ _ _ _, by rw [if_neg h1], _, hD, hF, HS.st R _ _, fun b hb => by cases hb⟩
  case pos =>
    have hnn := rs_name h1
    have hn : nameB s = true := by rw [← nn]; exact hnn
    have h2 := rs_zero h1
    rw [gI0 h1, h2]
    rcases idx_cases s R.A with hi | ⟨k, f, hi, hkf⟩
    · refine (rread_no h hb.planR hb.cnt (by omega) s hs (by rw [rthg h1 hi]; simp)).mono ?_
      rintro e w' ⟨rfl, hD, hF⟩
      rw [h2] at hD hF
      exact ⟨_, [], by rw [rthg h1 hi]; simp [eFind, hn, fT_absR_none hi], World.ownsRow_nil _ _ _ _, by rw [if_pos h1, fT_absR_none hi], _, hD, hF, HS.up R, fun b hb => by cases hb⟩
    · obtain ⟨hf1, hf2⟩ := fT_absR_some hi hkf
      have hle : f.bs.length ≤ 1073741824 := by
        have h3 := (del_here (p := tR f) rfl (fT_mem hf1).1).2
        have h4 := hb.wf.sum
        have h5 := hb.r0
        simp only [tR] at h3
        omega
      refine (rread_ok h hb.planR hb.cnt (by omega) s hs (rthh h1 hi) hi hkf hle).mono ?_
      rintro e w' ⟨v', rfl, ho, hD, hF⟩
      rw [h2] at hD hF
      refine ⟨v', f.bs, by simp [eFind, hn, hf1], ho, by rw [if_pos h1, hf1]; rfl, _, hD, hF, HS.up R, fun b hb' => ?_⟩
      exact h.fresh b (ho.lt b hb').1
end Go.Proofs.YtoplejbmgpgkhaaGreatDoor
namespace Go.Proofs.YtoplejbmgpgkhaaGreatDoor
open Go.RowKit Go.Maps Go.Joins Go.Sort
set_option linter.unusedVariables false
set_option linter.unusedSimpArgs false
/-- A slice of numbers, wherever it lies. -/
def IsV (w : World) (u : Value) (m : List Int) : Prop := (u = .slice none 0 0 ∧ m = []) ∨ ∃ ad cap, u = .slice (some ad) m.length cap ∧ ∀ j x, (vI m)[j]? = some x → w.cell? (ad.add j) = some x
theorem vI_one (m : List Int) : ∀ u ∈ vI m, u.oneCell' = true := fun u hu => by
  unfold vI at hu
  obtain ⟨x, _, rfl⟩ := List.mem_map.1 hu
  rfl
theorem run_append_i {w : World} (ty : TypeId) {base : Nat} {v u : Value} {l m : List Int} (hown : w.ownsRow base 3 1 v l.length (vI l)) (hn : IsV w u m) (hb : l.length + m.length ≤ 1000000) (hbase : base ≤ w.heap.size) :
    ∃ v' w', (Builtin.append_ #[37, 37] ty #[v, u]).run Tryz.prog w = .ok v' w' ∧ w'.ownsRow base 3 1 v' (l ++ m).length (vI (l ++ m)) ∧ w.grownBy w' v.ownBlock ∧ (v'.ownBlock = v.ownBlock ∨ v'.ownBlock = some w.heap.size) := by
  obtain ⟨i0, hi, hz0, hz1, hz2⟩ := info3c
  rcases hn with ⟨rfl, rfl⟩ | ⟨ad, cap, rfl, hc⟩
  · have hrun := run_append_owned_none (P := Tryz.prog) (w := w) base 37 ty 3 i0 1 Tryz.underlying37 hi v l.length (vI l) hown
    exact ⟨v, w, hrun, by simpa using hown, World.grownBy.refl _ _, Or.inl rfl⟩
  · obtain ⟨v', w', hr, h2, h3, h4, h5⟩ := run_append_own_at (P := Tryz.prog) w base 37 ty 3 i0 (.int .i64 0) 1 8 Tryz.underlying37 hi hz0 hz1 hz2 rfl (by decide) v l.length (vI l) hown ad m.length cap (vI m) (by rw [vI_length, Nat.mul_one]) hc (vI_one m) (by unfold maxLen; omega) (by omega) hbase
    exact ⟨v', w', hr, by rw [List.length_append, vI_append]; exact h2, h3, h5⟩
/-- append, a step of a region that draws. -/
theorem step_append_i {w : World} {ops : Array Oper} {o : Oper} {a : Act} {K : Act → World → Prop} {Q : Exit → Act → World → Prop} {E : Prop} (hgd : o.guard = none) (s x : Operand)
    (ho : o.op = .call { callee := .builtin .append, args := #[s, x], argTypes := #[37, 37] }) {base : Nat} {v u : Value} {l m : List Int} (hs : a.eval s = v) (hown : w.ownsRow base 3 1 v l.length (vI l)) (hx : a.eval x = u) (hn : IsV w u m) (hb : l.length + m.length ≤ 1000000) (hbase : base ≤ w.heap.size)
    (h : ∀ v' w', w'.ownsRow base 3 1 v' (l ++ m).length (vI (l ++ m)) → w.grownBy w' v.ownBlock → (v'.ownBlock = v.ownBlock ∨ v'.ownBlock = some w.heap.size) → K (a.put o.dst v') w') :
    if Region.wanted o (yielded ops a.tmps) = true then Oper.wp Tryz.prog o a w K Q else E := by
  have hw : Region.wanted o (yielded ops a.tmps) = true := by simp [Region.wanted, hgd]
  rw [if_pos hw]
  obtain ⟨v', w', hr, h2, h3, h5⟩ := run_append_i o.type hown hn hb hbase
  unfold Oper.wp execOp
  simp only [ho, resolve, invoke, builtin, Sem.run_bind, Sem.run_pure, Result.andThen_ok, List.map_toArray, List.map_cons, List.map_nil, hs, hx, hr]
  exact h v' w' h2 h3 h5
end Go.Proofs.YtoplejbmgpgkhaaGreatDoor
namespace Go.Proofs.YtoplejbmgpgkhaaGreatDoor
open Go.RowKit Go.Maps Go.Joins Go.Sort
set_option linter.unusedVariables false
set_option linter.unusedSimpArgs false
theorem srtI_pw (l : List Int) : (srtI l).Pairwise (fun a b => decide (a ≤ b) = true) := List.pairwise_mergeSort (fun a b c h1 h2 => by simp at *; omega) (fun a b => by simp; omega) l
theorem srtI_ins {l : List Int} {n : Int} {j : Nat} (hlow : ∀ x ∈ (srtI l).take j, x ≤ n) (hhigh : ∀ x ∈ (srtI l).drop j, n < x) : srtI (l ++ [n]) = (srtI l).take j ++ [n] ++ (srtI l).drop j := by
  have hp := srtI_pw l
  have e := (List.take_append_drop j (srtI l)).symm
  refine List.Perm.eq_of_pairwise (le := fun a b => decide (a ≤ b) = true) (fun a b _ _ h1 h2 => ?_) (srtI_pw _) ?_ ?_
  · simp only [decide_eq_true_eq] at h1 h2
    omega
  · rw [e, List.pairwise_append] at hp
    rw [List.append_assoc, List.pairwise_append]
    refine ⟨hp.1, ?_, fun a ha b hb => ?_⟩
    · rw [List.singleton_append, List.pairwise_cons]
      exact ⟨fun b hb => by have := hhigh b hb; simp; omega, hp.2.1⟩
    · rcases List.mem_cons.1 hb with rfl | hb
      · have := hlow a ha
        simpa using this
      · exact hp.2.2 a ha b hb
  · have h1 : (srtI (l ++ [n])).Perm (l ++ [n]) := List.mergeSort_perm _ _
    have h2 : (srtI l).Perm l := List.mergeSort_perm _ _
    have h3 : (l ++ [n]).Perm (srtI l ++ [n]) := List.Perm.append_right _ h2.symm
    refine h1.trans (h3.trans ?_)
    rw [List.append_assoc]
    have h4 : (srtI l ++ [n]).Perm ((srtI l).take j ++ (srtI l).drop j ++ [n]) := by rw [List.take_append_drop]
    refine h4.trans ?_
    rw [List.append_assoc]
    exact List.Perm.append_left _ List.perm_append_comm
/-- A row of numbers of one's own, behind w0. -/
structure Ni (w0 wx : World) (v : Value) (l : List Int) : Prop where
  own : wx.ownsRow w0.heap.size 3 1 v l.length (vI l)
  bel : Below w0.heap.size w0 wx
theorem Ni.alloc {w0 wx : World} {v : Value} {l : List Int} (h : Ni w0 wx v l) (o : Obj) : Ni w0 (wx.alloc o) v l := ⟨h.own.alloc o, h.bel.alloc h.bel.size o⟩
/-- Beside it another one, under way. -/
structure Cx (w0 wx : World) (v8 : Value) (l : List Int) (v : Value) (m : List Int) : Prop where
  ni : Ni w0 wx v8 l
  own : wx.ownsRow w0.heap.size 3 1 v m.length (vI m)
  apart : ∀ b, v.ownBlock = some b → v8.ownBlock ≠ some b
theorem Cx.alloc {w0 wx : World} {v8 v : Value} {l m : List Int} (h : Cx w0 wx v8 l v m) (o : Obj) : Cx w0 (wx.alloc o) v8 l v m := ⟨h.ni.alloc o, h.own.alloc o, h.apart⟩
theorem Cx.new {w0 wx : World} {v8 : Value} {l : List Int} (h : Ni w0 wx v8 l) : Cx w0 (wx.alloc (.cells #[] 3)) v8 l (.slice (some ⟨wx.heap.size, 0, none⟩) 0 0) [] := by
  refine ⟨h.alloc _, ⟨rfl, Or.inr ⟨wx.heap.size, 0, #[], rfl, h.bel.size, heap_alloc_new _ _, Nat.le_refl _, by decide, rfl, rfl⟩⟩, fun b hb e => ?_⟩
  have h1 := (h.own.lt b e).2
  have h2 : some wx.heap.size = some b := hb
  injection h2 with h2
  omega
theorem Cx.app {w0 wx w' : World} {v8 v v' : Value} {l m q : List Int} (h : Cx w0 wx v8 l v m) (ho : w'.ownsRow w0.heap.size 3 1 v' (m ++ q).length (vI (m ++ q))) (hg : wx.grownBy w' v.ownBlock) (hv : v'.ownBlock = v.ownBlock ∨ v'.ownBlock = some wx.heap.size) : Cx w0 w' v8 l v' (m ++ q) := by
  refine ⟨⟨ownsRow_heap h.ni.own (fun b hb => hg.block b (h.ni.own.lt b hb).2 (fun e => h.apart b e.symm hb)), h.ni.bel.grown hg h.ni.bel.size (fun j hj => (h.own.lt j hj).1)⟩, ho, fun b hb e => ?_⟩
  rcases hv with hv | hv
  · exact h.apart b (hv ▸ hb) e
  · rw [hv] at hb
    injection hb with hb
    have := (h.ni.own.lt b e).2
    omega
/-- The one-number slice. -/
structure On (wx : World) (b6 : Nat) (n : Int) : Prop where
  here : wx.heap[b6]? = some (.cells #[.int .i64 n] 3)
theorem On.new (wx : World) (n : Int) : On (wx.alloc (.cells #[.int .i64 n] 3)) wx.heap.size n := ⟨heap_alloc_new _ _⟩
theorem On.alloc {wx : World} {b6 : Nat} {n : Int} (h : On wx b6 n) (o : Obj) : On (wx.alloc o) b6 n := ⟨by
  have hb : Below wx.heap.size wx (wx.alloc o) := by go_grown
  exact (hb.block b6 (heap_lt h.here)).trans h.here⟩
theorem On.app {wx w' : World} {b6 : Nat} {n : Int} {v : Value} (h : On wx b6 n) (hg : wx.grownBy w' v.ownBlock) (hne : v.ownBlock ≠ some b6) : On w' b6 n := ⟨(hg.block b6 (heap_lt h.here) (fun e => hne e.symm)).trans h.here⟩
theorem On.isv {wx : World} {b6 : Nat} {n : Int} (h : On wx b6 n) : IsV wx (.slice (some ⟨b6, 0, none⟩) 1 1) [n] := by
  refine Or.inr ⟨⟨b6, 0, none⟩, 1, rfl, fun j x hx => ?_⟩
  rw [Addr.add_lit, Nat.zero_add, cell_of_block h.here]
  cases j with
  | zero => simpa [vI] using hx
  | succ j => simp [vI] at hx
/-- Parts of a row. -/
theorem Ni.cells {w0 wx : World} {g len cap : Nat} {l : List Int} (h : Ni w0 wx (.slice (some ⟨g, 0, none⟩) len cap) l) : ∀ j x, (vI l)[j]? = some x → wx.cell? ⟨g, j, none⟩ = some x := fun j x hx => by
  have := h.own.cells (g := g) rfl j x hx
  rw [Addr.add_lit] at this
  simpa using this
theorem Ni.front {w0 wx : World} {a : Option Addr} {len cap : Nat} {l : List Int} (h : Ni w0 wx (.slice a len cap) l) (j : Nat) (hj : j ≤ l.length) : IsV wx (.slice a j cap) (l.take j) := by
  have hlen : (l.take j).length = j := by rw [List.length_take]; omega
  rcases id h.own.2 with ⟨e, h0⟩ | ⟨g, cp, cur, e, _⟩
  · injection e with e1 e2 e3
    subst e1
    have h9 : l.length = 0 := by simpa [vI] using h0
    have h8 : j = 0 := by omega
    subst h8
    rw [e3]
    exact Or.inl ⟨rfl, List.take_zero⟩
  · injection e with e1 e2 e3
    subst e1
    refine Or.inr ⟨⟨g, 0, none⟩, cap, by rw [hlen], fun i x hx => ?_⟩
    rw [Addr.add_lit, Nat.zero_add]
    refine h.cells i x ?_
    unfold vI at hx ⊢
    rw [List.getElem?_map] at hx ⊢
    have hi : i < (l.take j).length := by
      rcases Nat.lt_or_ge i (l.take j).length with h1 | h1
      · exact h1
      · rw [List.getElem?_eq_none h1] at hx
        cases hx
    rw [List.getElem?_take_of_lt (by omega)] at hx
    exact hx
theorem Ni.back {w0 wx : World} {g len cap : Nat} {l : List Int} (h : Ni w0 wx (.slice (some ⟨g, 0, none⟩) len cap) l) (j : Nat) (hj : j ≤ l.length) (c : Nat) : IsV wx (.slice (some ⟨g, j, none⟩) (l.length - j) c) (l.drop j) := by
  refine Or.inr ⟨⟨g, j, none⟩, c, by rw [List.length_drop], fun i x hx => ?_⟩
  rw [Addr.add_lit]
  refine h.cells (j + i) x ?_
  unfold vI at hx ⊢
  rw [List.getElem?_map] at hx ⊢
  rw [List.getElem?_drop] at hx
  exact hx
end Go.Proofs.YtoplejbmgpgkhaaGreatDoor
