/- kv: do, of a batch. -/
import Derived.Test.YtconkienlcegaaaGreatDoorGKG
import Derived.Test.YtconkienlcegaaaGreatDoorKH
namespace Go.Proofs.YtconkienlcegaaaGreatDoor
open Go.RowKit Go.Maps Go.Joins Go.Shelf
set_option linter.unusedSimpArgs false
set_option linter.unusedVariables false
/-- What a change makes of keys. -/
def doP (s : List (List UInt8 × List Int)) (c : Ch) : List (List UInt8 × List Int) := if c.gone then delG s (kS c.key) else putG s (kS c.key) c.val
def doPs (s : List (List UInt8 × List Int)) (l : List Ch) : List (List UInt8 × List Int) := l.foldl doP s
def mk (m : List (List UInt8 × Value × List Int)) : List (List UInt8 × List Int) := mapG Prod.snd m
def okL (l : List Ch) : Prop := ∀ c ∈ l, okK c ∧ c.val.length < 4294967295 ∧ (c.gone = true → c.val = [])
theorem encK_append (a b : List Ch) : encK (a ++ b) = encK a ++ encK b := by simp [encK]
theorem encK_split (l : List Ch) (i : Nat) : encK l = encK (l.take i) ++ encK (l.drop i) := by rw [← encK_append, List.take_append_drop]
/-- Where a change begins. -/
theorem nx_at {l : List Ch} (hl : okL l) {i : Nat} (h : (encK (l.take i)).length < (encK l).length) : ∃ c, l[i]? = some c ∧ nxC ((encK l).drop (encK (l.take i)).length) = some (c, (encC c).length) ∧ encK (l.take (i + 1)) = encK (l.take i) ++ encC c := by
 have hi : i < l.length := by
  rcases Nat.lt_or_ge i l.length with h1 | h1
  · exact h1
  · rw [List.take_of_length_le h1] at h; omega
 have hc : l[i]? = some l[i] := List.getElem?_eq_getElem hi; have hd : (encK l).drop (encK (l.take i)).length = encC l[i] ++ encK (l.drop (i + 1)) := by
  have e := encK_split l i; have e2 : encK (l.drop i) = encC l[i] ++ encK (l.drop (i + 1)) := by rw [List.drop_eq_getElem_cons hi]; rfl
  conv => lhs; rw [e]
  rw [List.drop_left, e2]
 have ho := hl _ (List.getElem_mem hi); exact ⟨l[i], hc, by rw [hd]; exact nxC_enc _ ho.1 ho.2.1 ho.2.2 _, encK_snoc hc⟩
theorem doPs_snoc {s : List (List UInt8 × List Int)} {l : List Ch} {i : Nat} {c : Ch} (h : l[i]? = some c) : doPs s (l.take (i + 1)) = doP (doPs s (l.take i)) c := by
 unfold doPs; rw [List.take_add_one, h]; simp
theorem bytes_map {w : World} {v : Value} {bs : List Int} (h : BytesV w v bs) {x : Nat} (hx : dBlock v bs = some x) : ∀ es cl, w.heap[x]? ≠ some (.map es cl) := fun es cl e => by
 rcases h with ⟨rfl, rfl⟩ | ⟨ad, c, rfl, hc⟩
 · simp [dBlock] at hx
 · cases bs with
   | nil => simp [dBlock] at hx
   | cons y r =>
     have h1 := hc 0 (.int .u8 y) rfl; have h2 := dBlock_own hx; injection h2 with h2
     have e3 : (ad.add 0) = ad := by unfold Addr.add; simp
     rw [e3] at h1; unfold World.cell? at h1; rw [h2, e] at h1; simp at h1
theorem bytes_loop {w : World} {v : Value} {bs : List Int} (h : BytesV w v bs) {x : Nat} (hx : dBlock v bs = some x) : ∀ r, w.heap[x]? ≠ some (.loop r) := fun r e => by
 rcases h with ⟨rfl, rfl⟩ | ⟨ad, c, rfl, hc⟩
 · simp [dBlock] at hx
 · cases bs with
   | nil => simp [dBlock] at hx
   | cons y r =>
     have h1 := hc 0 (.int .u8 y) rfl; have h2 := dBlock_own hx; injection h2 with h2
     have e3 : (ad.add 0) = ad := by unfold Addr.add; simp
     rw [e3] at h1; unfold World.cell? at h1; rw [h2, e] at h1; simp at h1
theorem heap_ltc {w : World} {p : Addr} {v : Value} (h : w.cell? p = some v) : p.block < w.heap.size := by
 rcases Nat.lt_or_ge p.block w.heap.size with h1 | h1
 · exact h1
 · have : w.heap[p.block]? = none := Array.getElem?_eq_none h1
   simp [World.cell?, this] at h
/-- Within the rounds of do: w, the world at its beginning. -/
structure DoJ (w W : World) (r : Loop) (D : Nat → Prop) (b bl : Nat) (br : Bool) (bm : Nat) (m : List (List UInt8 × Value × List Int)) : Prop where
 b0 : W.heap[w.heap.size]? = some (.cells #[.pointer (some ⟨b, 0, none⟩)] 31)
 b3 : W.heap[w.heap.size + 2]? = some (.deferred (some []))
 b4 : W.heap[w.heap.size + 3]? = some (.loop r)
 st : W.heap[b]? = some (.cells #[.pointer (some ⟨bl, 0, none⟩), .map (some bm), .bool br] 96)
 mp : W.ownsMap Tryz.prog 9 Rv bm m.length (toDk m)
 vals : ∀ p ∈ m, okS p.2.1 = true ∧ KBD W (fun x => D x ∨ w.heap.size + 4 ≤ x) p.2.1 p.2.2
 os : W.os = w.os
 tape : W.tape = w.tape
 output : W.output = w.output
 sz : w.heap.size + 4 ≤ W.heap.size
 old : ∀ x, x < w.heap.size → x ≠ bm → W.heap[x]? = w.heap[x]?
 dd : ∀ x, D x → x < w.heap.size
 db : D b
 dm : D bm
theorem DoJ.bb {w W : World} {r : Loop} {D : Nat → Prop} {b bl : Nat} {br : Bool} {bm : Nat} {m : List (List UInt8 × Value × List Int)} (h : DoJ w W r D b bl br bm m) : b < w.heap.size := h.dd b h.db
theorem DoJ.mm {w W : World} {r : Loop} {D : Nat → Prop} {b bl : Nat} {br : Bool} {bm : Nat} {m : List (List UInt8 × Value × List Int)} (h : DoJ w W r D b bl br bm m) : bm < w.heap.size := h.dd bm h.dm
theorem changes_any {w : World} (a : Option Addr) (n c : Nat) : Calls Tryz.prog 61 #[.slice a n c] w fun e w' => e = .returned (.func (.func 97) #[] #[.pointer (some ⟨w.heap.size, 0, none⟩)]) ∧ w' = w.alloc (.cells #[.slice a n c] 23) := by
 go_enter Tryz.func61, Tryz.ntmps61
 go_wp2; go_ret
 exact ⟨rfl, rfl⟩
theorem DoJ.grown {w W : World} {r : Loop} {D : Nat → Prop} {b bl : Nat} {br : Bool} {bm : Nat} {m : List (List UInt8 × Value × List Int)} (h : DoJ w W r D b bl br bm m) : w.grownBy (W.putObj (w.heap.size + 2) (.deferred none)) (some bm) :=
 ⟨h.os, h.tape, h.output, by have := h.sz; simp [World.putObj]; omega, fun x hx hn => (World.putObj_heap_other (show x ≠ w.heap.size + 2 by omega)).trans (h.old x hx (fun e => hn (by rw [e])))⟩
theorem DoJ.store {w W : World} {r : Loop} {D : Nat → Prop} {b bl : Nat} {br : Bool} {bm : Nat} {m : List (List UInt8 × Value × List Int)} (h : DoJ w W r D b bl br bm m) (hne : b ≠ bm) : KS (W.putObj (w.heap.size + 2) (.deferred none)) (fun x => D x ∨ (w.heap.size ≤ x ∧ x < (W.putObj (w.heap.size + 2) (.deferred none)).heap.size)) b bl br bm m := by
 have ho : ∀ x, x ≠ w.heap.size + 2 → (W.putObj (w.heap.size + 2) (.deferred none)).heap[x]? = W.heap[x]? := fun x hx => World.putObj_heap_other hx
 have hs := h.sz; have h1 := h.bb; have h2 := h.mm; have hss : (W.putObj (w.heap.size + 2) (.deferred none)).heap.size = W.heap.size := by simp [World.putObj]
 rw [hss]; exact ⟨(ho _ (by omega)).trans h.st, ownsMap_heap h.mp (ho _ (by omega)), fun p hp => ⟨(h.vals p hp).1, ⟨(h.vals p hp).2.is.keep fun x hx => ho x (by rcases (h.vals p hp).2.d x hx with h9 | h9 <;> first | omega | (have := h.dd x h9; omega)), fun x hx => by rcases (h.vals p hp).2.d x hx with h9 | h9; exact Or.inl h9; exact Or.inr ⟨by omega, (h.vals p hp).2.is.lt x hx⟩, (h.vals p hp).2.len⟩⟩, Or.inl h.db, Or.inl h.dm⟩
theorem KBD.turn {V V2 : World} {D : Nat → Prop} {v : Value} {bs : List Int} {bm : Nat} (h : KBD V D v bs) (hg : V.grownBy V2 (some bm)) (hm : ∃ es cl, V.heap[bm]? = some (.map es cl)) : KBD V2 D v bs :=
 ⟨h.is.keep fun x hx => hg.block x (h.is.lt x hx) (fun e => by injection e with e; obtain ⟨es, cl, he⟩ := hm; exact bytes_map h.is hx es cl (by rw [e]; exact he)), h.d, h.len⟩
theorem owns_map {V : World} {bm n : Nat} {D : DataW Unit} (h : V.ownsMap Tryz.prog 9 Rv bm n D) : ∃ es cl, V.heap[bm]? = some (.map es cl) := by
 obtain ⟨es, cl, hb, _⟩ := h; exact ⟨es, cl, hb⟩
theorem DoJ.below {w W W2 : World} {r : Loop} {D : Nat → Prop} {b bl : Nat} {br : Bool} {bm : Nat} {m : List (List UInt8 × Value × List Int)} (h : DoJ w W r D b bl br bm m) (hb : Below W.heap.size W W2) : DoJ w W2 r D b bl br bm m := by
 have hs := h.sz; have h1 := h.bb; have h2 := h.mm; exact ⟨(hb.block _ (by omega)).trans h.b0, (hb.block _ (by omega)).trans h.b3, (hb.block _ (by omega)).trans h.b4, (hb.block _ (by omega)).trans h.st, ownsMap_heap h.mp (hb.block _ (by omega)), fun p hp => ⟨(h.vals p hp).1, ⟨(h.vals p hp).2.is.keep fun x hx => hb.block x ((h.vals p hp).2.is.lt x hx), (h.vals p hp).2.d, (h.vals p hp).2.len⟩⟩, hb.os.trans h.os, hb.tape.trans h.tape, hb.output.trans h.output, Nat.le_trans hs hb.size, fun x hx hne => (hb.block x (by omega)).trans (h.old x hx hne), h.dd, h.db, h.dm⟩
theorem DoJ.put {w W : World} {r : Loop} {D : Nat → Prop} {b bl : Nat} {br : Bool} {bm : Nat} {m : List (List UInt8 × Value × List Int)} (h : DoJ w W r D b bl br bm m) (r2 : Loop) : DoJ w (W.putObj (w.heap.size + 3) (.loop r2)) r2 D b bl br bm m := by
 have hs := h.sz; have h1 := h.bb; have h2 := h.mm; have ho : ∀ x, x ≠ w.heap.size + 3 → (W.putObj (w.heap.size + 3) (.loop r2)).heap[x]? = W.heap[x]? := fun x hx => World.putObj_heap_other hx
 refine ⟨(ho _ (by omega)).trans h.b0, (ho _ (by omega)).trans h.b3, World.putObj_heap_same (by omega), (ho _ (by omega)).trans h.st, ownsMap_heap h.mp (ho _ (by omega)), fun p hp => ⟨(h.vals p hp).1, (h.vals p hp).2.mono (fun x hx => ho x (by rcases hx with hx | hx <;> first | omega | (have := h.dd x hx; omega))) (fun _ hx => hx)⟩, h.os, h.tape, h.output, by simpa [World.putObj] using hs, fun x hx hne => (ho x (by omega)).trans (h.old x hx hne), h.dd, h.db, h.dm⟩
theorem DoJ.turn {w V V2 : World} {r : Loop} {D : Nat → Prop} {b bl : Nat} {br : Bool} {bm : Nat} {m m2 : List (List UInt8 × Value × List Int)} (h : DoJ w V r D b bl br bm m) (hg : V.grownBy V2 (some bm)) (hmp : V2.ownsMap Tryz.prog 9 Rv bm m2.length (toDk m2)) (hne : b ≠ bm) (hv : ∀ p ∈ m2, p ∈ m ∨ (okS p.2.1 = true ∧ KBD V (fun x => D x ∨ w.heap.size + 4 ≤ x) p.2.1 p.2.2)) : DoJ w V2 r D b bl br bm m2 := by
 have hs := h.sz; have h1 := h.bb; have h2 := h.mm; have ho : ∀ x, x < V.heap.size → x ≠ bm → V2.heap[x]? = V.heap[x]? := fun x hx hn => hg.block x hx (fun e => hn (by injection e))
 refine ⟨(ho _ (by omega) (by omega)).trans h.b0, (ho _ (by omega) (by omega)).trans h.b3, (ho _ (by omega) (by omega)).trans h.b4, (ho _ (by omega) hne).trans h.st, hmp, fun p hp => ?_, hg.os.trans h.os, hg.tape.trans h.tape, hg.output.trans h.output, Nat.le_trans hs hg.size, fun x hx hn => (ho x (by omega) hn).trans (h.old x hx hn), h.dd, h.db, h.dm⟩; rcases hv p hp with h9 | h9
 · exact ⟨(h.vals p h9).1, (h.vals p h9).2.turn hg (owns_map h.mp)⟩
 · exact ⟨h9.1, h9.2.turn hg (owns_map h.mp)⟩
theorem DoJ.drew {w V : World} {r : Loop} {D : Nat → Prop} {b bl : Nat} {br : Bool} {bm : Nat} {m : List (List UInt8 × Value × List Int)} (h : DoJ w V r D b bl br bm m) : DoJ w V.drew r D b bl br bm m := ⟨h.b0, h.b3, h.b4, h.st, h.mp, fun p hp => ⟨(h.vals p hp).1, (h.vals p hp).2.mono (fun _ _ => rfl) (fun _ h => h)⟩, h.os, h.tape, h.output, h.sz, h.old, h.dd, h.db, h.dm⟩
theorem ins_len {α : Type} (x : List UInt8 × α) : ∀ m : List (List UInt8 × α), (insG x m).length = m.length + 1
 | [] => rfl
 | y :: r => by
   unfold insG; split
   · rfl
   · rw [List.length_cons, ins_len x r]; rfl
theorem del_len {α : Type} (m : List (List UInt8 × α)) (k : List UInt8) : (delG m k).length ≤ m.length := List.length_filter_le _ _
theorem put_len {α : Type} (m : List (List UInt8 × α)) (k : List UInt8) (a : α) : (putG m k a).length ≤ m.length + 1 := by
 unfold putG; rw [ins_len]; have := del_len m k; omega
theorem encK_ge : ∀ l : List Ch, l.length ≤ (encK l).length
 | [] => Nat.le_refl _
 | c :: r => by
   have := encK_ge r; rw [encK_cons, List.length_append, encC_length, List.length_cons]; omega
theorem encK_nil {l : List Ch} (h : (encK l).length = 0) : l = [] := by
 cases l with
 | nil => rfl
 | cons c r =>
   rw [encK_cons, List.length_append, encC_length] at h; omega
theorem take_all {l : List Ch} {i : Nat} (h : (encK l).length = (encK (l.take i)).length) : l.take i = l := by
 have e := congrArg List.length (encK_split l i); rw [List.length_append] at e; have h2 := encK_nil (l := l.drop i) (by omega); have h3 := List.take_append_drop i l; rw [h2, List.append_nil] at h3; exact h3
theorem okS_row {V : World} {base n : Nat} {v : Value} {xs : List Value} (h : V.ownsRow base 5 1 v n xs) : okS v = true := by
 rcases h.2 with ⟨rfl, _⟩ | ⟨g, cap, cur, rfl, _⟩ <;> rfl
theorem mk_del (m : List (List UInt8 × Value × List Int)) (k : List UInt8) : mk (delG m k) = delG (mk m) k := del_mapG _ _ _
theorem mk_put (m : List (List UInt8 × Value × List Int)) (k : List UInt8) (v : Value) (bs : List Int) : mk (putG m k (v, bs)) = putG (mk m) k bs := put_mapG _ _ _ _
theorem DoJ.recd {w W : World} {r : Loop} {D : Nat → Prop} {b bl : Nat} {br : Bool} {bm : Nat} {m : List (List UInt8 × Value × List Int)} (h : DoJ w W r D b bl br bm m) {v : Value} {bs : List Int} (hv : BytesV w v bs) (hm : ∃ es cl, w.heap[bm]? = some (.map es cl)) : BytesV W v bs :=
 hv.keep fun x hx => h.old x (hv.lt x hx) (fun e => by obtain ⟨es, cl, he⟩ := hm; exact bytes_map hv hx es cl (by rw [e]; exact he))
attribute [local go_sem] Oper.semAt_some
set_option maxRecDepth 100000 in
set_option maxHeartbeats 8000000 in
theorem do_batch {w : World} {b bl : Nat} {br : Bool} {bm : Nat} {m : List (List UInt8 × Value × List Int)} {D : Nat → Prop} (h : KS w D b bl br bm m) (hD : ∀ x, D x → x < w.heap.size) {g o cap : Nat} {l : List Ch} (hr : BytesV w (.slice (some ⟨g, o, none⟩) ((encK l).length + 1) cap) (0 :: encK l)) (hl : okL l) (hkb : KByt (encK l)) (hc : (encK l).length + 1 ≤ cap) (hm : cap ≤ 9223372036854775807) (hlen : (encK l).length + 1 ≤ 140737488355328) (hml : m.length ≤ 4611686018427387904) :
 Calls Tryz.prog 45 #[.pointer (some ⟨b, 0, none⟩), .slice (some ⟨g, o, none⟩) ((encK l).length + 1) cap] w fun e w' => e = .returned (.tuple #[]) ∧ w.grownBy w' (some bm) ∧ ∃ m', KS w' (fun x => D x ∨ (w.heap.size ≤ x ∧ x < w'.heap.size)) b bl br bm m' ∧ mk m' = doPs (mk m) l ∧ m'.length ≤ m.length + l.length := by
 have HH : Hid (KS w D b bl br bm m ∧ BytesV w (.slice (some ⟨g, o, none⟩) ((encK l).length + 1) cap) (0 :: encK l) ∧ okL l ∧ KByt (encK l)) := ⟨h, hr, hl, hkb⟩
 obtain ⟨N, hN⟩ : ∃ N, N = (encK l).length := ⟨_, rfl⟩
 rw [← hN] at hc hlen ⊢; have HN : Hid (N = (encK l).length) := hN; have c0 : w.cell? ⟨g, o, none⟩ = some (.int .u8 0) := by
  have := hr.at (k := 0) (x := 0) rfl; obtain ⟨g', o', e, hc'⟩ := this; injection e with e
  injection e with e1 e2
  rw [← e1, ← e2] at hc'
  simpa using hc'
 have hgl : g < w.heap.size := heap_ltc c0; clear h hr hl hkb hN; refine (callsIn_wide (n := 4)).1 ?_; refine callsIn_of_wp_marks Tryz.func45 rfl trivial ?_ rfl; simp only [Tryz.ntmps45, List.size_toArray, List.length_cons, List.length_nil, Nat.reduceAdd, Nat.reduceSub, Array.replicate_succ, Array.replicate_zero, List.push_toArray, List.append_toArray, List.nil_append, List.cons_append]; refine wpIn_wide.2 ?_; obtain ⟨o1, ho1⟩ : ∃ o1, o1 = if cap = 1 then o else o + 1 := ⟨_, rfl⟩
 have hsl := fun w' => slL2 w' g o (N + 1) cap 1 1 rfl (by omega)
 rw [← ho1, Nat.add_sub_cancel] at hsl; have hrb : BytesV w (.slice (some ⟨g, o1, none⟩) N (cap - 1)) (encK l) := by
  have h1 := HH.out.2.1; rw [← HN.out] at h1; have h2 := BytesV.cutLH (bs := 0 :: encK l) (i := 1) (l := N) (by rw [List.length_cons, ← HN.out]; exact h1) (by rw [List.length_cons, ← HN.out]; omega) (by rw [List.length_cons, ← HN.out]; omega); rw [← ho1] at h2
  simpa [HN.out] using h2
 have HRB : Hid (BytesV w (.slice (some ⟨g, o1, none⟩) N (cap - 1)) (encK l)) := hrb; clear ho1 hrb; have T1 : Hid True := trivial; go_wp2_with (first
  | (have _ := T1
     go_at_call 61
     clear T1; refine Calls.mono (changes_any _ _ _) ?_; rintro e w1 ⟨rfl, rfl⟩))
 refine (wpIn_wide (n := 4)).1 ?_; refine range_leave (gf := 97) (lb := #[.pointer (some ⟨w.heap.size + 1, 0, none⟩)]) rfl (enters_of Tryz.func97 (by kernel_rfl) rfl) ?_; intro r W1 hst hpe htm hpar has' hbod hW1; have hW : W1 = [Obj.cells #[.pointer (some ⟨b, 0, none⟩)] 31, .cells #[.slice (some ⟨g, o1, none⟩) N (cap - 1)] 23, .deferred (some []), .loop r].foldl World.alloc w := by rw [hW1]; rfl
 have hsz : ((w.alloc (.cells #[.pointer (some ⟨b, 0, none⟩)] 31)).alloc (.cells #[.slice (some ⟨g, o1, none⟩) N (cap - 1)] 23)).heap.size = w.heap.size + 2 := by simp
 rw [hsz]; have hh := fun k o hk => allocs_heap [Obj.cells #[.pointer (some ⟨b, 0, none⟩)] 31, .cells #[.slice (some ⟨g, o1, none⟩) N (cap - 1)] 23, .deferred (some []), .loop r] w k o hk
 have hbl := allocs_below [Obj.cells #[.pointer (some ⟨b, 0, none⟩)] 31, .cells #[.slice (some ⟨g, o1, none⟩) N (cap - 1)] 23, .deferred (some []), .loop r] w; have hsz4 := allocs_size [Obj.cells #[.pointer (some ⟨b, 0, none⟩)] 31, .cells #[.slice (some ⟨g, o1, none⟩) N (cap - 1)] 23, .deferred (some []), .loop r] w; rw [← hW] at hh hbl hsz4; have hK := HH.out.1; have h0 : DoJ w W1 r D b bl br bm m := ⟨hh 0 _ rfl, hh 2 _ rfl, hh 3 _ rfl, (hbl.block _ (hD _ hK.db)).trans hK.st, ownsMap_heap hK.mp (hbl.block _ (hD _ hK.dm)), fun p hp => ⟨(hK.vals p hp).1, (hK.vals p hp).2.mono (fun x hx => hbl.block x (hD x hx)) (fun x hx => Or.inl hx)⟩, hbl.os, hbl.tape, hbl.output, by rw [hsz4]; simp, fun x hx _ => hbl.block x hx, hD, hK.db, hK.dm⟩
 have hXc : W1.cell? ⟨w.heap.size + 1, 0, none⟩ = some (.slice (some ⟨g, o1, none⟩) N (cap - 1)) := (cell_of_block (hh 1 _ rfl) 0).trans rfl; have HNE : Hid (b ≠ bm) := hK.ne; have HMM : Hid (∃ es cl, w.heap[bm]? = some (.map es cl)) := owns_map hK.mp; clear hW hW1 hh hbl hsz hsz4 hsl hK; rw [HN.out] at hXc; refine CallsIn.mono (changes1_in 2 (w.heap.size + 3) (w.heap.size + 1) (some ⟨g, o1, none⟩) (cap - 1) (encK l) W1 (fun k W => ∃ i m', i ≤ l.length ∧ k = (encK (l.take i)).length ∧ DoJ w W r D b bl br bm m' ∧ mk m' = doPs (mk m) (l.take i) ∧ m'.length ≤ m.length + i) (fun W => False) hXc (by have := HN.out; omega) (by omega) (by have := HN.out; omega) HH.out.2.2.2 ⟨0, m, by omega, by simp [encK], h0, by simp [doPs], by omega⟩ (fun k W h => by obtain ⟨i, m', _, _, hj, _, _⟩ := h; rw [← HN.out]; exact hj.recd HRB.out HMM.out) ?hY) ?hE
 case hY =>
  rintro k W W2 hk ⟨i, m1, hi, rfl, hj, hm1, hml1⟩ hb2; obtain ⟨c, hci, hnx, hsn⟩ := nx_at HH.out.2.2.1 hk; rw [hnx]; intro vk vv hvk hvv; have hj2 := hj.below hb2; refine YieldAt.mono (round_with (R := fun W' => ∃ i' m', i' ≤ l.length ∧ (encK (l.take i)).length + (encC c).length = (encK (l.take i')).length ∧ DoJ w W' r D b bl br bm m' ∧ mk m' = doPs (mk m) (l.take i') ∧ m'.length ≤ m.length + i') hj2.b4 hst hpe (by rw [hpar]; rfl) ?_) (fun e W' h => Or.inl h); intro rb hrb; rw [hpar, has', hbod, htm]; clear hpar has' hbod htm hst hpe hrb h0 hXc; simp only [List.zip_toArray, List.zip_cons_cons, List.zip_nil_right, List.foldl_toArray, List.foldl_cons, List.foldl_nil, List.setIfInBounds_toArray, List.set_cons_zero, List.set_cons_succ]; have hvk2 : BytesV W2 vk c.key := hvk.keep fun x hx => hb2.block x (hvk.lt x hx)
  have hvv2 : BytesV W2 vv c.val := hvv.keep fun x hx => hb2.block x (hvv.lt x hx)
  obtain ⟨ak, ck, rfl⟩ := hvk2.form'; obtain ⟨av, cv, rfl⟩ := hvv2.form'; obtain ⟨nk, hnk⟩ : ∃ nk, nk = c.key.length := ⟨_, rfl⟩
  obtain ⟨nv, hnv⟩ : ∃ nv, nv = c.val.length := ⟨_, rfl⟩
  obtain ⟨cg, hcg⟩ : ∃ cg, cg = c.gone := ⟨_, rfl⟩
  have hoc := HH.out.2.2.1 c (List.mem_of_getElem? hci); have HC : Hid (l[i]? = some c ∧ mk m1 = doPs (mk m) (l.take i) ∧ okK c ∧ (encK (l.take i)).length + (encC c).length = (encK (l.take (i + 1))).length ∧ c.key.length ≤ 64) := ⟨hci, hm1, hoc.1, by rw [hsn, List.length_append], hoc.1.2⟩
  have HVL : Hid (c.val.length ≤ 140737488355328) := by show _ ≤ _; have := hoc.2.1; omega
  rw [← hnk] at hvk2; rw [← hnv] at hvv2; rw [← hnk, ← hnv, ← hcg]; have HL : Hid (nk = c.key.length ∧ nv = c.val.length ∧ cg = c.gone) := ⟨hnk, hnv, hcg⟩
  have hba : Below W2.heap.size W2 (W2.alloc (.cells #[.slice ak nk ck, .slice av nv cv, .bool cg] 90)) := by go_grown
  have hj3 := hj2.below hba; have HJ3 : Hid (DoJ w (W2.alloc (.cells #[.slice ak nk ck, .slice av nv cv, .bool cg] 90)) r D b bl br bm m1) := hj3; have hs2 := hj2.sz; have hput : ∀ x, x ≠ w.heap.size + 3 → ((W2.alloc (.cells #[.slice ak nk ck, .slice av nv cv, .bool cg] 90)).putObj (w.heap.size + 3) (.loop rb)).heap[x]? = (W2.alloc (.cells #[.slice ak nk ck, .slice av nv cv, .bool cg] 90)).heap[x]? := fun x hx => World.putObj_heap_other hx
  have hrl : ∀ {v : Value} {bs : List Int}, BytesV W2 v bs → (∀ x, dBlock v bs = some x → ∀ r', W2.heap[x]? ≠ some (.loop r')) := fun hv x hx r' e => bytes_loop hv hx r' e
  have hJV := hj3.put rb; have hpb0 : ((W2.alloc (.cells #[.slice ak nk ck, .slice av nv cv, .bool cg] 90)).putObj (w.heap.size + 3) (.loop rb)).heap[W2.heap.size]? = some (.cells #[.slice ak nk ck, .slice av nv cv, .bool cg] 90) := (hput _ (by omega)).trans (heap_alloc_new _ _); have hbk : BytesV ((W2.alloc (.cells #[.slice ak nk ck, .slice av nv cv, .bool cg] 90)).putObj (w.heap.size + 3) (.loop rb)) (.slice ak nk ck) c.key := hvk2.keep fun x hx => (hput x (fun e => hrl hvk2 x hx r (by rw [e]; exact hj2.b4))).trans (hba.block x (hvk2.lt x hx))
  have hbv : BytesV ((W2.alloc (.cells #[.slice ak nk ck, .slice av nv cv, .bool cg] 90)).putObj (w.heap.size + 3) (.loop rb)) (.slice av nv cv) c.val := hvv2.keep fun x hx => (hput x (fun e => hrl hvv2 x hx r (by rw [e]; exact hj2.b4))).trans (hba.block x (hvv2.lt x hx))
  have HML : Hid (m1.length < 9223372036854775807) := by show _ < _; have := encK_ge l; have := HN.out; omega
  have HM1 : Hid (m1.length ≤ m.length + i) := hml1; have HX : Hid _ := And.intro hJV (And.intro hpb0 (And.intro hbk (And.intro hbv hs2))); clear hml1 hj hj2 hj3 hvk hvv hvk2 hvv2 hb2 hba hci hnx hsn hm1 hk hi hoc hnk hnv hcg hs2 hput hrl hJV hpb0 hbk hbv; gi_wp2; refine ⟨HJ3.out.b4, ?_⟩; generalize (W2.alloc (.cells #[.slice ak nk ck, .slice av nv cv, .bool cg] 90)).putObj (w.heap.size + 3) (.loop rb) = V at HX ⊢; generalize W2.heap.size = P at HX ⊢; have HJ0 : Hid (DoJ w V rb D b bl br bm m1) := HX.out.1; have HB : Hid (BytesV V (.slice ak nk ck) c.key ∧ BytesV V (.slice av nv cv) c.val) := ⟨HX.out.2.2.1, HX.out.2.2.2.1⟩
  have hpb := HX.out.2.1; have HPL : Hid (w.heap.size + 4 ≤ P) := HX.out.2.2.2.2; have z2 : V.cell? ⟨P, 2, none⟩ = some (.bool cg) := (cell_of_block hpb 2).trans rfl; clear HX HJ3; cases cg with
  | true =>
    gi_wp2; have hS0 : (fun w' => w'.heap[w.heap.size]? = some (.cells #[.pointer (some ⟨b, 0, none⟩)] 31) ∧ w'.heap[b]? = some (.cells #[.pointer (some ⟨bl, 0, none⟩), .map (some bm), .bool br] 96) ∧ w'.heap[P]? = some (.cells #[.slice ak nk ck, .slice av nv cv, .bool true] 90) ∧ BytesV w' (.slice ak nk ck) c.key ∧ BytesV w' (.slice av nv cv) c.val) V.drew := ⟨HJ0.out.b0, HJ0.out.st, hpb, HB.out.1, HB.out.2⟩
    refine region_round (S := fun w' => w'.heap[w.heap.size]? = some (.cells #[.pointer (some ⟨b, 0, none⟩)] 31) ∧ w'.heap[b]? = some (.cells #[.pointer (some ⟨bl, 0, none⟩), .map (some bm), .bool br] 96) ∧ w'.heap[P]? = some (.cells #[.slice ak nk ck, .slice av nv cv, .bool true] 90) ∧ BytesV w' (.slice ak nk ck) c.key ∧ BytesV w' (.slice av nv cv) c.val) (by kernel_rfl) (noDefer_spec (by kernel_rfl)) (fun ⟨_, _, h⟩ => h) hS0 (fun hHeld => ?_); refine wpAnyH_take (i := 0) (v := .pointer (some ⟨b, 0, none⟩)) rfl (by kernel_rfl) (by kernel_rfl) (by kernel_rfl) (fun _ _ _ h => h) (Or.inl ⟨by rfl, fun w9 hSw => ?_⟩) hHeld ?_
    · have y0 : w9.cell? ⟨w.heap.size, 0, none⟩ = some (.pointer (some ⟨b, 0, none⟩)) := (cell_of_block hSw.1 0).trans rfl
      have y1 : w9.cell? ⟨b, 1, none⟩ = some (.map (some bm)) := (cell_of_block hSw.2.1 1).trans rfl; have y2 : w9.cell? ⟨P, 0, none⟩ = some (.slice ak nk ck) := (cell_of_block hSw.2.2.1 0).trans rfl; have y3 : w9.cell? ⟨P, 1, none⟩ = some (.slice av nv cv) := (cell_of_block hSw.2.2.1 1).trans rfl; go_simp
    simp only [List.getElem_toArray, List.getElem_cons_succ, List.getElem_cons_zero, Act.put, List.setIfInBounds_toArray, List.set_cons_zero, List.set_cons_succ]; refine wpAnyH_take (i := 1) (v := .pointer (some ⟨b, 0, none⟩)) rfl (by kernel_rfl) (by kernel_rfl) (by kernel_rfl) (fun _ _ _ h => h) (Or.inl ⟨by rfl, fun w9 hSw => ?_⟩) hHeld ?_
    · go_simp
    simp only [List.getElem_toArray, List.getElem_cons_succ, List.getElem_cons_zero, Act.put, List.setIfInBounds_toArray, List.set_cons_zero, List.set_cons_succ]; refine wpAnyH_take (i := 2) (v := .pointer (some ⟨b, 1, none⟩)) rfl (by kernel_rfl) (by kernel_rfl) (by kernel_rfl) (fun _ _ _ h => h) (Or.inl ⟨by rfl, fun w9 hSw => ?_⟩) hHeld ?_
    · go_simp
    simp only [List.getElem_toArray, List.getElem_cons_succ, List.getElem_cons_zero, Act.put, List.setIfInBounds_toArray, List.set_cons_zero, List.set_cons_succ]; refine wpAnyH_take (i := 3) (v := .map (some bm)) rfl (by kernel_rfl) (by kernel_rfl) (by kernel_rfl) (fun _ _ _ h => h) (Or.inl ⟨by rfl, fun w9 hSw => ?_⟩) hHeld ?_
    · have y0 : w9.cell? ⟨w.heap.size, 0, none⟩ = some (.pointer (some ⟨b, 0, none⟩)) := (cell_of_block hSw.1 0).trans rfl
      have y1 : w9.cell? ⟨b, 1, none⟩ = some (.map (some bm)) := (cell_of_block hSw.2.1 1).trans rfl; have y2 : w9.cell? ⟨P, 0, none⟩ = some (.slice ak nk ck) := (cell_of_block hSw.2.2.1 0).trans rfl; have y3 : w9.cell? ⟨P, 1, none⟩ = some (.slice av nv cv) := (cell_of_block hSw.2.2.1 1).trans rfl; go_simp
    simp only [List.getElem_toArray, List.getElem_cons_succ, List.getElem_cons_zero, Act.put, List.setIfInBounds_toArray, List.set_cons_zero, List.set_cons_succ]; refine wpAnyH_take (i := 4) (v := .pointer (some ⟨P, 0, none⟩)) rfl (by kernel_rfl) (by kernel_rfl) (by kernel_rfl) (fun _ _ _ h => h) (Or.inl ⟨by rfl, fun w9 hSw => ?_⟩) hHeld ?_
    · go_simp
    simp only [List.getElem_toArray, List.getElem_cons_succ, List.getElem_cons_zero, Act.put, List.setIfInBounds_toArray, List.set_cons_zero, List.set_cons_succ]; refine wpAnyH_take (i := 5) (v := .slice ak nk ck) rfl (by kernel_rfl) (by kernel_rfl) (by kernel_rfl) (fun _ _ _ h => h) (Or.inl ⟨by rfl, fun w9 hSw => ?_⟩) hHeld ?_
    · have y0 : w9.cell? ⟨w.heap.size, 0, none⟩ = some (.pointer (some ⟨b, 0, none⟩)) := (cell_of_block hSw.1 0).trans rfl
      have y1 : w9.cell? ⟨b, 1, none⟩ = some (.map (some bm)) := (cell_of_block hSw.2.1 1).trans rfl; have y2 : w9.cell? ⟨P, 0, none⟩ = some (.slice ak nk ck) := (cell_of_block hSw.2.2.1 0).trans rfl; have y3 : w9.cell? ⟨P, 1, none⟩ = some (.slice av nv cv) := (cell_of_block hSw.2.2.1 1).trans rfl; go_simp
    simp only [List.getElem_toArray, List.getElem_cons_succ, List.getElem_cons_zero, Act.put, List.setIfInBounds_toArray, List.set_cons_zero, List.set_cons_succ]; refine wpAnyH_take (i := 6) (v := .string (strOfNums c.key)) rfl (by kernel_rfl) (by kernel_rfl) (by kernel_rfl) (fun _ _ _ h => h) (Or.inl ⟨by rfl, fun w9 hSw => ?_⟩) hHeld ?_
    · have y9 := kconv_b hSw.2.2.2.1
      go_simp
    simp only [List.getElem_toArray, List.getElem_cons_succ, List.getElem_cons_zero, Act.put, List.setIfInBounds_toArray, List.set_cons_zero, List.set_cons_succ]; refine wpAnyH_ready (rs := [7]) (by kernel_rfl) (by simp) ?_; refine AllReadyH.cons rfl (fun K hK => ?_) AllReadyH.nil; have HV0 : Hid (DoJ w V.drew rb D b bl br bm m1) := HJ0.out.drew; refine step_delete_k (by rfl) _ _ (by rfl) (bm := bm) (m := m1) (by rfl) HV0.out.mp (key := c.key) (by rfl) (by have := HC.out.2.2.2.2; omega) ?_; intro V2 hmp hT; have hJ2 := HV0.out.turn (r := rb) hT.grown hmp HNE.out (fun p hp => Or.inl (List.mem_filter.1 hp).1); have hk2 : ∀ x, x < V.drew.heap.size → x ≠ bm → V2.heap[x]? = V.drew.heap[x]? := fun x hx hn => hT.grown.block x hx (fun e => hn (by injection e))
    have hS1 : (fun w' => w'.heap[w.heap.size]? = some (.cells #[.pointer (some ⟨b, 0, none⟩)] 31) ∧ w'.heap[b]? = some (.cells #[.pointer (some ⟨bl, 0, none⟩), .map (some bm), .bool br] 96) ∧ w'.heap[P]? = some (.cells #[.slice ak nk ck, .slice av nv cv, .bool true] 90) ∧ BytesV w' (.slice ak nk ck) c.key ∧ BytesV w' (.slice av nv cv) c.val) V2 := ⟨hJ2.b0, hJ2.st, (hk2 P (heap_lt hpb) (by have := HPL.out; have := HJ0.out.mm; omega)).trans hpb, HB.out.1.keep fun x hx => hk2 x (HB.out.1.lt x hx) (fun e => by obtain ⟨es, cl, he⟩ := owns_map HV0.out.mp; exact bytes_map HB.out.1 hx es cl (by rw [e]; exact he)), HB.out.2.keep fun x hx => hk2 x (HB.out.2.lt x hx) (fun e => by obtain ⟨es, cl, he⟩ := owns_map HV0.out.mp; exact bytes_map HB.out.2 hx es cl (by rw [e]; exact he))⟩
    have HJ2 : Hid (DoJ w V2 rb D b bl br bm (delG m1 (kS c.key))) := hJ2; have HM2 : Hid (mk (delG m1 (kS c.key)) = doPs (mk m) (l.take (i + 1))) := by
     show _ = _; rw [mk_del, doPs_snoc HC.out.1, HC.out.2.1]; unfold doP; rw [if_pos HL.out.2.2.symm]
    refine hK.out _ _ hS1 (fun hHeld => ?_); clear hK K; try simp only [List.getElem_toArray, List.getElem_cons_succ, List.getElem_cons_zero, Act.put, List.setIfInBounds_toArray, List.set_cons_zero, List.set_cons_succ]
    refine wpAnyH_done (by kernel_rfl) ?_ _; clear hHeld; gi_wp2; exact ⟨HJ2.out.b4, i + 1, by have := (List.getElem?_eq_some_iff.1 HC.out.1).1; omega, HC.out.2.2.2.1, _, HJ2.out.put r, HM2.out, Nat.le_trans (del_len _ _) (Nat.le_trans HM1.out (by omega))⟩
  | false =>
    gi_wp2; have hS0 : (fun w' => w'.heap[w.heap.size]? = some (.cells #[.pointer (some ⟨b, 0, none⟩)] 31) ∧ w'.heap[b]? = some (.cells #[.pointer (some ⟨bl, 0, none⟩), .map (some bm), .bool br] 96) ∧ w'.heap[P]? = some (.cells #[.slice ak nk ck, .slice av nv cv, .bool false] 90) ∧ BytesV w' (.slice ak nk ck) c.key ∧ BytesV w' (.slice av nv cv) c.val) V.drew := ⟨HJ0.out.b0, HJ0.out.st, hpb, HB.out.1, HB.out.2⟩
    refine region_round (S := fun w' => w'.heap[w.heap.size]? = some (.cells #[.pointer (some ⟨b, 0, none⟩)] 31) ∧ w'.heap[b]? = some (.cells #[.pointer (some ⟨bl, 0, none⟩), .map (some bm), .bool br] 96) ∧ w'.heap[P]? = some (.cells #[.slice ak nk ck, .slice av nv cv, .bool false] 90) ∧ BytesV w' (.slice ak nk ck) c.key ∧ BytesV w' (.slice av nv cv) c.val) (by kernel_rfl) (noDefer_spec (by kernel_rfl)) (fun ⟨_, _, h⟩ => h) hS0 (fun hHeld => ?_); refine wpAnyH_take (i := 0) (v := .pointer (some ⟨b, 0, none⟩)) rfl (by kernel_rfl) (by kernel_rfl) (by kernel_rfl) (fun _ _ _ h => h) (Or.inl ⟨by rfl, fun w9 hSw => ?_⟩) hHeld ?_
    · have y0 : w9.cell? ⟨w.heap.size, 0, none⟩ = some (.pointer (some ⟨b, 0, none⟩)) := (cell_of_block hSw.1 0).trans rfl
      have y1 : w9.cell? ⟨b, 1, none⟩ = some (.map (some bm)) := (cell_of_block hSw.2.1 1).trans rfl; have y2 : w9.cell? ⟨P, 0, none⟩ = some (.slice ak nk ck) := (cell_of_block hSw.2.2.1 0).trans rfl; have y3 : w9.cell? ⟨P, 1, none⟩ = some (.slice av nv cv) := (cell_of_block hSw.2.2.1 1).trans rfl; go_simp
    simp only [List.getElem_toArray, List.getElem_cons_succ, List.getElem_cons_zero, Act.put, List.setIfInBounds_toArray, List.set_cons_zero, List.set_cons_succ]; refine wpAnyH_take (i := 1) (v := .pointer (some ⟨b, 0, none⟩)) rfl (by kernel_rfl) (by kernel_rfl) (by kernel_rfl) (fun _ _ _ h => h) (Or.inl ⟨by rfl, fun w9 hSw => ?_⟩) hHeld ?_
    · go_simp
    simp only [List.getElem_toArray, List.getElem_cons_succ, List.getElem_cons_zero, Act.put, List.setIfInBounds_toArray, List.set_cons_zero, List.set_cons_succ]; refine wpAnyH_take (i := 2) (v := .pointer (some ⟨b, 1, none⟩)) rfl (by kernel_rfl) (by kernel_rfl) (by kernel_rfl) (fun _ _ _ h => h) (Or.inl ⟨by rfl, fun w9 hSw => ?_⟩) hHeld ?_
    · go_simp
    simp only [List.getElem_toArray, List.getElem_cons_succ, List.getElem_cons_zero, Act.put, List.setIfInBounds_toArray, List.set_cons_zero, List.set_cons_succ]; refine wpAnyH_take (i := 3) (v := .map (some bm)) rfl (by kernel_rfl) (by kernel_rfl) (by kernel_rfl) (fun _ _ _ h => h) (Or.inl ⟨by rfl, fun w9 hSw => ?_⟩) hHeld ?_
    · have y0 : w9.cell? ⟨w.heap.size, 0, none⟩ = some (.pointer (some ⟨b, 0, none⟩)) := (cell_of_block hSw.1 0).trans rfl
      have y1 : w9.cell? ⟨b, 1, none⟩ = some (.map (some bm)) := (cell_of_block hSw.2.1 1).trans rfl; have y2 : w9.cell? ⟨P, 0, none⟩ = some (.slice ak nk ck) := (cell_of_block hSw.2.2.1 0).trans rfl; have y3 : w9.cell? ⟨P, 1, none⟩ = some (.slice av nv cv) := (cell_of_block hSw.2.2.1 1).trans rfl; go_simp
    simp only [List.getElem_toArray, List.getElem_cons_succ, List.getElem_cons_zero, Act.put, List.setIfInBounds_toArray, List.set_cons_zero, List.set_cons_succ]; refine wpAnyH_take (i := 4) (v := .pointer (some ⟨P, 0, none⟩)) rfl (by kernel_rfl) (by kernel_rfl) (by kernel_rfl) (fun _ _ _ h => h) (Or.inl ⟨by rfl, fun w9 hSw => ?_⟩) hHeld ?_
    · go_simp
    simp only [List.getElem_toArray, List.getElem_cons_succ, List.getElem_cons_zero, Act.put, List.setIfInBounds_toArray, List.set_cons_zero, List.set_cons_succ]; refine wpAnyH_take (i := 5) (v := .slice ak nk ck) rfl (by kernel_rfl) (by kernel_rfl) (by kernel_rfl) (fun _ _ _ h => h) (Or.inl ⟨by rfl, fun w9 hSw => ?_⟩) hHeld ?_
    · have y0 : w9.cell? ⟨w.heap.size, 0, none⟩ = some (.pointer (some ⟨b, 0, none⟩)) := (cell_of_block hSw.1 0).trans rfl
      have y1 : w9.cell? ⟨b, 1, none⟩ = some (.map (some bm)) := (cell_of_block hSw.2.1 1).trans rfl; have y2 : w9.cell? ⟨P, 0, none⟩ = some (.slice ak nk ck) := (cell_of_block hSw.2.2.1 0).trans rfl; have y3 : w9.cell? ⟨P, 1, none⟩ = some (.slice av nv cv) := (cell_of_block hSw.2.2.1 1).trans rfl; go_simp
    simp only [List.getElem_toArray, List.getElem_cons_succ, List.getElem_cons_zero, Act.put, List.setIfInBounds_toArray, List.set_cons_zero, List.set_cons_succ]; refine wpAnyH_take (i := 6) (v := .string (strOfNums c.key)) rfl (by kernel_rfl) (by kernel_rfl) (by kernel_rfl) (fun _ _ _ h => h) (Or.inl ⟨by rfl, fun w9 hSw => ?_⟩) hHeld ?_
    · have y9 := kconv_b hSw.2.2.2.1
      go_simp
    simp only [List.getElem_toArray, List.getElem_cons_succ, List.getElem_cons_zero, Act.put, List.setIfInBounds_toArray, List.set_cons_zero, List.set_cons_succ]; refine wpAnyH_take (i := 7) (v := .pointer (some ⟨P, 1, none⟩)) rfl (by kernel_rfl) (by kernel_rfl) (by kernel_rfl) (fun _ _ _ h => h) (Or.inl ⟨by rfl, fun w9 hSw => ?_⟩) hHeld ?_
    · go_simp
    simp only [List.getElem_toArray, List.getElem_cons_succ, List.getElem_cons_zero, Act.put, List.setIfInBounds_toArray, List.set_cons_zero, List.set_cons_succ]; refine wpAnyH_take (i := 8) (v := .slice av nv cv) rfl (by kernel_rfl) (by kernel_rfl) (by kernel_rfl) (fun _ _ _ h => h) (Or.inl ⟨by rfl, fun w9 hSw => ?_⟩) hHeld ?_
    · have y0 : w9.cell? ⟨w.heap.size, 0, none⟩ = some (.pointer (some ⟨b, 0, none⟩)) := (cell_of_block hSw.1 0).trans rfl
      have y1 : w9.cell? ⟨b, 1, none⟩ = some (.map (some bm)) := (cell_of_block hSw.2.1 1).trans rfl; have y2 : w9.cell? ⟨P, 0, none⟩ = some (.slice ak nk ck) := (cell_of_block hSw.2.2.1 0).trans rfl; have y3 : w9.cell? ⟨P, 1, none⟩ = some (.slice av nv cv) := (cell_of_block hSw.2.2.1 1).trans rfl; go_simp
    simp only [List.getElem_toArray, List.getElem_cons_succ, List.getElem_cons_zero, Act.put, List.setIfInBounds_toArray, List.set_cons_zero, List.set_cons_succ]; refine wpAnyH_ready (rs := [9]) (by kernel_rfl) (by simp) ?_; refine AllReadyH.cons rfl (fun K hK => ?_) AllReadyH.nil; go_simp; have HV0 : Hid (DoJ w V.drew rb D b bl br bm m1) := HJ0.out.drew; refine Calls.mono (bclone_any (.slice av nv cv) c.val hS0.2.2.2.2 HVL.out) ?_; rintro e V1 ⟨vc1, rfl, ho, hb1⟩; have ho4 : V1.ownsRow (w.heap.size + 4) 5 1 vc1 c.val.length (vB c.val) := own_base ho (by have := HV0.out.sz; omega); have hJ1 := HV0.out.below hb1; have hS1 : (fun w' => w'.heap[w.heap.size]? = some (.cells #[.pointer (some ⟨b, 0, none⟩)] 31) ∧ w'.heap[b]? = some (.cells #[.pointer (some ⟨bl, 0, none⟩), .map (some bm), .bool br] 96) ∧ w'.heap[P]? = some (.cells #[.slice ak nk ck, .slice av nv cv, .bool false] 90) ∧ BytesV w' (.slice ak nk ck) c.key ∧ BytesV w' (.slice av nv cv) c.val) V1 := ⟨hJ1.b0, hJ1.st, (hb1.block P (heap_lt hS0.2.2.1)).trans hS0.2.2.1, hS0.2.2.2.1.keep fun x hx => hb1.block x (hS0.2.2.2.1.lt x hx), hS0.2.2.2.2.keep fun x hx => hb1.block x (hS0.2.2.2.2.lt x hx)⟩
    have H1 : Hid (DoJ w V1 rb D b bl br bm m1 ∧ V1.ownsRow (w.heap.size + 4) 5 1 vc1 c.val.length (vB c.val)) := ⟨hJ1, ho4⟩
    go_wp2_with fail
    refine hK.out _ _ hS1 (fun hHeld => ?_); clear hK K hb1 hJ1 ho ho4; try simp only [List.getElem_toArray, List.getElem_cons_succ, List.getElem_cons_zero, Act.put, List.setIfInBounds_toArray, List.set_cons_zero, List.set_cons_succ]
    refine wpAnyH_ready (rs := [10]) (by kernel_rfl) (by simp) ?_; refine AllReadyH.cons rfl (fun K hK => ?_) AllReadyH.nil; refine step_put_k (by rfl) _ _ _ (by rfl) (bm := bm) (m := m1) (by rfl) H1.out.1.mp HML.out (key := c.key) (by rfl) (by have := HC.out.2.2.2.2; omega) (v := vc1) (by rfl) (okS_row H1.out.2) c.val ?_; intro V2 hmp hT; have hJ2 := H1.out.1.turn (r := rb) hT.grown hmp HNE.out (fun p hp => by
     rcases put_mem hp with h9 | h9
     · refine Or.inr ?_
       rw [h9]; exact ⟨okS_row H1.out.2, BytesV.of_own H1.out.2, fun x hx => Or.inr (H1.out.2.lt x (dBlock_own hx)).1, HVL.out⟩
     · exact Or.inl h9)
    have hk2 : ∀ x, x < V1.heap.size → x ≠ bm → V2.heap[x]? = V1.heap[x]? := fun x hx hn => hT.grown.block x hx (fun e => hn (by injection e))
    have hS2 : (fun w' => w'.heap[w.heap.size]? = some (.cells #[.pointer (some ⟨b, 0, none⟩)] 31) ∧ w'.heap[b]? = some (.cells #[.pointer (some ⟨bl, 0, none⟩), .map (some bm), .bool br] 96) ∧ w'.heap[P]? = some (.cells #[.slice ak nk ck, .slice av nv cv, .bool false] 90) ∧ BytesV w' (.slice ak nk ck) c.key ∧ BytesV w' (.slice av nv cv) c.val) V2 := ⟨hJ2.b0, hJ2.st, (hk2 P (heap_lt hS1.2.2.1) (by have := HPL.out; have := HJ0.out.mm; omega)).trans hS1.2.2.1, hS1.2.2.2.1.keep fun x hx => hk2 x (hS1.2.2.2.1.lt x hx) (fun e => by obtain ⟨es, cl, he⟩ := owns_map H1.out.1.mp; exact bytes_map hS1.2.2.2.1 hx es cl (by rw [e]; exact he)), hS1.2.2.2.2.keep fun x hx => hk2 x (hS1.2.2.2.2.lt x hx) (fun e => by obtain ⟨es, cl, he⟩ := owns_map H1.out.1.mp; exact bytes_map hS1.2.2.2.2 hx es cl (by rw [e]; exact he))⟩
    have HJ2 : Hid (DoJ w V2 rb D b bl br bm (putG m1 (kS c.key) (vc1, c.val))) := hJ2; have HM2 : Hid (mk (putG m1 (kS c.key) (vc1, c.val)) = doPs (mk m) (l.take (i + 1))) := by
     show _ = _; rw [mk_put, doPs_snoc HC.out.1, HC.out.2.1]; unfold doP; rw [if_neg (by rw [← HL.out.2.2]; decide)]
    refine hK.out _ _ hS2 (fun hHeld => ?_); clear hK K; try simp only [List.getElem_toArray, List.getElem_cons_succ, List.getElem_cons_zero, Act.put, List.setIfInBounds_toArray, List.set_cons_zero, List.set_cons_succ]
    refine wpAnyH_done (by kernel_rfl) ?_ _; clear hHeld; gi_wp2; exact ⟨HJ2.out.b4, i + 1, by have := (List.getElem?_eq_some_iff.1 HC.out.1).1; omega, HC.out.2.2.2.1, _, HJ2.out.put r, HM2.out, Nat.le_trans (put_len _ _ _) (by have := HM1.out; omega)⟩
 case hE =>
  rintro e W' ⟨hv, hq⟩; refine ⟨hv, ?_⟩; clear hst hpe htm hpar has' hbod h0 hXc hv; rcases hq with ⟨i, m', hi, hk, hj, hm', hml'⟩ | hx
  · refine Or.inl ⟨hj.b4, ?_⟩
    obtain ⟨re, hre⟩ : ∃ re : Loop, { r with state := .exhausted } = re := ⟨_, rfl⟩
    rw [hre]; have J1 : Hid (DoJ w (W'.putObj (w.heap.size + 3) (.loop re)) re D b bl br bm m' ∧ mk m' = doPs (mk m) l ∧ m'.length ≤ m.length + l.length) := ⟨hj.put re, by rw [hm', take_all hk], by omega⟩
    show Exit.inBlock _ _ _ _ (W'.putObj (w.heap.size + 3) (.loop re)); generalize W'.putObj (w.heap.size + 3) (.loop re) = V at J1 ⊢; clear hj hre hm' hk hi hml'; go_wp2; refine ⟨by simp, .inl ⟨_, _, rfl, run_takeDeferred (w := V) J1.out.1.b3, ?_⟩⟩; refine ⟨.tuple #[], by simp [results, Tryz.results45], rfl, J1.out.1.grown, m', J1.out.1.store HNE.out, J1.out.2⟩
  · exact hx.elim
end Go.Proofs.YtconkienlcegaaaGreatDoor
