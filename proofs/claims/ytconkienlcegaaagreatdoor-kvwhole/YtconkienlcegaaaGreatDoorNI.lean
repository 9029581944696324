/- kv: the record of all keys: write over rising. -/
import Derived.Test.YtconkienlcegaaaGreatDoorLX
import Derived.Test.YtconkienlcegaaaGreatDoorKH
namespace Go.Proofs.YtconkienlcegaaaGreatDoor
open Go.RowKit Go.Maps Go.Joins Go.Shelf
set_option linter.unusedSimpArgs false
set_option linter.unusedVariables false
/-- Within the rounds of write, beside blocks UP that must stay as U1 has them. -/
structure WsJ (w W : World) (rc : Loop) (v : Value) (out : List Int) (U1 : World) (UP : Nat → Prop) : Prop extends WrJ w W rc v out where
 pr : ∀ x, UP x → W.heap[x]? = U1.heap[x]? ∧ w.heap.size + 5 ≤ x ∧ x < W.heap.size ∧ v.ownBlock ≠ some x
theorem WsJ.below {w W W2 : World} {rc : Loop} {v : Value} {out : List Int} {U1 : World} {UP : Nat → Prop} (h : WsJ w W rc v out U1 UP) (hb : Below W.heap.size W W2) : WsJ w W2 rc v out U1 UP :=
 ⟨h.toWrJ.below hb, fun x hx => ⟨(hb.block x (h.pr x hx).2.2.1).trans (h.pr x hx).1, (h.pr x hx).2.1, Nat.lt_of_lt_of_le (h.pr x hx).2.2.1 hb.size, (h.pr x hx).2.2.2⟩⟩
theorem WsJ.put {w W : World} {rc : Loop} {v : Value} {out : List Int} {U1 : World} {UP : Nat → Prop} (h : WsJ w W rc v out U1 UP) (r2 : Loop) : WsJ w (W.putObj (w.heap.size + 4) (.loop r2)) r2 v out U1 UP := by
 refine ⟨h.toWrJ.put r2, fun x hx => ?_⟩; obtain ⟨h1, h2, h3, h4⟩ := h.pr x hx; exact ⟨(World.putObj_heap_other (by omega)).trans h1, h2, by simpa [World.putObj] using h3, h4⟩
theorem WsJ.step {w V V2 : World} {rc : Loop} {v v' : Value} {out out' : List Int} {U1 : World} {UP : Nat → Prop} (h : WsJ w V rc v out U1 UP) (hg : V.grownBy V2 v.ownBlock) (hrow : V2.ownsRow (w.heap.size + 5) 5 1 v' out'.length (vB out')) (ha : v'.ownBlock = v.ownBlock ∨ v'.ownBlock = some V.heap.size) : WsJ w (V2.setCell ⟨w.heap.size + 2, 0, none⟩ v') rc v' out' U1 UP := by
 refine ⟨h.toWrJ.step hg hrow, fun x hx => ?_⟩; obtain ⟨h1, h2, h3, h4⟩ := h.pr x hx; have hgs := hg.size; refine ⟨(Below.heap_setCell _ _ _ _ (by show x ≠ w.heap.size + 2; omega)).trans ((hg.block x h3 (fun e => h4 e.symm)).trans h1), h2, by simp; omega, fun e => ?_⟩; rcases ha with ha | ha
 · exact h4 (ha.symm.trans e)
 · rw [ha] at e; injection e with e; omega
/-- Within one round of it. -/
structure WsI (w V : World) (rb : Loop) (v : Value) (out : List Int) (P : Nat) (vk vv : Value) (c : Ch) (U1 : World) (UP : Nat → Prop) : Prop where
 j : WsJ w V rb v out U1 UP
 pb : V.heap[P]? = some (.cells #[vk, vv, .bool c.gone] 90)
 pl : w.heap.size + 5 ≤ P
 pv : v.ownBlock ≠ some P
 k : KBD V (fun b => w.heap.size + 5 ≤ b ∧ v.ownBlock ≠ some b) vk c.key
 x : KBD V (fun b => b < w.heap.size) vv c.val
theorem WsI.alloc {w V : World} {rb : Loop} {v : Value} {out : List Int} {P : Nat} {vk vv : Value} {c : Ch} {U1 : World} {UP : Nat → Prop} (h : WsI w V rb v out P vk vv c U1 UP) (o : Obj) : WsI w (V.alloc o) rb v out P vk vv c U1 UP := by
 have hb : Below V.heap.size V (V.alloc o) := by go_grown
 have hs := h.j.bl.size; exact ⟨h.j.below hb, (hb.block _ (heap_lt h.pb)).trans h.pb, h.pl, h.pv, ⟨h.k.is.keep fun b hb' => hb.block b (h.k.is.lt b hb'), h.k.d, h.k.len⟩, h.x.mono (fun b hb' => hb.block b (by omega)) (fun _ h => h)⟩
theorem WsI.step {w V V2 : World} {rb : Loop} {v v' : Value} {out out' : List Int} {P : Nat} {vk vv : Value} {c : Ch} {U1 : World} {UP : Nat → Prop} (h : WsI w V rb v out P vk vv c U1 UP) (hrow : V2.ownsRow (w.heap.size + 5) 5 1 v' out'.length (vB out')) (hg : V.grownBy V2 v.ownBlock) (ha : v'.ownBlock = v.ownBlock ∨ v'.ownBlock = some V.heap.size) : WsI w (V2.setCell ⟨w.heap.size + 2, 0, none⟩ v') rb v' out' P vk vv c U1 UP := by
 have hs := h.j.size; have hp := heap_lt h.pb; have hpl := h.pl; have k4 : ∀ b, b ≠ w.heap.size + 2 → (V2.setCell ⟨w.heap.size + 2, 0, none⟩ v').heap[b]? = V2.heap[b]? := fun b hb => Below.heap_setCell _ _ _ _ hb
 have hlow : ∀ b, b < w.heap.size → (V2.setCell ⟨w.heap.size + 2, 0, none⟩ v').heap[b]? = V.heap[b]? := fun b hb => (k4 b (by omega)).trans (hg.block b (by omega) (fun e => by have := (h.j.row.lt b e.symm).1; omega))
 have hne : ∀ y, y < V.heap.size → v.ownBlock ≠ some y → v'.ownBlock ≠ some y := fun y hy h0 e => by
  rcases ha with ha | ha
  · exact h0 (ha.symm.trans e)
  · rw [ha] at e; injection e with e; omega
 exact ⟨h.j.step hg hrow ha, (k4 _ (by omega)).trans ((hg.block _ hp (fun e => h.pv e.symm)).trans h.pb), hpl, hne P hp h.pv, ⟨h.k.is.keep fun b hb => (k4 b (by have := (h.k.d b hb).1; omega)).trans (hg.block b (h.k.is.lt b hb) (fun e => (h.k.d b hb).2 e.symm)), fun b hb => ⟨(h.k.d b hb).1, hne b (h.k.is.lt b hb) (h.k.d b hb).2⟩, h.k.len⟩, h.x.mono hlow (fun _ h => h)⟩
theorem WsI.low {w V V2 : World} {rb : Loop} {v : Value} {out : List Int} {P : Nat} {vk vv : Value} {c : Ch} {U1 : World} {UP : Nat → Prop} (h : WsI w V rb v out P vk vv c U1 UP) (hg : V.grownBy V2 v.ownBlock) : V2.heap[w.heap.size + 2]? = some (.cells #[v] 23) ∧ V2.heap[P]? = some (.cells #[vk, vv, .bool c.gone] 90) := by
 have hs := h.j.size; exact ⟨(hg.block _ (by omega) (fun e => by have := (h.j.row.lt _ e.symm).1; omega)).trans h.j.b2, (hg.block _ (heap_lt h.pb) (fun e => h.pv e.symm)).trans h.pb⟩
/-- All keys of a store, as changes. -/
def allC (m : List (List UInt8 × Value × List Int)) : List Ch := m.map fun p => ⟨kI p.1, p.2.2, false⟩
theorem rng_none (m : List (List UInt8 × Value × List Int)) : rngL m (kS []) (kS []) = m := by
 unfold rngL; rw [List.filter_eq_self]; intro p _; show inR (kS []) (kS []) p.1 = true; have e : kS [] = [] := rfl; rw [e]; unfold inR; cases p.1 with
 | nil => rfl
 | cons x r => rfl
attribute [local go_sem] Oper.semAt_some
set_option maxRecDepth 100000 in
set_option maxHeartbeats 8000000 in
theorem write2_any {w : World} {X1 X2 X3 : Nat} {D : Nat → Prop} {b bl bm : Nat} {br : Bool} {m : List (List UInt8 × Value × List Int)} (hk : KS w D b bl br bm m) (hD : ∀ x, D x → x < w.heap.size) (hs : SrtG m) (hm : m.length ≤ 2000000000000) (hkl : ∀ p ∈ m, p.1.length ≤ 64) (hX1 : w.cell? ⟨X1, 0, none⟩ = some (.pointer (some ⟨b, 0, none⟩))) (hX2 : w.cell? ⟨X2, 0, none⟩ = some (.slice none 0 0)) (hX3 : w.cell? ⟨X3, 0, none⟩ = some (.slice none 0 0)) :
 Calls Tryz.prog 51 #[.func (.func 87) #[] #[.pointer (some ⟨X1, 0, none⟩), .pointer (some ⟨X2, 0, none⟩), .pointer (some ⟨X3, 0, none⟩)]] w fun e w' => Below w.heap.size w w' ∧ WrR w w' (allC m) e := by
 have HX : Hid (KS w D b bl br bm m ∧ (∀ x, D x → x < w.heap.size) ∧ SrtG m ∧ m.length ≤ 2000000000000 ∧ (∀ p ∈ m, p.1.length ≤ 64) ∧ w.cell? ⟨X1, 0, none⟩ = some (.pointer (some ⟨b, 0, none⟩)) ∧ w.cell? ⟨X2, 0, none⟩ = some (.slice none 0 0) ∧ w.cell? ⟨X3, 0, none⟩ = some (.slice none 0 0)) := ⟨hk, hD, hs, hm, hkl, hX1, hX2, hX3⟩
 clear hk hD hs hm hkl hX1 hX2 hX3; obtain ⟨cs, hcs⟩ : ∃ cs, cs = allC m := ⟨_, rfl⟩
 rw [← hcs]; have HCS : Hid (cs = allC m) := hcs; clear hcs; refine (callsIn_wide (n := 4)).1 ?_; refine callsIn_of_wp_marks Tryz.func51 rfl trivial ?_ rfl; simp only [Tryz.ntmps51, List.size_toArray, List.length_cons, List.length_nil, Nat.reduceAdd, Nat.reduceSub, Array.replicate_succ, Array.replicate_zero, List.push_toArray, List.append_toArray, List.nil_append, List.cons_append]; refine wpIn_wide.2 ?_; go_wp2_with fail; refine (wpIn_wide (n := 4)).1 ?_; refine range_leave (gf := 87) (lb := #[.pointer (some ⟨X1, 0, none⟩), .pointer (some ⟨X2, 0, none⟩), .pointer (some ⟨X3, 0, none⟩)]) rfl (enters_of Tryz.func87 (by kernel_rfl) rfl) ?_; intro r W1 hst hpe htm hpar has' hbod hW1; have hW : W1 = [Obj.cells #[.slice none 0 0] 23, .cells #[.int .i64 0] 25, .cells #[.slice none 0 0] 23, .deferred (some []), .loop r].foldl World.alloc w := by rw [hW1]; rfl
 have hsz : (((w.alloc (.cells #[.slice none 0 0] 23)).alloc (.cells #[.int .i64 0] 25)).alloc (.cells #[.slice none 0 0] 23)).heap.size = w.heap.size + 3 := by simp
 rw [hsz]; have hh := fun k o hk => allocs_heap [Obj.cells #[.slice none 0 0] 23, .cells #[.int .i64 0] 25, .cells #[.slice none 0 0] 23, .deferred (some []), .loop r] w k o hk
 have hbl := allocs_below [Obj.cells #[.slice none 0 0] 23, .cells #[.int .i64 0] 25, .cells #[.slice none 0 0] 23, .deferred (some []), .loop r] w; rw [← hW] at hh hbl; have h0 : WrJ w W1 r (.slice none 0 0) [] := ⟨hh 0 _ rfl, hh 1 _ rfl, hh 2 _ rfl, hh 3 _ rfl, hh 4 _ rfl, World.ownsRow_nil _ _ _ _, hbl⟩
 have hX1c : W1.cell? ⟨X1, 0, none⟩ = some (.pointer (some ⟨b, 0, none⟩)) := (hbl.cell (p := ⟨X1, 0, none⟩) (cell_lt HX.out.2.2.2.2.2.1)).trans HX.out.2.2.2.2.2.1; have hX2c : W1.cell? ⟨X2, 0, none⟩ = some (.slice none ([] : List Int).length 0) := (hbl.cell (p := ⟨X2, 0, none⟩) (cell_lt HX.out.2.2.2.2.2.2.1)).trans HX.out.2.2.2.2.2.2.1; have hX3c : W1.cell? ⟨X3, 0, none⟩ = some (.slice none ([] : List Int).length 0) := (hbl.cell (p := ⟨X3, 0, none⟩) (cell_lt HX.out.2.2.2.2.2.2.2)).trans HX.out.2.2.2.2.2.2.2; have hW5 : w.heap.size + 5 ≤ W1.heap.size := h0.size; have hkW : ∀ {W : World}, Below w.heap.size w W → KS W D b bl br bm m := fun hb => HX.out.1.mono (fun x hx => hb.block x (HX.out.2.1 x hx)) (fun _ h => h)
 have HKW : Hid (∀ {W : World}, Below w.heap.size w W → KS W D b bl br bm m) := hkW; have hbl1 := hbl; clear hW hW1 hh hbl hsz hkW; have hR := rising1_in 2 (w.heap.size + 4) X1 X2 X3 W1 (D := D) (b := b) (bl := bl) (bm := bm) (br := br) (m := m) (f := []) (t := []) (fun U1 UP k W => ∃ v out, WsJ w W r v out U1 UP ∧ out = encK (cs.take k) ∧ out.length ≤ 65535) (fun W => WrX w W r ∧ 65535 < (encK cs).length) (HKW.out hbl1) HX.out.2.2.1 HX.out.2.2.2.1 hX1c hX2c hX3c (Or.inl ⟨rfl, rfl⟩) (Or.inl ⟨rfl, rfl⟩) ?hJ0 ?hJk ?hY; refine CallsIn.mono hR ?hE
 case hJ0 =>
  intro U1 UP hb hP; have hu : ∀ x, UP x → W1.heap.size ≤ x ∧ x < U1.heap.size := hP; exact ⟨_, _, ⟨h0.below hb, fun x hx => ⟨rfl, by have := hu x hx; omega, (hu x hx).2, by simp [Value.ownBlock]⟩⟩, rfl, by decide⟩
 case hJk =>
  rintro U1 UP k W ⟨v, out, hj, _, _⟩; exact ⟨HKW.out hj.bl, (hj.bl.cell (p := ⟨X1, 0, none⟩) (cell_lt HX.out.2.2.2.2.2.1)).trans HX.out.2.2.2.2.2.1, fun x hx => (hj.pr x hx).1⟩
 case hY =>
  rintro U1 UP k W W2 vk vv p hpk ⟨v, out, hj, hout, hlen⟩ hb2 hkb hkd hvp; rw [rng_none] at hpk; obtain ⟨c, hcc⟩ : ∃ c : Ch, c = ⟨kI p.1, p.2.2, false⟩ := ⟨_, rfl⟩
  have hck : cs[k]? = some c := by rw [HCS.out]; unfold allC; rw [List.getElem?_map, hpk, hcc]; rfl
  have hcg0 : c.gone = false := by rw [hcc]
  have hpm := List.mem_of_getElem? hpk; have hck64 : c.key.length ≤ 64 := by rw [hcc]; show (kI p.1).length ≤ 64; rw [kI_len]; exact HX.out.2.2.2.2.1 p hpm
  have hwl0 := hj.bl.size; have hvv : KBD W2 (fun b => b < w.heap.size) vv c.val := by
   rw [hcc, hvp]; exact ((HKW.out hj.bl).vals p hpm).2.mono (fun x hx => hb2.block x (by have := HX.out.2.1 x hx; omega)) (fun x hx => HX.out.2.1 x hx)
  have hs5' := hj.size; have hvk : KBD W2 (fun x => W.heap.size ≤ x) vk c.key := by
   rw [hcc]; exact ⟨hkb, hkd, by show (kI p.1).length ≤ _; have := hck64; rw [hcc] at this; have h9 : (kI p.1).length ≤ 64 := this; omega⟩
  rw [← hcg0]; have hb3 : Below W.heap.size W (W2.alloc (.cells #[vk, vv, .bool c.gone] 90)) := hb2.alloc hb2.size _; have hj3 := hj.below hb3; clear hkb hkd hvp hpk hcc hpm; refine YieldAt.mono (round_leave (R := fun W' => ∃ v out, WsJ w W' r v out U1 UP ∧ out = encK (cs.take (k + 1)) ∧ out.length ≤ 65535) (J := fun q W' => q = .ret ∧ WrX w W' r ∧ 65535 < (encK cs).length) (hj.below hb2).b4 hst hpe (by rw [hpar]; rfl) ?_) ?_; rotate_left
  · rintro e W' (⟨rfl, h⟩ | ⟨q, rfl, rfl, h⟩)
    · exact Or.inl ⟨rfl, h⟩
    · exact Or.inr ⟨by rw [hcg0], h⟩
  intro rb hrb; have HR : Hid (r.params = _ ∧ r.assign = _ ∧ r.body = _ ∧ r.tmps = _) := ⟨hpar, has', hbod, htm⟩
  rw [hpar, has', hbod, htm]; clear hpar has' hbod htm hst hpe hrb h0 hX1c hX2c hX3c hbl1; simp only [List.zip_toArray, List.zip_cons_cons, List.zip_nil_right, List.foldl_toArray, List.foldl_cons, List.foldl_nil, List.setIfInBounds_toArray, List.set_cons_zero, List.set_cons_succ]; obtain ⟨ak, ck, rfl⟩ := hvk.is.form'; obtain ⟨av, cv, rfl⟩ := hvv.is.form'; obtain ⟨va, vc, hv⟩ := row_form hj.row; subst hv; have hs5 := hj.size; have hwl := hj.bl.size; have hI0 : WsI w ((W2.alloc (.cells #[.slice ak c.key.length ck, .slice av c.val.length cv, .bool c.gone] 90)).putObj (w.heap.size + 4) (.loop rb)) rb (.slice va out.length vc) out W2.heap.size (.slice ak c.key.length ck) (.slice av c.val.length cv) c U1 UP := by
   have ho : ∀ b, b ≠ w.heap.size + 4 → ((W2.alloc (.cells #[.slice ak c.key.length ck, .slice av c.val.length cv, .bool c.gone] 90)).putObj (w.heap.size + 4) (.loop rb)).heap[b]? = (W2.alloc (.cells #[.slice ak c.key.length ck, .slice av c.val.length cv, .bool c.gone] 90)).heap[b]? := fun b hb => World.putObj_heap_other hb
   have h2s := hb2.size; refine ⟨hj3.put rb, (ho _ (by omega)).trans (heap_alloc_new _ _), by omega, fun e => by have := (hj.row.lt _ e).2; omega, ⟨hvk.is.keep fun x hx => (ho x (by have := hvk.d x hx; omega)).trans (heap_alloc_old _ _ _ (hvk.is.lt x hx)), fun x hx => ⟨by have := hvk.d x hx; omega, fun e => by have := (hj.row.lt _ e).2; have := hvk.d x hx; omega⟩, hvk.len⟩, hvv.mono (fun b hb => (ho b (by omega)).trans (heap_alloc_old _ _ _ (by omega))) (fun _ h => h)⟩
  have HI0 : Hid _ := hI0; have hl5 := hj3.b4; have HC : Hid (cs[k]? = some c ∧ out = encK (cs.take k) ∧ out.length ≤ 65535 ∧ (W2.alloc (.cells #[.slice ak c.key.length ck, .slice av c.val.length cv, .bool c.gone] 90)).heap[w.heap.size + 4]? = some (.loop r) ∧ c.key.length ≤ 64) := ⟨hck, hout, hlen, hl5, hck64⟩
  have HCG : Hid (c.gone = false) := hcg0; clear hI0 hj hj3 hb2 hb3 hvk hvv hck hout hlen hl5 hs5 hwl hs5' hwl0 hck64 hcg0; obtain ⟨nk, hnk⟩ : ∃ nk, nk = c.key.length := ⟨_, rfl⟩
  obtain ⟨nv, hnv⟩ : ∃ nv, nv = c.val.length := ⟨_, rfl⟩
  obtain ⟨cg, hcg⟩ : ∃ cg, cg = c.gone := ⟨_, rfl⟩
  obtain ⟨no, hno⟩ : ∃ no, no = out.length := ⟨_, rfl⟩
  rw [← hnk, ← hnv, ← hcg] at HC HI0 ⊢; rw [← hno] at HI0; have HL : Hid (nk = c.key.length ∧ nv = c.val.length ∧ cg = c.gone ∧ no = out.length) := ⟨hnk, hnv, hcg, hno⟩
  clear hnk hnv hcg hno; gi_wp2; refine ⟨HC.out.2.2.2.1, ?_⟩; generalize (W2.alloc (.cells #[.slice ak nk ck, .slice av nv cv, .bool cg] 90)).putObj (w.heap.size + 4) (.loop rb) = V at HI0 ⊢; generalize W2.heap.size = P at HI0 ⊢; have hpb : V.heap[P]? = some (.cells #[.slice ak nk ck, .slice av nv cv, .bool cg] 90) := by rw [HL.out.2.2.1]; exact HI0.out.pb
  have c0 : V.cell? ⟨P, 0, none⟩ = some (.slice ak nk ck) := (cell_of_block hpb 0).trans rfl; have c1 : V.cell? ⟨P, 1, none⟩ = some (.slice av nv cv) := (cell_of_block hpb 1).trans rfl; have c2 : V.cell? ⟨P, 2, none⟩ = some (.bool cg) := (cell_of_block hpb 2).trans rfl; have e0 : V.cell? ⟨w.heap.size, 0, none⟩ = some (.slice none 0 0) := (cell_of_block HI0.out.j.b0 0).trans rfl; have f0 : V.frozen? ⟨w.heap.size, 0, none⟩ = false := unfrozen_of_block HI0.out.j.b0 0; have e1 : V.cell? ⟨w.heap.size + 1, 0, none⟩ = some (.int .i64 0) := (cell_of_block HI0.out.j.b1 0).trans rfl; have f1 : V.frozen? ⟨w.heap.size + 1, 0, none⟩ = false := unfrozen_of_block HI0.out.j.b1 0; have e2 : V.cell? ⟨w.heap.size + 1 + 1, 0, none⟩ = some (.slice va no vc) := (cell_of_block HI0.out.j.b2 0).trans rfl; have hnk : nk ≤ 64 := HC.out.2.2.2.2; have hno : no ≤ 65535 := by rw [HL.out.2.2.2]; exact HC.out.2.2.1
  have hnv : nv ≤ 140737488355328 := by rw [HL.out.2.1]; exact HI0.out.x.len
  have hbl := encK_big HC.out.1; have hcl := encC_length c; rw [← HC.out.2.1, hcl, ← HL.out.1, ← HL.out.2.1, ← HL.out.2.2.1, ← HL.out.2.2.2] at hbl; have HBL : Hid (no + (6 + nk + if cg = true then 0 else nv) ≤ (encK cs).length) := hbl; clear hbl hcl hpb; cases cg with
  | true => exact absurd (HL.out.2.2.1.trans HCG.out) (by simp)
  | false =>
    by_cases hbig : 65535 < no + 6 + nk + nv
    · have hbi : (65535 : Int) - no - 2 - nk - 4 < nv := by omega
      have HBB : Hid (65535 < (encK cs).length) := by show _ < _; have := HBL.out; simp at this; omega
      gi_wp2; have h9 := (HI0.out.j.bigs r).2
      rw [HR.out.1, HR.out.2.1, HR.out.2.2.1, HR.out.2.2.2] at h9; exact ⟨(HI0.out.j.bigs r).1, rfl, h9, HBB.out⟩
    · have hbi : ¬ (65535 : Int) - no - 2 - nk - 4 < nv := by omega
      have T1 : Hid True := trivial; have hPB : P ≠ w.heap.size + 1 + 1 := by have := HI0.out.pl; omega
      have hkl : c.key.length ≤ 64 := by rw [← HL.out.1]; exact hnk
      have hvl : c.val.length ≤ 140737488355328 := HI0.out.x.len; have hol : out.length ≤ 65535 := HC.out.2.2.1; have hvl2 : c.val.length ≤ 65535 := by rw [← HL.out.2.1]; omega
      have HKL : Hid (c.key.length ≤ 64 ∧ out.length ≤ 65535 ∧ c.val.length ≤ 65535) := ⟨hkl, hol, hvl2⟩
      clear hkl hvl hol hvl2; gi_wp2_with (first
       | (have _ := T1
          refine wpListIn_append_b rfl _ _ rfl (w.heap.size + 5) (.slice va no vc) (.slice (some ⟨V.heap.size, 0, none⟩) 2 2) out [(nk : Int) / 256, (nk : Int)] rfl (HI0.out.alloc _).j.row rfl (new2 V _ _) (by have := HKL.out.2; simp; omega) (by have := (HI0.out.alloc (.cells #[.int .u8 ((nk : Int) / 256), .int .u8 (nk : Int)] 5)).j.size; omega) ?_; clear T1; intro v1 V1 ho hg ha; obtain ⟨va1, vc1, rfl⟩ := row_form ho; obtain ⟨n1, hn1⟩ : ∃ n1, n1 = (out ++ [(nk : Int) / 256, (nk : Int)]).length := ⟨_, rfl⟩
          rw [← hn1] at ha; have hI1 := (HI0.out.alloc (.cells #[.int .u8 ((nk : Int) / 256), .int .u8 (nk : Int)] 5)).step (v' := .slice va1 n1 vc1) (by rw [hn1]; exact ho) hg ha; have HI1 : Hid _ := hI1; have q2 := ((HI0.out.alloc (.cells #[.int .u8 ((nk : Int) / 256), .int .u8 (nk : Int)] 5)).low hg).1; have q5 := ((HI0.out.alloc (.cells #[.int .u8 ((nk : Int) / 256), .int .u8 (nk : Int)] 5)).low hg).2; have x1 : V1.cell? ⟨w.heap.size + 1 + 1, 0, none⟩ = some (.slice va no vc) := (cell_of_block q2 0).trans rfl; have xz1 : V1.frozen? ⟨w.heap.size + 1 + 1, 0, none⟩ = false := unfrozen_of_block q2 0; have p1 : V1.cell? ⟨P, 0, none⟩ = some (.slice ak nk ck) := (cell_of_block q5 0).trans rfl; rw [← hn1]; clear ho hg ha hI1 q2 q5; have HN1 : Hid (n1 = (out ++ [(nk : Int) / 256, (nk : Int)]).length) := hn1; clear hn1; have T2 : Hid True := trivial)
       | (have _ := T2
          refine wpListIn_append_b rfl _ _ rfl (w.heap.size + 5) (.slice va1 n1 vc1) (.slice ak nk ck) (out ++ [(nk : Int) / 256, (nk : Int)]) c.key rfl HI1.out.j.row rfl HI1.out.k.is (by have := HKL.out; simp; omega) (by have := HI1.out.j.size; omega) ?_; clear T2; intro v2 V2 ho hg ha; obtain ⟨va2, vc2, rfl⟩ := row_form ho; obtain ⟨n2, hn2⟩ : ∃ n2, n2 = ((out ++ [(nk : Int) / 256, (nk : Int)]) ++ c.key).length := ⟨_, rfl⟩
          rw [← hn2] at ha; have hI2 := HI1.out.step (v' := .slice va2 n2 vc2) (by rw [hn2]; exact ho) hg ha; have HI2 : Hid _ := hI2; have q2 := (HI1.out.low hg).1; have q5 := (HI1.out.low hg).2; have x2 : V2.cell? ⟨w.heap.size + 1 + 1, 0, none⟩ = some (.slice va1 n1 vc1) := (cell_of_block q2 0).trans rfl; have xz2 : V2.frozen? ⟨w.heap.size + 1 + 1, 0, none⟩ = false := unfrozen_of_block q2 0; have p2 : V2.cell? ⟨P, 0, none⟩ = some (.slice ak nk ck) := (cell_of_block q5 0).trans rfl; have hn4 := new4 (V2.setCell ⟨w.heap.size + 1 + 1, 0, none⟩ (.slice va2 n2 vc2)) ((nv : Int) / 16777216) ((nv : Int) / 65536) ((nv : Int) / 256) ((nv : Int) % 256); rw [show (V2.setCell ⟨w.heap.size + 1 + 1, 0, none⟩ (.slice va2 n2 vc2)).heap.size = V2.heap.size from by simp] at hn4; have HN4b : Hid _ := hn4; clear hn4; rw [← hn2]; clear ho hg ha hI2 q2 q5; have HN2 : Hid (n2 = ((out ++ [(nk : Int) / 256, (nk : Int)]) ++ c.key).length) := hn2; clear hn2; have T3 : Hid True := trivial)
       | (have _ := T3
          refine wpListIn_append_b rfl _ _ rfl (w.heap.size + 5) (.slice va2 n2 vc2) (.slice (some ⟨V2.heap.size, 0, none⟩) 4 4) ((out ++ [(nk : Int) / 256, (nk : Int)]) ++ c.key) [(nv : Int) / 16777216, (nv : Int) / 65536, (nv : Int) / 256, (nv : Int) % 256] rfl (HI2.out.alloc _).j.row rfl HN4b.out (by have := HKL.out; simp; omega) (by have := (HI2.out.alloc (.cells #[.int .u8 ((nv : Int) / 16777216), .int .u8 ((nv : Int) / 65536), .int .u8 ((nv : Int) / 256), .int .u8 ((nv : Int) % 256)] 5)).j.size; omega) ?_; clear T3 HN4b; intro v3 V3 ho hg ha; obtain ⟨va3, vc3, rfl⟩ := row_form ho; obtain ⟨n3, hn3⟩ : ∃ n3, n3 = (((out ++ [(nk : Int) / 256, (nk : Int)]) ++ c.key) ++ ([(nv : Int) / 16777216, (nv : Int) / 65536, (nv : Int) / 256, (nv : Int) % 256] : List Int)).length := ⟨_, rfl⟩
          rw [← hn3] at ha; have hI3 := (HI2.out.alloc (.cells #[.int .u8 ((nv : Int) / 16777216), .int .u8 ((nv : Int) / 65536), .int .u8 ((nv : Int) / 256), .int .u8 ((nv : Int) % 256)] 5)).step (v' := .slice va3 n3 vc3) (by rw [hn3]; exact ho) hg ha; have HI3 : Hid _ := hI3; have q2 := ((HI2.out.alloc (.cells #[.int .u8 ((nv : Int) / 16777216), .int .u8 ((nv : Int) / 65536), .int .u8 ((nv : Int) / 256), .int .u8 ((nv : Int) % 256)] 5)).low hg).1; have q5 := ((HI2.out.alloc (.cells #[.int .u8 ((nv : Int) / 16777216), .int .u8 ((nv : Int) / 65536), .int .u8 ((nv : Int) / 256), .int .u8 ((nv : Int) % 256)] 5)).low hg).2; have x3 : V3.cell? ⟨w.heap.size + 1 + 1, 0, none⟩ = some (.slice va2 n2 vc2) := (cell_of_block q2 0).trans rfl; have xz3 : V3.frozen? ⟨w.heap.size + 1 + 1, 0, none⟩ = false := unfrozen_of_block q2 0; have p3 : V3.cell? ⟨P, 0, none⟩ = some (.slice ak nk ck) := (cell_of_block q5 0).trans rfl; rw [← hn3]; clear ho hg ha hI3 q2 q5; have HN3 : Hid (n3 = (((out ++ [(nk : Int) / 256, (nk : Int)]) ++ c.key) ++ ([(nv : Int) / 16777216, (nv : Int) / 65536, (nv : Int) / 256, (nv : Int) % 256] : List Int)).length) := hn3; clear hn3; have T4 : Hid True := trivial)
       | (have _ := T4
          refine wpListIn_append_b rfl _ _ rfl (w.heap.size + 5) (.slice va3 n3 vc3) (.slice av nv cv) (((out ++ [(nk : Int) / 256, (nk : Int)]) ++ c.key) ++ ([(nv : Int) / 16777216, (nv : Int) / 65536, (nv : Int) / 256, (nv : Int) % 256] : List Int)) c.val rfl HI3.out.j.row rfl HI3.out.x.is (by have := HKL.out; simp; omega) (by have := HI3.out.j.size; omega) ?_; clear T4; intro v4 V4 ho hg ha; obtain ⟨va4, vc4, rfl⟩ := row_form ho; obtain ⟨n4, hn4⟩ : ∃ n4, n4 = ((((out ++ [(nk : Int) / 256, (nk : Int)]) ++ c.key) ++ ([(nv : Int) / 16777216, (nv : Int) / 65536, (nv : Int) / 256, (nv : Int) % 256] : List Int)) ++ c.val).length := ⟨_, rfl⟩
          rw [← hn4] at ha; have hI4 := HI3.out.step (v' := .slice va4 n4 vc4) (by rw [hn4]; exact ho) hg ha; have HI4 : Hid _ := hI4; have q2 := (HI3.out.low hg).1; have q5 := (HI3.out.low hg).2; have x4 : V4.cell? ⟨w.heap.size + 1 + 1, 0, none⟩ = some (.slice va3 n3 vc3) := (cell_of_block q2 0).trans rfl; have xz4 : V4.frozen? ⟨w.heap.size + 1 + 1, 0, none⟩ = false := unfrozen_of_block q2 0; have p4 : V4.cell? ⟨P, 0, none⟩ = some (.slice ak nk ck) := (cell_of_block q5 0).trans rfl; rw [← hn4]; clear ho hg ha hI4 q2 q5; have HN4 : Hid (n4 = ((((out ++ [(nk : Int) / 256, (nk : Int)]) ++ c.key) ++ ([(nv : Int) / 16777216, (nv : Int) / 65536, (nv : Int) / 256, (nv : Int) % 256] : List Int)) ++ c.val).length) := hn4; clear hn4; have T5 : Hid True := trivial))
      have hend : (((out ++ [(nk : Int) / 256, (nk : Int)]) ++ c.key) ++ ([(nv : Int) / 16777216, (nv : Int) / 65536, (nv : Int) / 256, (nv : Int) % 256] : List Int)) ++ c.val = out ++ encC c := wr_eqF HL.out.1 HL.out.2.1 HL.out.2.2.1 (by omega) hnk; refine ⟨HI4.out.j.b4, _, _, HI4.out.j.put r, ?_, ?_⟩
      · rw [encK_snoc HC.out.1, ← HC.out.2.1]
        exact hend
      · show List.length _ ≤ _
        rw [hend, List.length_append, encC_length c, ← HL.out.1, ← HL.out.2.1, ← HL.out.2.2.1, ← HL.out.2.2.2]; simp; omega
 case hE =>
  rintro e W' ⟨hv, hq⟩; refine ⟨hv, ?_⟩; clear hst hpe htm hpar has' hbod h0 hX1c hX2c hX3c hv hbl1 hR; rcases hq with ⟨U1, UP, v, out, hj, hout, hlen⟩ | ⟨hx, hbig⟩
  · refine Or.inl ⟨hj.b4, ?_⟩
    obtain ⟨re, hre⟩ : ∃ re : Loop, { r with state := .exhausted } = re := ⟨_, rfl⟩
    rw [hre]; have J1 : Hid (WrJ w (W'.putObj (w.heap.size + 4) (.loop re)) re v out) := hj.toWrJ.put re; have HO : Hid (out = encK cs ∧ out.length ≤ 65535) := ⟨by rw [hout, rng_none, List.take_of_length_le (by rw [HCS.out]; unfold allC; rw [List.length_map]; exact Nat.le_refl _)], hlen⟩
    show Exit.inBlock _ _ _ _ (W'.putObj (w.heap.size + 4) (.loop re)); generalize W'.putObj (w.heap.size + 4) (.loop re) = V at J1 ⊢; clear hj hre hout hlen; obtain ⟨va, vc, hv⟩ := row_form J1.out.row; subst hv; obtain ⟨q, hq⟩ : ∃ q, q = out.length := ⟨_, rfl⟩
    rw [← hq] at J1; clear hq; have e0 : V.cell? ⟨w.heap.size, 0, none⟩ = some (.slice none 0 0) := (cell_of_block J1.out.b0 0).trans rfl; have f0 : V.frozen? ⟨w.heap.size, 0, none⟩ = false := unfrozen_of_block J1.out.b0 0; have e1 : V.cell? ⟨w.heap.size + 1, 0, none⟩ = some (.int .i64 0) := (cell_of_block J1.out.b1 0).trans rfl; have f1 : V.frozen? ⟨w.heap.size + 1, 0, none⟩ = false := unfrozen_of_block J1.out.b1 0; have e2 : V.cell? ⟨w.heap.size + 1 + 1, 0, none⟩ = some (.slice va q vc) := (cell_of_block J1.out.b2 0).trans rfl; go_wp2; refine ⟨by simp, .inl ⟨_, _, rfl, run_takeDeferred (w := (V.setCell ⟨w.heap.size, 0, none⟩ (.slice va q vc)).setCell ⟨w.heap.size + 1, 0, none⟩ (.int .i64 0)) (WrJ.keep3 J1.out _ _), ?_⟩⟩; have k0 := wr_end J1.out (.slice va q vc) (.int .i64 0); refine ⟨.tuple #[.slice va q vc, .int .i64 0], by simp [results, Tryz.results51, asAddr, lv23 k0.1, lv25 k0.2.1], k0.2.2.1, Or.inl ⟨by rw [← HO.out.1]; exact HO.out.2, _, rfl, ?_⟩⟩; rw [← HO.out.1]; have h9 := ownsRow_heap J1.out.row (w' := ((V.setCell ⟨w.heap.size, 0, none⟩ (.slice va q vc)).setCell ⟨w.heap.size + 1, 0, none⟩ (.int .i64 0)).putObj (w.heap.size + 3) (.deferred none)) (fun b hb => k0.2.2.2 b (by have := (J1.out.row.lt b hb).1; omega)); exact own_base h9 (by omega)
  · refine Or.inr ⟨.ret, hx.b4, ?_⟩
    obtain ⟨re, hre⟩ : ∃ re : Loop, { r with state := .exhausted, pending := some .ret } = re := ⟨_, rfl⟩
    rw [hre]; have hX1 := hx.ends re; have HB : Hid (65535 < (encK cs).length) := hbig; generalize W'.putObj (w.heap.size + 4) (.loop re) = V at hX1 ⊢; have X1 : Hid _ := hX1; clear hx hre hbig hX1; refine wpIn_wide.2 ?_; go_wp2; refine ⟨by simp, .inl ⟨_, _, rfl, run_takeDeferred X1.out.1, ?_⟩⟩; exact ⟨.tuple #[.slice none 0 0, .int .i64 3], by simp [results, Tryz.results51, asAddr, lv23 X1.out.2.1, lv25 X1.out.2.2.1], X1.out.2.2.2, Or.inr ⟨HB.out, rfl⟩⟩
end Go.Proofs.YtconkienlcegaaaGreatDoor
