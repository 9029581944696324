/- kv: the reference's Unbatch. -/
import Derived.Test.YtconkienlcegaaaGreatDoorGLC
namespace Go.Proofs.YtconkienlcegaaaGreatDoor
open Go.RowKit Go.Maps Go.Joins Go.Shelf
set_option linter.unusedSimpArgs false
set_option linter.unusedVariables false
structure RuJ (w W : World) (v : Value) (A : List CI) : Prop where
 row : W.ownsRow w.heap.size 83 3 v A.length (ciL A)
 it : ∀ f ∈ A, KBD W (fun x => w.heap.size ≤ x ∧ v.ownBlock ≠ some x) f.vk f.c.key ∧ KBD W (fun x => w.heap.size ≤ x ∧ v.ownBlock ≠ some x) f.vv f.c.val
 bl : Below w.heap.size w W
theorem RuJ.below {w W W2 : World} {v : Value} {A : List CI} (h : RuJ w W v A) (hb : Below W.heap.size W W2) : RuJ w W2 v A := by
 have hk : ∀ {D : Nat → Prop} {u : Value} {bs : List Int}, KBD W D u bs → KBD W2 D u bs := fun hk => ⟨hk.is.keep fun x hx => hb.block x (hk.is.lt x hx), hk.d, hk.len⟩
 exact ⟨ownsRow_heap h.row (fun b hb' => hb.block b (h.row.lt b hb').2), fun f hf => ⟨hk (h.it f hf).1, hk (h.it f hf).2⟩, h.bl.trans (hb.mono h.bl.size)⟩
theorem RuJ.add {w W V V2 : World} {v v' : Value} {A : List CI} {f : CI} (h : RuJ w V v A) (hW : RuJ w W v A) (hs : W.heap.size ≤ V.heap.size) (ho : V2.ownsRow w.heap.size 83 3 v' (A.length + 1) (ciL (A ++ [f]))) (hg : V.grownBy V2 v.ownBlock) (ha : v'.ownBlock = v.ownBlock ∨ v'.ownBlock = some V.heap.size) (hk : KBD V (fun x => W.heap.size ≤ x) f.vk f.c.key) (hv : KBD V (fun x => W.heap.size ≤ x) f.vv f.c.val) : RuJ w V2 v' (A ++ [f]) := by
 have hlow := hW.bl.size; have hn : ∀ x, W.heap.size ≤ x → v.ownBlock ≠ some x := fun x hx e => by have := (hW.row.lt x e).2; omega
 have hc : ∀ {u : Value} {bs : List Int} {D : Nat → Prop}, KBD V D u bs → (∀ x, D x → w.heap.size ≤ x ∧ v.ownBlock ≠ some x) → KBD V2 (fun x => w.heap.size ≤ x ∧ v'.ownBlock ≠ some x) u bs := fun hk hd => ⟨hk.is.keep fun x hx => hg.block x (hk.is.lt x hx) (fun e => (hd x (hk.d x hx)).2 e.symm), fun x hx => ⟨(hd x (hk.d x hx)).1, fun e => by
  rcases ha with ha | ha
  · exact (hd x (hk.d x hx)).2 (ha.symm.trans e)
  · rw [ha] at e; injection e with e; have := hk.is.lt x hx; omega⟩, hk.len⟩
 refine ⟨by rw [List.length_append]; exact ho, fun g hg' => ?_, h.bl.grown hg (by omega) (fun k hk => (h.row.lt k hk).1)⟩; rcases List.mem_append.1 hg' with h9 | h9
 · exact ⟨hc (h.it g h9).1 (fun x hx => hx), hc (h.it g h9).2 (fun x hx => hx)⟩
 · obtain rfl := List.mem_singleton.1 h9
   exact ⟨hc hk (fun x hx => ⟨by omega, hn x hx⟩), hc hv (fun x hx => ⟨by omega, hn x hx⟩)⟩
theorem wpList_append_r {w : World} {ops : Array Oper} {rest : List Oper} {o : Oper} {a : Act} {Q : Exit → Act → World → Prop} (hgd : o.guard = none) (s x : Operand)
 (ho : o.op = .call { callee := .builtin .append, args := #[s, x], argTypes := #[37, 37] }) (base : Nat)
 (v : Value) (A : List CI) (f : CI) (hb : ∃ a l c, f.vk = .slice a l c) (hi : ∃ a l c, f.vv = .slice a l c) (hs : a.eval s = v) (hown : w.ownsRow base 83 3 v A.length (ciL A)) (g : Nat) (hx : a.eval x = .slice (some ⟨g, 0, none⟩) 1 1) (hg : w.heap[g]? = some (.cells #[f.vk, f.vv, .bool f.c.gone] 83)) (hl : (A.length + 1) * 56 ≤ 140737488355328) (hbase : base ≤ w.heap.size)
 (h : ∀ v' w', w'.ownsRow base 83 3 v' (A.length + 1) (ciL (A ++ [f])) → w.grownBy w' v.ownBlock → (v'.ownBlock = v.ownBlock ∨ v'.ownBlock = some w.heap.size) → wpList Tryz.prog ops Q rest (a.put o.dst v') w') : wpList Tryz.prog ops Q (o :: rest) a w := by
 obtain ⟨i0, hi0, hz0, hz1, hz2⟩ := info83c; have hc : ciL (A ++ [f]) = ciL A ++ ciC f := by rw [ciL_append]; simp [ciL]
 refine wpList_append_own_at w hgd s x 37 ho base 83 i0 _ 3 56 Tryz.underlying37 hi0 hz0 hz1 hz2 rfl (by decide) v A.length (ciL A) hs hown ⟨g, 0, none⟩ 1 1 (ciC f) hx rfl (fun j u hu => by
  rw [Addr.add_lit, Nat.zero_add, cell_of_block hg]
  simpa [ciC] using hu) (fun u hu => by
   obtain ⟨_, _, _, e1⟩ := hb; obtain ⟨_, _, _, e2⟩ := hi; simp only [ciC, List.mem_cons, List.not_mem_nil, or_false] at hu; rcases hu with rfl | rfl | rfl
   · rw [e1]; rfl
   · rw [e2]; rfl
   · rfl) (by unfold maxLen; omega) (by omega) hbase (fun v' w' a b _ d => h v' w' ?_ b d)
 rw [hc]; exact a
theorem KBD.lower {W : World} {B : Nat} {P : Nat → Prop} {u : Value} {bs : List Int} (h : KBD W (fun x => B ≤ x ∧ P x) u bs) : KBD W (fun x => B ≤ x ∧ x < W.heap.size) u bs := ⟨h.is, fun b hb => ⟨(h.d b hb).1, h.is.lt b hb⟩, h.len⟩
theorem slHu (w : World) (g o n vc h : Nat) (hc : h ≤ vc) : (Instr.slice 23 (.slice (some ⟨g, o, none⟩) n vc) none (some (.int .u32 (h : Int))) none).run Tryz.prog w = .ok (.slice (some ⟨g, o, none⟩) h vc) w := by
 rw [run_slice_h w 23 _ n vc el36 .u32 h (by omega) (by omega), sz36]; by_cases e : vc = 0
 · simp [Result.andThen, sliced, e]
 · simp [Result.andThen, sliced, e, Addr.add]
theorem slLu (w : World) (g o n vc l : Nat) (hl : l ≤ n) : (Instr.slice 23 (.slice (some ⟨g, o, none⟩) n vc) (some (.int .u32 (l : Int))) none none).run Tryz.prog w = .ok (.slice (some ⟨g, if vc = l then o else o + l, none⟩) (n - l) (vc - l)) w := by
 rw [run_slice_l w 23 _ n vc el36 .u32 l (by omega) (by omega), sz36]; by_cases e : vc = l
 · simp [Result.andThen, sliced, e]
 · simp [Result.andThen, sliced, e, Addr.add_lit]
theorem ru_next {bs rs : List Int} {k n : Nat} {A : List CI} {f : CI} (hok : okM (A.map CI.c)) (hen : encK (A.map CI.c) = bs.take k) (hk : k ≤ bs.length) (hrs : bs.drop k = rs) (hkb : KByt rs) (h : nxC rs = some (f.c, n)) : okM ((A ++ [f]).map CI.c) ∧ encK ((A ++ [f]).map CI.c) = bs.take (k + n) ∧ k + n ≤ bs.length ∧ bs.drop (k + n) = rs.drop n := by
 have hno := nxC_ok hkb h; have hn1 : n ≤ bs.length - k := by have := hno.2.1; rw [← hrs, List.length_drop] at this; exact this
 rw [List.map_append, show [f].map CI.c = [f.c] from rfl]; refine ⟨⟨fun x hx => ?_, fun x hx => ?_⟩, ?_, by omega, by rw [← hrs, List.drop_drop]⟩
 · rcases List.mem_append.1 hx with h | h
   · exact hok.1 x h
   · obtain rfl := List.mem_singleton.1 h
     exact ⟨hno.2.2.2.1, hno.2.2.2.2.2.2.2, hno.2.2.2.2.1⟩
 · rcases List.mem_append.1 hx with h | h
   · exact hok.2 x h
   · obtain rfl := List.mem_singleton.1 h
     exact ⟨hno.2.2.2.2.2.1, hno.2.2.2.2.2.2.1⟩
 · rw [encK_append, hen, show encK [f.c] = encC f.c from by simp [encK], ← hno.1, List.take_add, hrs]
theorem KBD.low {W : World} {B P : Nat} {u : Value} {bs : List Int} (h : KBD W (fun x => B ≤ x ∧ x ≠ P) u bs) : ∀ b, dBlock u bs = some b → B ≤ b := fun b hb => (h.d b hb).1
theorem own0 (w : World) : (w.alloc (.cells #[] 5)).ownsRow w.heap.size 5 1 (.slice (some ⟨w.heap.size, 0, none⟩) 0 0) ([] : List Int).length (vB []) := ⟨rfl, Or.inr ⟨w.heap.size, 0, #[], by simp, Nat.le_refl _, by have := heap_alloc_new w (.cells #[] 5); simpa using this, Nat.le_refl _, by decide, rfl, rfl⟩⟩
set_option maxRecDepth 100000 in
set_option maxHeartbeats 16000000 in
theorem runbatch_any {w : World} {ba : Option Addr} {cap : Nat} {bs : List Int} (hr : BytesV w (.slice ba bs.length cap) bs) (hkb : KByt bs) (hc : bs.length ≤ cap) (hm : cap ≤ 9223372036854775807) (hlen : bs.length ≤ 1099511627776) :
 Calls Tryz.prog 34 #[.slice ba bs.length cap] w fun e w' => Below w.heap.size w w' ∧ UbR w w' bs e := by
 have HH : Hid (KByt bs ∧ bs.length ≤ 1099511627776) := ⟨hkb, hlen⟩
 have H0 : Hid (bs.length ≤ cap ∧ cap ≤ 9223372036854775807 ∧ BytesV w (.slice ba bs.length cap) bs) := ⟨hc, hm, hr⟩
 obtain ⟨N, hN⟩ : ∃ N, N = bs.length := ⟨_, rfl⟩
 rw [← hN] at H0 ⊢; have HN : Hid (N = bs.length) := hN; clear hr hkb hc hm hlen hN; go_enter Tryz.func34, Tryz.ntmps34; go_wp2_with fail; go_loopw [0, 4] (fun b u wr => ∃ (k : Nat) (a' : Option Addr) (n c' : Nat) (v : Value) (A : List CI), b = .slice a' n c' ∧ u = v ∧ Hid (RuJ w wr v A ∧ okM (A.map CI.c) ∧ encK (A.map CI.c) = bs.take k ∧ k ≤ bs.length ∧ n = bs.length - k ∧ n ≤ c' ∧ c' ≤ 9223372036854775807 ∧ BytesV w (.slice a' n c') (bs.drop k))) (fun b _ _ => slenV b)
 case atStart => exact ⟨0, _, _, _, _, [], rfl, rfl, ⟨World.ownsRow_nil _ _ _ _, (fun f hf => by cases hf), Below.refl _ _⟩, ⟨(fun c hc => by cases hc), (fun c hc => by cases hc)⟩, rfl, Nat.zero_le _, HN.out, H0.out.1, H0.out.2.1, H0.out.2.2⟩
 case round =>
  clear H0; obtain ⟨k, a', n, c', v, A, rfl, rfl, HI⟩ := hrel; obtain ⟨va, vc, rfl⟩ := row_form HI.out.1.row; obtain ⟨L, hL⟩ : ∃ L, L = A.length := ⟨_, rfl⟩
  rw [← hL] at HI ⊢; have HL : Hid (L = A.length) := hL; clear hL; by_cases hz : n = 0
  · have hki : ¬ (0 : Int) < n := by omega
    have HZ : Hid (n = 0) := hz; clear hz; go_wp2; go_ret2; have hj := HI.out.1; have hkk : k = bs.length := by have := HI.out.2.2.2.1; have := HI.out.2.2.2.2.1; have := HZ.out; omega
    have hAl := encK_ge (A.map CI.c); rw [HI.out.2.2.1, hkk, List.take_length] at hAl; have hb := HH.out.2; refine ⟨hj.bl, Or.inl ⟨A.map CI.c, .slice va L vc, HI.out.2.1, by rw [HI.out.2.2.1, hkk, List.take_length], rfl, ?_⟩⟩; exact row_chs83 (by have := hj.row; rw [← HL.out] at this ⊢; exact this) (fun f hf => ⟨(hj.it f hf).1.lower, (hj.it f hf).2.lower⟩) (fun b hb => hj.row.lt b hb) (by simp at hAl; omega)
  have hki : (0 : Int) < n := by omega
  obtain ⟨R, hR⟩ : ∃ R, R = nxC (bs.drop k) := ⟨_, rfl⟩
  have hbd : (bs.drop k).length = n := by rw [List.length_drop]; exact HI.out.2.2.2.2.1.symm
  have hkb := HH.out.1.drop k; obtain ⟨g, o, rfl⟩ : ∃ g o, a' = some ⟨g, o, none⟩ := by
   obtain ⟨g, o, h, _⟩ := HI.out.2.2.2.2.2.2.2.at (k := 0) (x := (bs.drop k)[0]'(by omega)) (List.getElem?_eq_getElem _); exact ⟨g, o, h⟩
  have hnc := HI.out.2.2.2.2.2.1; have hcm := HI.out.2.2.2.2.2.2.1; have hbv := HI.out.2.2.2.2.2.2.2; have hst := fun (h : nxC (bs.drop k) = none) => encK_stop HI.out.2.1.1 HI.out.2.2.1 (by have := HI.out.2.2.2.2.1; omega) h
  have hnb : n ≤ 1099511627776 := by have := HI.out.2.2.2.2.1; have := HH.out.2; omega
  generalize hbs : bs.drop k = rs at *; have HNO : Hid (nxC rs = none → ∀ l, okL l → encK l ≠ bs) := hst; have HRS : Hid (bs.drop k = rs) := hbs; clear hst hbs; have hR0 := hR; unfold nxC at hR; rw [hbd] at hR; have T1 : Hid True := trivial; have T2 : Hid True := trivial; by_cases g1 : n < 2
  · rw [if_pos g1] at hR
    have HR : Hid (nxC rs = none) := hR0.symm.trans hR; have gi : (n : Int) < 2 := by omega
    clear hR hR0 hbd hkb hbv; go_wp2; go_ret2; exact ⟨HI.out.1.bl, Or.inr ⟨HNO.out HR.out, rfl⟩⟩
  rw [if_neg g1] at hR; have gi : ¬ (n : Int) < 2 := by omega
  obtain ⟨s, hs⟩ : ∃ s, s = kNum (rs.take 2) := ⟨_, rfl⟩
  have hC2 : ∀ V : World, Below w.heap.size w V → Calls Tryz.prog 62 #[.slice (some ⟨g, o, none⟩) 2 c'] V fun e w' => e = .returned (.int .u32 (s : Int)) ∧ w' = V := fun V hV => by
   have h9 := (hbv.below hV).part 0 2 c' (by omega); rw [List.drop_zero, Nat.add_zero] at h9; have hl2 : (rs.take 2).length = 2 := by rw [List.length_take]; omega
   have := rread_any (a := some ⟨g, o, none⟩) (cap := c') (bs := rs.take 2) (by rw [hl2]; exact h9) (hkb.take 2) (by omega); rw [hl2, ← hs] at this; exact this
  have hsl2 : ∀ V : World, (Instr.slice 23 (.slice (some ⟨g, o, none⟩) n c') none (some (.int .i64 2)) none).run Tryz.prog V = .ok (.slice (some ⟨g, o, none⟩) 2 c') V := fun V => slH V g o n c' 2 2 rfl (by omega) (by omega)
  have hs64 : s < 65536 := by
   have := kNum_lt (rs.take 2) (hkb.take 2); rw [List.length_take, show min 2 rs.length = 2 from by omega] at this; omega
  rw [← hs] at hR; have HC2 : Hid _ := hC2; have hws : IntKind.i64.wrap (s : Int) = s := by rw [IntKind.wrap_i64]; omega
  have HB : Hid (BytesV w (.slice (some ⟨g, o, none⟩) n c') rs ∧ KByt rs ∧ rs.length = n) := ⟨hbv, hkb, hbd⟩
  clear hC2 hbv hkb; by_cases g2 : s < 1 ∨ 64 < s
  · rw [if_pos g2] at hR
    have HR : Hid (nxC rs = none) := hR0.symm.trans hR; by_cases g3 : s < 1
    · have gs : (s : Int) < 1 := by omega
      clear hR hR0 hbd g2 hs; go_wp2_with (first
       | (have _ := T1; go_at_call 62; clear T1; refine Calls.mono (HC2.out _ HI.out.1.bl) ?_; rintro e w1 ⟨rfl, hw1⟩; subst w1))
      go_ret2; exact ⟨HI.out.1.bl, Or.inr ⟨HNO.out HR.out, rfl⟩⟩
    · have gs : ¬ (s : Int) < 1 := by omega
      have gs2 : (64 : Int) < s := by omega
      clear hR hR0 hbd g2 hs; go_wp2_with (first
       | (have _ := T1; go_at_call 62; clear T1; refine Calls.mono (HC2.out _ HI.out.1.bl) ?_; rintro e w1 ⟨rfl, hw1⟩; subst w1))
      go_ret2; exact ⟨HI.out.1.bl, Or.inr ⟨HNO.out HR.out, rfl⟩⟩
  rw [if_neg g2] at hR; have gs : ¬ (s : Int) < 1 := by omega
  have gs2 : ¬ (64 : Int) < s := by omega
  by_cases g3 : n < 6 + s
  · rw [if_pos g3] at hR
    have HR : Hid (nxC rs = none) := hR0.symm.trans hR; have g3i : (n : Int) < 6 + s := by omega
    clear hR hR0 hbd g2 hs g3; go_wp2_with (first
     | (have _ := T1; go_at_call 62; clear T1; refine Calls.mono (HC2.out _ HI.out.1.bl) ?_; rintro e w1 ⟨rfl, hw1⟩; subst w1))
    go_ret2; exact ⟨HI.out.1.bl, Or.inr ⟨HNO.out HR.out, rfl⟩⟩
  rw [if_neg g3] at hR; have g3i : ¬ (n : Int) < 6 + s := by omega
  obtain ⟨t, ht⟩ : ∃ t, t = kNum ((rs.drop (2 + s)).take 4) := ⟨_, rfl⟩
  rw [← ht] at hR; have hl4 : ((rs.drop (2 + s)).take 4).length = 4 := by rw [List.length_take, List.length_drop]; omega
  have ht64 : t < 4294967296 := by
   have := kNum_lt ((rs.drop (2 + s)).take 4) ((HB.out.2.1.drop _).take 4); rw [hl4, ← ht] at this; omega
  have hC4 : ∀ V : World, Below w.heap.size w V → Calls Tryz.prog 62 #[.slice (some ⟨g, o + (2 + s), none⟩) 4 (c' - (2 + s))] V fun e w' => e = .returned (.int .u32 (t : Int)) ∧ w' = V := fun V hV => by
   have h9 := (HB.out.1.below hV).part (2 + s) 4 (c' - (2 + s)) (by omega); have := rread_any (a := some ⟨g, o + (2 + s), none⟩) (cap := c' - (2 + s)) (bs := (rs.drop (2 + s)).take 4) (by rw [hl4]; exact h9) ((HB.out.2.1.drop _).take 4) (by omega); rw [hl4, ← ht] at this; exact this
  have hslK : ∀ V : World, (Instr.slice 23 (.slice (some ⟨g, o, none⟩) n c') (some (.int .i64 2)) (some (.int .i64 (2 + (s : Int)))) none).run Tryz.prog V = .ok (.slice (some ⟨g, o + 2, none⟩) s (c' - 2)) V := fun V => by
   rw [slLH V g o n c' 2 (2 + s) 2 (2 + (s : Int)) rfl (by omega) (by omega) (by omega), if_neg (by omega), show 2 + s - 2 = s from by omega]
  have hsl4 : ∀ V : World, (Instr.slice 23 (.slice (some ⟨g, o, none⟩) n c') (some (.int .i64 (2 + (s : Int)))) (some (.int .i64 (6 + (s : Int)))) none).run Tryz.prog V = .ok (.slice (some ⟨g, o + (2 + s), none⟩) 4 (c' - (2 + s))) V := fun V => by
   rw [slLH V g o n c' (2 + s) (6 + s) (2 + (s : Int)) (6 + (s : Int)) (by omega) (by omega) (by omega) (by omega), if_neg (by omega), show 6 + s - (2 + s) = 4 from by omega]
  obtain ⟨r, hrn⟩ : ∃ r, r = n - (6 + s) := ⟨_, rfl⟩
  obtain ⟨q, hq⟩ : ∃ q, q = c' - (6 + s) := ⟨_, rfl⟩
  obtain ⟨o6, ho6⟩ : ∃ o6, o6 = (if c' = 6 + s then o else o + (6 + s)) := ⟨_, rfl⟩
  have hsl6 : ∀ V : World, (Instr.slice 23 (.slice (some ⟨g, o, none⟩) n c') (some (.int .i64 (6 + (s : Int)))) none none).run Tryz.prog V = .ok (.slice (some ⟨g, o6, none⟩) r q) V := fun V => by
   rw [slL2 V g o n c' (6 + s) (6 + (s : Int)) (by omega) (by omega), ← hrn, ← hq, ← ho6]
  have hb6 : BytesV w (.slice (some ⟨g, o6, none⟩) r q) (rs.drop (6 + s)) := by
   have h9 := BytesV.cutLH (w := w) (g := g) (o := o) (cap := c') (bs := rs) (by rw [hbd]; exact HB.out.1) (6 + s) r (by omega) (by omega); rw [← ho6, ← hq, List.take_of_length_le (by rw [List.length_drop]; omega)] at h9; exact h9
  have hkv : BytesV w (.slice (some ⟨g, o + 2, none⟩) s (c' - 2)) ((rs.drop 2).take s) := HB.out.1.part 2 s _ (by omega); obtain ⟨ky, hky⟩ : ∃ ky, ky = (rs.drop 2).take s := ⟨_, rfl⟩
  have hkl : ky.length = s := by rw [hky, List.length_take, List.length_drop]; omega
  rw [← hky] at hkv hR; have HKV : Hid (BytesV w (.slice (some ⟨g, o + 2, none⟩) s (c' - 2)) ky ∧ ky.length = s) := ⟨hkv, hkl⟩
  have HC4 : Hid _ := hC4; have HB6 : Hid (BytesV w (.slice (some ⟨g, o6, none⟩) r q) (rs.drop (6 + s)) ∧ r ≤ q ∧ q ≤ 9223372036854775807 ∧ r + (6 + s) = n) := ⟨hb6, by omega, by omega, by omega⟩
  have HE : Hid (n - (6 + s) = r) := hrn.symm; have hrb : r ≤ 1099511627776 := by omega
  have T3 : Hid True := trivial; have T4 : Hid True := trivial; have T5 : Hid True := trivial; have hs65 : s ≤ 64 := by omega
  clear hC4 hkv hkl hl4 hb6 g2 hs hrn hq ho6 hky; have H56 : Hid (A.length * 56 + 56 ≤ 140737488355328) := by
   have h1 := encK_ge (A.map CI.c); rw [HI.out.2.2.1] at h1; simp at h1; have := HH.out.2; show _ ≤ _; omega
  by_cases g4 : t = 4294967295
  · rw [if_pos g4] at hR
    have HR : Hid (nxC rs = some (⟨ky, [], true⟩, 6 + s)) := hR0.symm.trans hR; have g4i : ((t : Int) == 4294967295) = true := by rw [g4]; rfl
    clear hR hR0 hbd g3 ht g4; go_wp2_with (first
     | (have _ := T1; go_at_call 62; clear T1; refine Calls.mono (HC2.out _ HI.out.1.bl) ?_; rintro e w1 ⟨rfl, hw1⟩; subst w1)
     | (have _ := T2
        at_builtin
        clear T2; refine wpList_append_b rfl _ _ rfl wr.heap.size (.slice (some ⟨wr.heap.size, 0, none⟩) 0 0) (.slice (some ⟨g, o + 2, none⟩) s (c' - 2)) [] ky rfl (own0 wr) rfl ((HKV.out.1.below HI.out.1.bl).below (by go_grown)) (by have := HKV.out.2; simp; omega) (by simp) ?_; intro vk V2 ho hg ha; rw [List.nil_append] at ho; obtain ⟨ak, ck, rfl⟩ := row_form ho; rw [HKV.out.2] at ho ⊢; have H2 : Hid (V2.ownsRow wr.heap.size 5 1 (.slice ak s ck) s (vB ky) ∧ Below wr.heap.size wr V2) := ⟨ho, ((Below.refl _ wr).alloc (Nat.le_refl _) _).grown hg (by simp) (fun j hj => by have h9 : wr.heap.size = j := (by simpa [Value.ownBlock] using hj); omega)⟩
        clear ho hg ha)
     | (have _ := T3
        go_at_call 62
        clear T3; have hb4 : Below wr.heap.size wr (V2.alloc (.cells #[.slice ak s ck, .slice none 0 0, .bool false] 83)) := H2.out.2.alloc H2.out.2.size _; refine Calls.mono (HC4.out _ (HI.out.1.bl.trans (hb4.mono HI.out.1.bl.size))) ?_; rintro e w1 ⟨rfl, hw1⟩; obtain ⟨P, hP⟩ : ∃ P, P = V2.heap.size := ⟨_, rfl⟩
        rw [← hP]; have hP4 : w1.heap[P]? = some (.cells #[.slice ak s ck, .slice none 0 0, .bool false] 83) := by rw [hw1, hP]; exact heap_alloc_new _ _
        have H4 : Hid (w1.heap[P]? = some (.cells #[.slice ak s ck, .slice none 0 0, .bool false] 83) ∧ Below wr.heap.size wr w1 ∧ KBD w1 (fun x => wr.heap.size ≤ x ∧ x ≠ P) (.slice ak s ck) ky ∧ wr.heap.size ≤ P) := ⟨hP4, by rw [hw1]; exact hb4, ⟨by rw [hw1]; exact BytesV.of_own (World.ownsRow.alloc (by rw [HKV.out.2]; exact H2.out.1) _), fun x hx => (by have h1 := World.ownsRow.lt H2.out.1 x (dBlock_own hx); exact ⟨h1.1, by omega⟩), by have := HKV.out.2; omega⟩, by rw [hP]; exact H2.out.2.size⟩
        have c4 : w1.cell? ⟨P, 2, none⟩ = some (.bool false) := by rw [cell_of_block hP4]; rfl
        have f4 : w1.frozen? ⟨P, 2, none⟩ = false := unfrozen_of_block hP4 2; have c40 : w1.cell? ⟨P, 0, none⟩ = some (.slice ak s ck) := by rw [cell_of_block hP4]; rfl
        have c41 : w1.cell? ⟨P, 1, none⟩ = some (.slice none 0 0) := by rw [cell_of_block hP4]; rfl
        clear hb4 hw1 hP hP4 H2)
     | (have _ := T4
        at_builtin
        clear T4; have hb6 : Below wr.heap.size wr ((w1.setCell ⟨P, 2, none⟩ (.bool true)).alloc (.cells #[.slice ak s ck, .slice none 0 0, .bool true] 83)) := (H4.out.2.1.setCell (p := ⟨P, 2, none⟩) H4.out.2.2.2 _).alloc (by have := H4.out.2.1.size; simpa using this) _; have hj6 := HI.out.1.below hb6; have hK6 : KBD ((w1.setCell ⟨P, 2, none⟩ (.bool true)).alloc (.cells #[.slice ak s ck, .slice none 0 0, .bool true] 83)) (fun x => wr.heap.size ≤ x) (.slice ak s ck) ky := by
         refine ⟨(H4.out.2.2.1.is.keep fun x hx => ?_), H4.out.2.2.1.low, H4.out.2.2.1.len⟩; rw [heap_alloc_old _ _ _ (by have := H4.out.2.2.1.is.lt x hx; simpa using this)]; exact Below.heap_setCell _ _ _ _ (H4.out.2.2.1.d x hx).2
        refine wpList_append_r rfl _ _ rfl w.heap.size (.slice va L vc) A ⟨⟨ky, [], true⟩, .slice ak s ck, .slice none 0 0⟩ ⟨_, _, _, rfl⟩ ⟨_, _, _, rfl⟩ rfl hj6.row w1.heap.size rfl (by have := heap_alloc_new (w1.setCell ⟨P, 2, none⟩ (.bool true)) (.cells #[.slice ak s ck, .slice none 0 0, .bool true] 83); simpa using this) (by have := H56.out; omega) (by have := hj6.bl.size; exact this) ?_; intro v' V7 ho hg ha; have H7 : Hid (RuJ w V7 v' (A ++ [⟨⟨ky, [], true⟩, .slice ak s ck, .slice none 0 0⟩])) := RuJ.add hj6 HI.out.1 hb6.size ho hg ha hK6 ⟨Or.inl ⟨rfl, rfl⟩, fun b hb => (by cases hb), by simp⟩; clear hb6 hj6 hK6 ho hg ha))
    go_roundw
    case rel =>
     have hn := ru_next (f := ⟨⟨ky, [], true⟩, .slice ak s ck, .slice none 0 0⟩) HI.out.2.1 HI.out.2.2.1 HI.out.2.2.2.1 HRS.out HB.out.2.1 HR.out; exact ⟨k + (6 + s), _, _, _, _, _, rfl, rfl, H7.out, hn.1, hn.2.1, hn.2.2.1, by have := HB6.out.2.2.2; have := HI.out.2.2.2.2.1; omega, HB6.out.2.1, HB6.out.2.2.1, by rw [hn.2.2.2]; exact HB6.out.1⟩
    case measure => simp [slenV]; have := HB6.out.2.2.2; omega
  rw [if_neg g4] at hR; have g4i : ((t : Int) == 4294967295) = false := by simp; omega
  have hw5 : IntKind.u64.wrap (r : Int) = r := by rw [IntKind.wrap_u64]; omega
  have hwt : IntKind.u64.wrap (t : Int) = t := by rw [IntKind.wrap_u64]; omega
  rw [HE.out] at hR; by_cases g5 : r < t
  · rw [if_pos g5] at hR
    have HR : Hid (nxC rs = none) := hR0.symm.trans hR; have g5i : (r : Int) < t := by omega
    clear hR hR0 hbd g3 ht g4 g5; go_wp2_with (first
     | (have _ := T1; go_at_call 62; clear T1; refine Calls.mono (HC2.out _ HI.out.1.bl) ?_; rintro e w1 ⟨rfl, hw1⟩; subst w1)
     | (have _ := T2
        at_builtin
        clear T2; refine wpList_append_b rfl _ _ rfl wr.heap.size (.slice (some ⟨wr.heap.size, 0, none⟩) 0 0) (.slice (some ⟨g, o + 2, none⟩) s (c' - 2)) [] ky rfl (own0 wr) rfl ((HKV.out.1.below HI.out.1.bl).below (by go_grown)) (by have := HKV.out.2; simp; omega) (by simp) ?_; intro vk V2 ho hg ha; rw [List.nil_append] at ho; obtain ⟨ak, ck, rfl⟩ := row_form ho; rw [HKV.out.2] at ho ⊢; have H2 : Hid (V2.ownsRow wr.heap.size 5 1 (.slice ak s ck) s (vB ky) ∧ Below wr.heap.size wr V2) := ⟨ho, ((Below.refl _ wr).alloc (Nat.le_refl _) _).grown hg (by simp) (fun j hj => by have h9 : wr.heap.size = j := (by simpa [Value.ownBlock] using hj); omega)⟩
        clear ho hg ha)
     | (have _ := T3
        go_at_call 62
        clear T3; have hb4 : Below wr.heap.size wr (V2.alloc (.cells #[.slice ak s ck, .slice none 0 0, .bool false] 83)) := H2.out.2.alloc H2.out.2.size _; refine Calls.mono (HC4.out _ (HI.out.1.bl.trans (hb4.mono HI.out.1.bl.size))) ?_; rintro e w1 ⟨rfl, hw1⟩; obtain ⟨P, hP⟩ : ∃ P, P = V2.heap.size := ⟨_, rfl⟩
        rw [← hP]; have hP4 : w1.heap[P]? = some (.cells #[.slice ak s ck, .slice none 0 0, .bool false] 83) := by rw [hw1, hP]; exact heap_alloc_new _ _
        have H4 : Hid (w1.heap[P]? = some (.cells #[.slice ak s ck, .slice none 0 0, .bool false] 83) ∧ Below wr.heap.size wr w1 ∧ KBD w1 (fun x => wr.heap.size ≤ x ∧ x ≠ P) (.slice ak s ck) ky ∧ wr.heap.size ≤ P) := ⟨hP4, by rw [hw1]; exact hb4, ⟨by rw [hw1]; exact BytesV.of_own (World.ownsRow.alloc (by rw [HKV.out.2]; exact H2.out.1) _), fun x hx => (by have h1 := World.ownsRow.lt H2.out.1 x (dBlock_own hx); exact ⟨h1.1, by omega⟩), by have := HKV.out.2; omega⟩, by rw [hP]; exact H2.out.2.size⟩
        clear hb4 hw1 hP hP4 H2))
    go_ret2; exact ⟨HI.out.1.bl.trans (H4.out.2.1.mono HI.out.1.bl.size), Or.inr ⟨HNO.out HR.out, rfl⟩⟩
  rw [if_neg g5] at hR; have g5i : ¬ (r : Int) < t := by omega
  obtain ⟨vy, hvy⟩ : ∃ vy, vy = (rs.drop (6 + s)).take t := ⟨_, rfl⟩
  rw [← hvy] at hR; have HR : Hid (nxC rs = some (⟨ky, vy, false⟩, 6 + s + t)) := hR0.symm.trans hR; have hrl : (rs.drop (6 + s)).length = r := by rw [List.length_drop]; have := HB6.out.2.2.2; have := HB.out.2.2; omega
  have hvl : vy.length = t := by rw [hvy, List.length_take]; omega
  have hslV : ∀ V : World, (Instr.slice 23 (.slice (some ⟨g, o6, none⟩) r q) none (some (.int .u32 (t : Int))) none).run Tryz.prog V = .ok (.slice (some ⟨g, o6, none⟩) t q) V := fun V => slHu V g o6 r q t (by have := HB6.out.2.1; omega)
  obtain ⟨o7, ho7⟩ : ∃ o7, o7 = (if q = t then o6 else o6 + t) := ⟨_, rfl⟩
  have hsl7 : ∀ V : World, (Instr.slice 23 (.slice (some ⟨g, o6, none⟩) r q) (some (.int .u32 (t : Int))) none none).run Tryz.prog V = .ok (.slice (some ⟨g, o7, none⟩) (r - t) (q - t)) V := fun V => by
   rw [slLu V g o6 r q t (by omega), ← ho7]
  have hb7 : BytesV w (.slice (some ⟨g, o7, none⟩) (r - t) (q - t)) ((rs.drop (6 + s)).drop t) := by
   have h9 := BytesV.cutLH (w := w) (g := g) (o := o6) (cap := q) (bs := rs.drop (6 + s)) (by rw [hrl]; exact HB6.out.1) t (r - t) (by omega) (by have := HB6.out.2.1; omega); rw [← ho7, List.take_of_length_le (by rw [List.length_drop]; omega)] at h9; exact h9
  have hvv : BytesV w (.slice (some ⟨g, o6, none⟩) t q) vy := by
   have h9 := HB6.out.1.part 0 t q (by omega); rw [List.drop_zero, Nat.add_zero, ← hvy] at h9; exact h9
  have HV : Hid (BytesV w (.slice (some ⟨g, o6, none⟩) t q) vy ∧ vy.length = t ∧ t ≤ r) := ⟨hvv, hvl, by omega⟩
  have HB7 : Hid (BytesV w (.slice (some ⟨g, o7, none⟩) (r - t) (q - t)) ((rs.drop (6 + s)).drop t)) := hb7; clear hR hR0 hbd g3 ht g4 g5 hvy hrl hvl hb7 hvv ho7; go_wp2_with (first
   | (have _ := T1; go_at_call 62; clear T1; refine Calls.mono (HC2.out _ HI.out.1.bl) ?_; rintro e w1 ⟨rfl, hw1⟩; subst w1)
   | (have _ := T2
      at_builtin
      clear T2; refine wpList_append_b rfl _ _ rfl wr.heap.size (.slice (some ⟨wr.heap.size, 0, none⟩) 0 0) (.slice (some ⟨g, o + 2, none⟩) s (c' - 2)) [] ky rfl (own0 wr) rfl ((HKV.out.1.below HI.out.1.bl).below (by go_grown)) (by have := HKV.out.2; simp; omega) (by simp) ?_; intro vk V2 ho hg ha; rw [List.nil_append] at ho; obtain ⟨ak, ck, rfl⟩ := row_form ho; rw [HKV.out.2] at ho ⊢; have H2 : Hid (V2.ownsRow wr.heap.size 5 1 (.slice ak s ck) s (vB ky) ∧ Below wr.heap.size wr V2) := ⟨ho, ((Below.refl _ wr).alloc (Nat.le_refl _) _).grown hg (by simp) (fun j hj => by have h9 : wr.heap.size = j := (by simpa [Value.ownBlock] using hj); omega)⟩
      clear ho hg ha)
   | (have _ := T3
      go_at_call 62
      clear T3; have hb4 : Below wr.heap.size wr (V2.alloc (.cells #[.slice ak s ck, .slice none 0 0, .bool false] 83)) := H2.out.2.alloc H2.out.2.size _; refine Calls.mono (HC4.out _ (HI.out.1.bl.trans (hb4.mono HI.out.1.bl.size))) ?_; rintro e w1 ⟨rfl, hw1⟩; obtain ⟨P, hP⟩ : ∃ P, P = V2.heap.size := ⟨_, rfl⟩
      rw [← hP]; have hP4 : w1.heap[P]? = some (.cells #[.slice ak s ck, .slice none 0 0, .bool false] 83) := by rw [hw1, hP]; exact heap_alloc_new _ _
      have H4 : Hid (w1.heap[P]? = some (.cells #[.slice ak s ck, .slice none 0 0, .bool false] 83) ∧ Below wr.heap.size wr w1 ∧ KBD w1 (fun x => wr.heap.size ≤ x ∧ x ≠ P) (.slice ak s ck) ky ∧ wr.heap.size ≤ P) := ⟨hP4, by rw [hw1]; exact hb4, ⟨by rw [hw1]; exact BytesV.of_own (World.ownsRow.alloc (by rw [HKV.out.2]; exact H2.out.1) _), fun x hx => (by have h1 := World.ownsRow.lt H2.out.1 x (dBlock_own hx); exact ⟨h1.1, by omega⟩), by have := HKV.out.2; omega⟩, by rw [hP]; exact H2.out.2.size⟩
      clear hb4 hw1 hP hP4 H2)
   | (have _ := T4
      at_builtin
      clear T4; refine wpList_append_b rfl _ _ rfl w1.heap.size (.slice (some ⟨w1.heap.size, 0, none⟩) 0 0) (.slice (some ⟨g, o6, none⟩) t q) [] vy rfl (own0 w1) rfl (((HV.out.1.below HI.out.1.bl).keep (fun x hx => H4.out.2.1.block x (BytesV.lt (HV.out.1.below HI.out.1.bl) x hx))).below (by go_grown)) (by have := HV.out.2; simp; omega) (by simp) ?_; intro vv V5 ho hg ha; rw [List.nil_append] at ho; obtain ⟨av, cv, rfl⟩ := row_form ho; rw [HV.out.2.1] at ho ⊢; have hb5 : Below w1.heap.size w1 V5 := ((Below.refl _ w1).alloc (Nat.le_refl _) _).grown hg (by simp) (fun j hj => by have h9 : w1.heap.size = j := (by simpa [Value.ownBlock] using hj); omega); have hP5 := (hb5.block P (heap_lt H4.out.1)).trans H4.out.1; have H5 : Hid (V5.heap[P]? = some (.cells #[.slice ak s ck, .slice none 0 0, .bool false] 83) ∧ Below wr.heap.size wr V5 ∧ KBD V5 (fun x => wr.heap.size ≤ x ∧ x ≠ P) (.slice ak s ck) ky ∧ KBD V5 (fun x => wr.heap.size ≤ x ∧ x ≠ P) (.slice av t cv) vy) := ⟨hP5, H4.out.2.1.trans (hb5.mono H4.out.2.1.size), ⟨H4.out.2.2.1.is.keep fun x hx => hb5.block x (H4.out.2.2.1.is.lt x hx), H4.out.2.2.1.d, H4.out.2.2.1.len⟩, ⟨BytesV.of_own (by rw [HV.out.2.1]; exact ho), fun x hx => (by have h1 := (World.ownsRow.lt ho x (dBlock_own hx)).1; have := heap_lt H4.out.1; have := H4.out.2.1.size; exact ⟨by omega, by omega⟩), by have := HV.out.2; omega⟩⟩
      have c5 : V5.cell? ⟨P, 1, none⟩ = some (.slice none 0 0) := by rw [cell_of_block hP5]; rfl
      have f5 : V5.frozen? ⟨P, 1, none⟩ = false := unfrozen_of_block hP5 1; have c50 : V5.cell? ⟨P, 0, none⟩ = some (.slice ak s ck) := by rw [cell_of_block hP5]; rfl
      have c52 : V5.cell? ⟨P, 2, none⟩ = some (.bool false) := by rw [cell_of_block hP5]; rfl
      clear ho hg ha hb5 hP5)
   | (have _ := T5
      at_builtin
      clear T5; have hb6 : Below wr.heap.size wr ((V5.setCell ⟨P, 1, none⟩ (.slice av t cv)).alloc (.cells #[.slice ak s ck, .slice av t cv, .bool false] 83)) := (H5.out.2.1.setCell (p := ⟨P, 1, none⟩) H4.out.2.2.2 _).alloc (by have := H5.out.2.1.size; simpa using this) _; have hj6 := HI.out.1.below hb6; have hK6 : ∀ {u : Value} {xs : List Int}, KBD V5 (fun x => wr.heap.size ≤ x ∧ x ≠ P) u xs → KBD ((V5.setCell ⟨P, 1, none⟩ (.slice av t cv)).alloc (.cells #[.slice ak s ck, .slice av t cv, .bool false] 83)) (fun x => wr.heap.size ≤ x) u xs := fun h => by
       refine ⟨(h.is.keep fun x hx => ?_), h.low, h.len⟩; rw [heap_alloc_old _ _ _ (by have := h.is.lt x hx; simpa using this)]; exact Below.heap_setCell _ _ _ _ (h.d x hx).2
      refine wpList_append_r rfl _ _ rfl w.heap.size (.slice va L vc) A ⟨⟨ky, vy, false⟩, .slice ak s ck, .slice av t cv⟩ ⟨_, _, _, rfl⟩ ⟨_, _, _, rfl⟩ rfl hj6.row V5.heap.size rfl (by have := heap_alloc_new (V5.setCell ⟨P, 1, none⟩ (.slice av t cv)) (.cells #[.slice ak s ck, .slice av t cv, .bool false] 83); simpa using this) (by have := H56.out; omega) (by have := hj6.bl.size; exact this) ?_; intro v' V7 ho hg ha; have H7 : Hid (RuJ w V7 v' (A ++ [⟨⟨ky, vy, false⟩, .slice ak s ck, .slice av t cv⟩])) := RuJ.add hj6 HI.out.1 hb6.size ho hg ha (hK6 H5.out.2.2.1) (hK6 H5.out.2.2.2); clear hb6 hj6 hK6 ho hg ha))
  go_roundw
  case rel =>
   have hn := ru_next (f := ⟨⟨ky, vy, false⟩, .slice ak s ck, .slice av t cv⟩) HI.out.2.1 HI.out.2.2.1 HI.out.2.2.2.1 HRS.out HB.out.2.1 HR.out; exact ⟨k + (6 + s + t), _, _, _, _, _, rfl, rfl, H7.out, hn.1, hn.2.1, hn.2.2.1, by have := HB6.out.2.2.2; have := HI.out.2.2.2.2.1; have := HV.out.2.2; omega, by have := HB6.out.2.1; omega, by have := HB6.out.2.2.1; omega, by rw [hn.2.2.2, ← List.drop_drop]; exact HB7.out⟩
  case measure => simp [slenV]; have := HB6.out.2.2.2; have := HV.out.2.2; omega
end Go.Proofs.YtconkienlcegaaaGreatDoor
