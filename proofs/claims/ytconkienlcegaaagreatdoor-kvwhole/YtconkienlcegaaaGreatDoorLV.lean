/- kv: sound, of a record whose first byte is 0 or 1. -/
import Derived.Test.YtconkienlcegaaaGreatDoorGLU
namespace Go.Proofs.YtconkienlcegaaaGreatDoor
open Go.RowKit Go.Maps Go.Joins Go.Shelf
set_option linter.unusedSimpArgs false
set_option linter.unusedVariables false
/-- What has been seen is right so far. -/
def SoK (t : Int) (l0 : List Ch) (lb : List Int) : Prop := t = 1 → snapOk [] l0 = true ∧ kS lb = lastK [] l0
/-- .. and what lies in memory. -/
def SoR (w : World) (r : Loop) (rec : Value) (bs : List Int) (t : Int) (k : Nat) (W : World) : Prop := ∃ l0 lv lb, k = (encK l0).length ∧ SoI w W r rec lv lb ∧ okM l0 ∧ encK l0 = bs.take k ∧ SoK t l0 lb
attribute [local go_sem] Oper.semAt_some
set_option maxRecDepth 100000 in
set_option maxHeartbeats 16000000 in
theorem sound_low {w : World} {g o cap : Nat} {t : Int} {bs : List Int} (ht : t = 0 ∨ t = 1) (hr : BytesV w (.slice (some ⟨g, o, none⟩) (bs.length + 1) cap) (t :: bs)) (hkb : KByt bs) (hc : bs.length + 1 ≤ cap) (hm : cap ≤ 9223372036854775807) (hlen : bs.length + 1 ≤ 140737488355328) :
 Calls Tryz.prog 44 #[.slice (some ⟨g, o, none⟩) (bs.length + 1) cap] w fun e w' => e = .returned (.bool (chK (t :: bs)).isSome) ∧ Below w.heap.size w w' := by
 have HH : Hid (BytesV w (.slice (some ⟨g, o, none⟩) (bs.length + 1) cap) (t :: bs) ∧ KByt bs) := ⟨hr, hkb⟩
 obtain ⟨N, hN⟩ : ∃ N, N = bs.length := ⟨_, rfl⟩
 rw [← hN] at hc hlen ⊢; have HN : Hid (N = bs.length) := hN; obtain ⟨R, hR⟩ : ∃ R, R = (chK (t :: bs)).isSome := ⟨_, rfl⟩
 rw [← hR]; have HR : Hid (R = (chK (t :: bs)).isSome) := hR; have c0 : w.cell? ⟨g, o, none⟩ = some (.int .u8 t) := by
  have := hr.at (k := 0) (x := t) rfl; obtain ⟨g', o', e, hc'⟩ := this; injection e with e
  injection e with e1 e2
  rw [← e1, ← e2] at hc'
  simpa using hc'
 have hgl : g < w.heap.size := heap_ltc c0; have HG : Hid (w.cell? ⟨g, o, none⟩ = some (.int .u8 t) ∧ g < w.heap.size) := ⟨c0, hgl⟩
 have ht1 : ¬ (1 < t) := by omega
 clear hr hkb hN hR; refine (callsIn_wide (n := 4)).1 ?_; refine callsIn_of_wp_marks Tryz.func44 rfl trivial ?_ rfl; simp only [Tryz.ntmps44, List.size_toArray, List.length_cons, List.length_nil, Nat.reduceAdd, Nat.reduceSub, Array.replicate_succ, Array.replicate_zero, List.push_toArray, List.append_toArray, List.nil_append, List.cons_append]; refine wpIn_wide.2 ?_; obtain ⟨o1, ho1⟩ : ∃ o1, o1 = if cap = 1 then o else o + 1 := ⟨_, rfl⟩
 have hsl := fun w' => slL2 w' g o (N + 1) cap 1 1 rfl (by omega)
 rw [← ho1, Nat.add_sub_cancel] at hsl; have hrb : BytesV w (.slice (some ⟨g, o1, none⟩) N (cap - 1)) bs := by
  have h1 := HH.out.1; rw [← HN.out] at h1; have h2 := BytesV.cutLH (bs := t :: bs) (i := 1) (l := N) (by rw [List.length_cons, ← HN.out]; exact h1) (by rw [List.length_cons, ← HN.out]; omega) (by rw [List.length_cons, ← HN.out]; omega); rw [← ho1] at h2
  simpa [HN.out] using h2
 have HRB : Hid (BytesV w (.slice (some ⟨g, o1, none⟩) N (cap - 1)) bs) := hrb; clear ho1 hrb; have T1 : Hid True := trivial; have HT : Hid (t = 0 ∨ t = 1) := ht; clear ht; go_wp2_with (first
  | (have _ := T1
     go_at_call 61
     clear T1; refine Calls.mono (changes_any _ _ _) ?_; rintro e w1 ⟨rfl, rfl⟩))
 refine (wpIn_wide (n := 4)).1 ?_; refine range_leave (gf := 97) (lb := #[.pointer (some ⟨w.heap.size + 3, 0, none⟩)]) rfl (enters_of Tryz.func97 (by kernel_rfl) rfl) ?_; intro r W1 hst hpe htm hpar has' hbod hW1; have hW : W1 = [Obj.cells #[.slice (some ⟨g, o, none⟩) (N + 1) cap] 23, .cells #[.bool false] 4, .cells #[.slice none 0 0] 23, .cells #[.slice (some ⟨g, o1, none⟩) N (cap - 1)] 23, .deferred (some []), .loop r].foldl World.alloc w := by rw [hW1]; rfl
 have hsz : ((((w.alloc (.cells #[.slice (some ⟨g, o, none⟩) (N + 1) cap] 23)).alloc (.cells #[.bool false] 4)).alloc (.cells #[.slice none 0 0] 23)).alloc (.cells #[.slice (some ⟨g, o1, none⟩) N (cap - 1)] 23)).heap.size = w.heap.size + 4 := by simp
 rw [hsz]; have hh := fun k ob hk => allocs_heap [Obj.cells #[.slice (some ⟨g, o, none⟩) (N + 1) cap] 23, .cells #[.bool false] 4, .cells #[.slice none 0 0] 23, .cells #[.slice (some ⟨g, o1, none⟩) N (cap - 1)] 23, .deferred (some []), .loop r] w k ob hk
 have hbl := allocs_below [Obj.cells #[.slice (some ⟨g, o, none⟩) (N + 1) cap] 23, .cells #[.bool false] 4, .cells #[.slice none 0 0] 23, .cells #[.slice (some ⟨g, o1, none⟩) N (cap - 1)] 23, .deferred (some []), .loop r] w; have hsz4 := allocs_size [Obj.cells #[.slice (some ⟨g, o, none⟩) (N + 1) cap] 23, .cells #[.bool false] 4, .cells #[.slice none 0 0] 23, .cells #[.slice (some ⟨g, o1, none⟩) N (cap - 1)] 23, .deferred (some []), .loop r] w; rw [← hW] at hh hbl hsz4; have h0 : SoI w W1 r (.slice (some ⟨g, o, none⟩) (N + 1) cap) (.slice none 0 0) [] := ⟨hh 0 _ rfl, hh 1 _ rfl, hh 2 _ rfl, hh 4 _ rfl, hh 5 _ rfl, Or.inl ⟨rfl, rfl⟩, hbl, by rw [hsz4]; simp⟩
 have hXc : W1.cell? ⟨w.heap.size + 3, 0, none⟩ = some (.slice (some ⟨g, o1, none⟩) N (cap - 1)) := (cell_of_block (hh 3 _ rfl) 0).trans rfl; clear hW hW1 hh hbl hsz hsz4 hsl c0 hgl; rw [HN.out] at hXc; refine CallsIn.mono (changes1_in 2 (w.heap.size + 5) (w.heap.size + 3) (some ⟨g, o1, none⟩) (cap - 1) bs W1 (fun k W => SoR w r (.slice (some ⟨g, o, none⟩) (N + 1) cap) bs t k W) (fun W => SoX w W r ∧ R = false) hXc (by have := HN.out; omega) (by omega) (by have := HN.out; omega) HH.out.2 ⟨[], _, [], rfl, h0, ⟨fun c hc => (by cases hc), fun c hc => (by cases hc)⟩, rfl, fun _ => ⟨rfl, rfl⟩⟩ (fun k W h => by obtain ⟨l0, lv, lb, _, hj, _⟩ := h; rw [← HN.out]; exact HRB.out.keep fun x hx => hj.bl.block x (HRB.out.lt x hx)) ?hY) ?hE
 case hY =>
  rintro k W W2 hk ⟨l0, lv, lb, hkl, hj, hok, hen, hso⟩ hb2; have hj2 := hj.below hb2; cases hnx : nxC (bs.drop k) with
  | none =>
    show YieldAt Fence.wide 2 Tryz.prog (w.heap.size + 5) #[.agg #[.slice none 0 0, .slice none 0 0, .bool false], .int .i64 34] W2 _; refine YieldAt.mono (round_leave (R := fun _ => False) (J := fun q W' => q = .ret ∧ SoX w W' r ∧ R = false) hj2.b4 hst hpe (by rw [hpar]; rfl) ?_) ?_; rotate_left
    · rintro e W' (⟨rfl, h⟩ | ⟨q, rfl, rfl, h⟩)
      · exact h.elim
      · exact ⟨⟨_, rfl⟩, h⟩
    intro rb hrb; have HR2 : Hid (r.params = _ ∧ r.assign = _ ∧ r.body = _ ∧ r.tmps = _) := ⟨hpar, has', hbod, htm⟩
    rw [hpar, has', hbod, htm]; clear hpar has' hbod htm hst hpe hrb h0 hXc; simp only [List.zip_toArray, List.zip_cons_cons, List.zip_nil_right, List.foldl_toArray, List.foldl_cons, List.foldl_nil, List.setIfInBounds_toArray, List.set_cons_zero, List.set_cons_succ]; have HS : Hid (R = false) := by
     show R = false; rw [HR.out, chK_rot HH.out.2 (encK_stop hok.1 hen hk hnx)]; rfl
    have hba : Below W2.heap.size W2 (W2.alloc (.cells #[.slice none 0 0, .slice none 0 0, .bool false] 90)) := by go_grown
    have hj3 := hj2.below hba; have HJ3 : Hid (SoI w (W2.alloc (.cells #[.slice none 0 0, .slice none 0 0, .bool false] 90)) r (.slice (some ⟨g, o, none⟩) (N + 1) cap) lv lb) := hj3; have HX : Hid (SoI w ((W2.alloc (.cells #[.slice none 0 0, .slice none 0 0, .bool false] 90)).putObj (w.heap.size + 5) (.loop rb)) rb (.slice (some ⟨g, o, none⟩) (N + 1) cap) lv lb) := hj3.put rb; clear hj hj2 hj3 hb2 hba hnx hk hok hen hkl hso; gi_wp2; refine ⟨HJ3.out.b4, ?_⟩; generalize (W2.alloc (.cells #[.slice none 0 0, .slice none 0 0, .bool false] 90)).putObj (w.heap.size + 5) (.loop rb) = V at HX ⊢; have e1 : V.cell? ⟨w.heap.size + 1, 0, none⟩ = some (.bool false) := (cell_of_block HX.out.b1 0).trans rfl; have f1 : V.frozen? ⟨w.heap.size + 1, 0, none⟩ = false := unfrozen_of_block HX.out.b1 0; gi_wp2; have h9 := (HX.out.rots r).2; rw [HR2.out.1, HR2.out.2.1, HR2.out.2.2.1, HR2.out.2.2.2] at h9; exact ⟨(HX.out.rots r).1, rfl, h9, HS.out⟩
  | some q =>
    obtain ⟨c, n⟩ := q; have hno := nxC_ok (HH.out.2.drop k) hnx; intro vk vv hvk hvv; refine YieldAt.mono (round_leave (R := fun W' => SoR w r (.slice (some ⟨g, o, none⟩) (N + 1) cap) bs t (k + n) W') (J := fun q W' => q = .ret ∧ SoX w W' r ∧ R = false) hj2.b4 hst hpe (by rw [hpar]; rfl) ?_) ?_; rotate_left
    · rintro e W' (⟨rfl, h⟩ | ⟨q, rfl, rfl, h⟩)
      · exact Or.inl ⟨rfl, h⟩
      · exact Or.inr ⟨rfl, h⟩
    intro rb hrb; have HR2 : Hid (r.params = _ ∧ r.assign = _ ∧ r.body = _ ∧ r.tmps = _) := ⟨hpar, has', hbod, htm⟩
    rw [hpar, has', hbod, htm]; clear hpar has' hbod htm hst hpe hrb h0 hXc; simp only [List.zip_toArray, List.zip_cons_cons, List.zip_nil_right, List.foldl_toArray, List.foldl_cons, List.foldl_nil, List.setIfInBounds_toArray, List.set_cons_zero, List.set_cons_succ]; have hvk2 : BytesV W2 vk c.key := hvk.keep fun x hx => hb2.block x (hvk.lt x hx)
    have hvv2 : BytesV W2 vv c.val := hvv.keep fun x hx => hb2.block x (hvv.lt x hx)
    obtain ⟨ak, ck, rfl⟩ := hvk2.form'; obtain ⟨av, cv, rfl⟩ := hvv2.form'; obtain ⟨la, lc, hlv⟩ := hj.lk.form'; subst hlv; obtain ⟨nk, hnk⟩ : ∃ nk, nk = c.key.length := ⟨_, rfl⟩
    obtain ⟨nv, hnv⟩ : ∃ nv, nv = c.val.length := ⟨_, rfl⟩
    obtain ⟨cg, hcg⟩ : ∃ cg, cg = c.gone := ⟨_, rfl⟩
    obtain ⟨nl, hnl⟩ : ∃ nl, nl = lb.length := ⟨_, rfl⟩
    rw [← hnk] at hvk2; rw [← hnv] at hvv2; rw [← hnl] at hj2; have hn1 : n ≤ bs.length - k := by have := hno.2.1; rw [List.length_drop] at this; exact this
    have hok1 : okM (l0 ++ [c]) := ⟨fun x hx => by
     rcases List.mem_append.1 hx with h | h
     · exact hok.1 x h
     · obtain rfl := List.mem_singleton.1 h
       exact ⟨hno.2.2.2.1, hno.2.2.2.2.2.2.2, hno.2.2.2.2.1⟩, fun x hx => by
     rcases List.mem_append.1 hx with h | h
     · exact hok.2 x h
     · obtain rfl := List.mem_singleton.1 h
       exact ⟨hno.2.2.2.2.2.1, hno.2.2.2.2.2.2.1⟩⟩
    have hen1 : encK (l0 ++ [c]) = bs.take (k + n) := by
     rw [encK_append, hen, show encK [c] = encC c from by simp [encK], ← hno.1, List.take_add]
    have hkn : k + n = (encK (l0 ++ [c])).length := by rw [hen1, List.length_take]; omega
    have hbad : t = 1 → snapOk [] (l0 ++ [c]) = false → R = false := fun h1 h2 => by
     rw [HR.out, h1, chK_bad HH.out.2 hok.1 hen hnx h2]; rfl
    have hsn : ∀ h1 : t = 1, snapOk [] (l0 ++ [c]) = (!cg && bytesBefore (kS lb) (kS c.key)) := fun h1 => by
     rw [snap_app, (hso h1).1, (hso h1).2, hcg]; simp [snapOk]
    have HC : Hid (k + n = (encK (l0 ++ [c])).length ∧ okM (l0 ++ [c]) ∧ encK (l0 ++ [c]) = bs.take (k + n) ∧ (t = 1 → snapOk [] (l0 ++ [c]) = false → R = false) ∧ (∀ h1 : t = 1, snapOk [] (l0 ++ [c]) = (!cg && bytesBefore (kS lb) (kS c.key)))) := ⟨hkn, hok1, hen1, hbad, hsn⟩
    rw [← hnk, ← hnv, ← hcg]; have hba : Below W2.heap.size W2 (W2.alloc (.cells #[.slice ak nk ck, .slice av nv cv, .bool cg] 90)) := by go_grown
    have hj3 := hj2.below hba; have HJ3 : Hid (SoI w (W2.alloc (.cells #[.slice ak nk ck, .slice av nv cv, .bool cg] 90)) r (.slice (some ⟨g, o, none⟩) (N + 1) cap) (.slice la nl lc) lb) := hj3; have hs2 := hj2.sz; have hput : ∀ x, x ≠ w.heap.size + 5 → ((W2.alloc (.cells #[.slice ak nk ck, .slice av nv cv, .bool cg] 90)).putObj (w.heap.size + 5) (.loop rb)).heap[x]? = (W2.alloc (.cells #[.slice ak nk ck, .slice av nv cv, .bool cg] 90)).heap[x]? := fun x hx => World.putObj_heap_other hx
    have hpb0 : ((W2.alloc (.cells #[.slice ak nk ck, .slice av nv cv, .bool cg] 90)).putObj (w.heap.size + 5) (.loop rb)).heap[W2.heap.size]? = some (.cells #[.slice ak nk ck, .slice av nv cv, .bool cg] 90) := (hput _ (by omega)).trans (heap_alloc_new _ _); have hbk : BytesV ((W2.alloc (.cells #[.slice ak nk ck, .slice av nv cv, .bool cg] 90)).putObj (w.heap.size + 5) (.loop rb)) (.slice ak nk ck) c.key := hvk2.keep fun x hx => (hput x (fun e => bytes_loop hvk2 hx r (by rw [e]; exact hj2.b4))).trans (hba.block x (hvk2.lt x hx))
    have HX : Hid (SoI w ((W2.alloc (.cells #[.slice ak nk ck, .slice av nv cv, .bool cg] 90)).putObj (w.heap.size + 5) (.loop rb)) rb (.slice (some ⟨g, o, none⟩) (N + 1) cap) (.slice la nl lc) lb ∧ BytesV ((W2.alloc (.cells #[.slice ak nk ck, .slice av nv cv, .bool cg] 90)).putObj (w.heap.size + 5) (.loop rb)) (.slice ak nk ck) c.key ∧ ((W2.alloc (.cells #[.slice ak nk ck, .slice av nv cv, .bool cg] 90)).putObj (w.heap.size + 5) (.loop rb)).heap[W2.heap.size]? = some (.cells #[.slice ak nk ck, .slice av nv cv, .bool cg] 90) ∧ w.heap.size + 6 ≤ W2.heap.size) := ⟨hj3.put rb, hbk, hpb0, hs2⟩
    clear hj hj2 hj3 hvk hvv hvk2 hvv2 hb2 hba hnx hk hok hen hkl hso hno hn1 hok1 hen1 hkn hbad hsn hnk hnv hcg hnl hs2 hput hpb0 hbk; gi_wp2; refine ⟨HJ3.out.b4, ?_⟩; generalize (W2.alloc (.cells #[.slice ak nk ck, .slice av nv cv, .bool cg] 90)).putObj (w.heap.size + 5) (.loop rb) = V at HX ⊢; generalize W2.heap.size = P at HX ⊢; clear HJ3; have z0 : V.cell? ⟨w.heap.size, 0, none⟩ = some (.slice (some ⟨g, o, none⟩) (N + 1) cap) := (cell_of_block HX.out.1.b0 0).trans rfl; have z1 : V.cell? ⟨g, o, none⟩ = some (.int .u8 t) := (HX.out.1.bl.cell (p := ⟨g, o, none⟩) HG.out.2).trans HG.out.1; have e1 : V.cell? ⟨w.heap.size + 1, 0, none⟩ = some (.bool false) := (cell_of_block HX.out.1.b1 0).trans rfl; have f1 : V.frozen? ⟨w.heap.size + 1, 0, none⟩ = false := unfrozen_of_block HX.out.1.b1 0; have e2 : V.cell? ⟨w.heap.size + 2, 0, none⟩ = some (.slice la nl lc) := (cell_of_block HX.out.1.b2 0).trans rfl; have f2 : V.frozen? ⟨w.heap.size + 2, 0, none⟩ = false := unfrozen_of_block HX.out.1.b2 0; have y0 : V.cell? ⟨P, 0, none⟩ = some (.slice ak nk ck) := (cell_of_block HX.out.2.2.1 0).trans rfl; have y2 : V.cell? ⟨P, 2, none⟩ = some (.bool cg) := (cell_of_block HX.out.2.2.1 2).trans rfl; have TK : Hid True := trivial; rcases HT.out with h0 | h1
    · subst h0
      gi_wp2; exact ⟨HX.out.1.b4, l0 ++ [c], _, lb, HC.out.1, HX.out.1.put r, HC.out.2.1, HC.out.2.2.1, fun h => by cases h⟩
    · subst h1
      have HCM : Hid (∀ (_ : Unit), _) := fun _ => compare_any HX.out.2.1 HX.out.1.lk
      cases cg with
      | true =>
        gi_wp2_with (first
         | (have _ := TK
            clear TK; refine ⟨trivial, ?_⟩))
        have h9 := (HX.out.1.rots r).2; rw [HR2.out.1, HR2.out.2.1, HR2.out.2.2.1, HR2.out.2.2.2] at h9; exact ⟨(HX.out.1.rots r).1, rfl, h9, HC.out.2.2.2.1 trivial (by rw [HC.out.2.2.2.2 trivial]; rfl)⟩
      | false =>
        obtain ⟨q, hq⟩ : ∃ q, q = Lib.compareBytes (kS c.key) (kS lb) := ⟨_, rfl⟩
        rw [← hq] at HCM; have hqp := cmp_pos (kS c.key) (kS lb); rw [← hq] at hqp; clear hq; cases hbb : bytesBefore (kS lb) (kS c.key) with
        | false =>
          rw [hbb] at hqp; have hq0 : decide (q ≤ 0) = true := hqp; have HBB : Hid _ := hbb; clear hqp hbb; gi_wp2_with (first
           | (have _ := TK
              refine ⟨trivial, ?_⟩; gi_at_call 75; clear TK; refine (callsIn_wide.2 (HCM.out ())).mono ?_; rintro e w5 ⟨rfl, hw5⟩; obtain rfl := hw5.symm))
          have h9 := (HX.out.1.rots r).2; rw [HR2.out.1, HR2.out.2.1, HR2.out.2.2.1, HR2.out.2.2.2] at h9; exact ⟨(HX.out.1.rots r).1, rfl, h9, HC.out.2.2.2.1 trivial (by rw [HC.out.2.2.2.2 trivial, HBB.out]; rfl)⟩
        | true =>
          rw [hbb] at hqp; have hq0 : decide (q ≤ 0) = false := hqp; have HBB : Hid _ := hbb; clear hqp hbb; gi_wp2_with (first
           | (have _ := TK
              refine ⟨trivial, ?_⟩; gi_at_call 75; clear TK; refine (callsIn_wide.2 (HCM.out ())).mono ?_; rintro e w5 ⟨rfl, hw5⟩; obtain rfl := hw5.symm))
          have hL := HX.out.1.last HX.out.2.1; exact ⟨hL.b4, l0 ++ [c], _, c.key, HC.out.1, hL.put r, HC.out.2.1, HC.out.2.2.1, fun _ => ⟨by rw [HC.out.2.2.2.2 trivial, HBB.out]; rfl, (lastK_snoc [] l0 c).symm⟩⟩
 case hE =>
  rintro e W' ⟨hv, hq⟩; refine ⟨hv, ?_⟩; clear hst hpe htm hpar has' hbod h0 hXc hv; rcases hq with ⟨l0, lv, lb, hkl, hj, hok, hen, hso⟩ | ⟨hx, hno⟩
  · refine Or.inl ⟨hj.b4, ?_⟩
    obtain ⟨re, hre⟩ : ∃ re : Loop, { r with state := .exhausted } = re := ⟨_, rfl⟩
    rw [hre]; have J1 : Hid (SoI w (W'.putObj (w.heap.size + 5) (.loop re)) re (.slice (some ⟨g, o, none⟩) (N + 1) cap) lv lb) := hj.put re; have HO : Hid (R = true) := by
     show R = true; rw [HR.out, chK_enc hok.1 (by rw [hen, List.take_length])]; rcases HT.out with h | h
     · rw [if_pos h]; rfl
     · rw [if_neg (by omega), if_pos ⟨h, (hso h).1⟩]; rfl
    show Exit.inBlock _ _ _ _ (W'.putObj (w.heap.size + 5) (.loop re)); generalize W'.putObj (w.heap.size + 5) (.loop re) = V at J1 ⊢; clear hj hre hok hen hkl hso; have e1 : V.cell? ⟨w.heap.size + 1, 0, none⟩ = some (.bool false) := (cell_of_block J1.out.b1 0).trans rfl; have f1 : V.frozen? ⟨w.heap.size + 1, 0, none⟩ = false := unfrozen_of_block J1.out.b1 0; go_wp2; have k0 := J1.out.ends; refine ⟨by simp, .inl ⟨_, _, rfl, run_takeDeferred (w := V.setCell ⟨w.heap.size + 1, 0, none⟩ (.bool true)) k0.1, ?_⟩⟩; exact ⟨.bool true, by simp [results, Tryz.results44, asAddr, lv4 k0.2.1], by rw [HO.out], k0.2.2⟩
  · refine Or.inr ⟨.ret, hx.b4, ?_⟩
    obtain ⟨re, hre⟩ : ∃ re : Loop, { r with state := .exhausted, pending := some .ret } = re := ⟨_, rfl⟩
    rw [hre]; have hX1 := hx.ends re; have HB : Hid (R = false) := hno; generalize W'.putObj (w.heap.size + 5) (.loop re) = V at hX1 ⊢; have X1 : Hid _ := hX1; clear hx hre hno hX1; refine wpIn_wide.2 ?_; go_wp2; refine ⟨by simp, .inl ⟨_, _, rfl, run_takeDeferred X1.out.1, ?_⟩⟩; exact ⟨.bool false, by simp [results, Tryz.results44, asAddr, lv4 X1.out.2.1], by rw [HB.out], X1.out.2.2⟩
end Go.Proofs.YtconkienlcegaaaGreatDoor
