/- trie: TrieCompact's walk. -/
import Derived.Test.YtboeokmaepchgaaGreatDoorTN
namespace Go.Proofs.YtboeokmaepchgaaGreatDoor
open Go.RowKit Go.Maps Go.Joins Go.Shelf
set_option linter.unusedSimpArgs false
set_option linter.unusedVariables false
def exN (bs : List Int) : List Int := match exB bs with | none => [] | some (ns, _) => ns
def exL (bs : List Int) : Bool := match exB bs with | none => false | some (_, l) => l
def exC (bs : List Int) : Int := match exB bs with | none => 1 | some _ => 0
theorem exq_form {w w' : World} {bs : List Int} {e : Ending} (h : ExQ w w' bs e) : ∃ v, e = .returned (.tuple #[v, .bool (exL bs), .int .i64 (exC bs)]) ∧ BytesV w' v (exN bs) := by
  unfold ExQ at h
  unfold exN exL exC
  cases hx : exB bs with
  | none => rw [hx] at h; exact ⟨_, h, Or.inl ⟨rfl, rfl⟩⟩
  | some q =>
    obtain ⟨ns, l⟩ := q
    rw [hx] at h
    exact h
set_option maxRecDepth 100000 in
set_option maxHeartbeats 16000000 in
theorem compact_law {w : World} {a0 a1 : Option Addr} {c0 c1 : Nat} {ns bs : List Int} (l : Bool) (hp : Kc.PathIn w) (hn : SrcN w a0 c0 ns) (hb : SrcN w a1 c1 bs) :
    Calls Tryz.prog 3 #[.slice a0 ns.length c0, .slice a1 bs.length c1, .bool l] w fun e w' => e = .returned (.bool true) ∧ Below w.heap.size w w' := by
  have HP : Hid (Kc.PathIn w ∧ 1 < w.heap.size) := ⟨hp, Kc.pathIn_pos hp⟩
  have HS : Hid (SrcN w a0 c0 ns ∧ SrcN w a1 c1 bs) := ⟨hn, hb⟩
  have HC : Hid _ := Compact_any l hn
  obtain ⟨n0, hn0⟩ : ∃ n0, n0 = ns.length := ⟨_, rfl⟩
  obtain ⟨n1, hn1⟩ : ∃ n1, n1 = bs.length := ⟨_, rfl⟩
  rw [← hn0] at HC
  rw [← hn0, ← hn1]
  have HN : Hid (n0 = ns.length ∧ n1 = bs.length) := ⟨hn0, hn1⟩
  clear hp hn hb hn0 hn1
  go_enter Tryz.func3, Tryz.ntmps3
  go_wp2_with fail
  refine Calls.mono HC.out ?_
  rintro e W1 ⟨hb1, x, rfl, hox⟩
  obtain ⟨ax, cx, rfl⟩ := row_form hox
  obtain ⟨ce, hce⟩ : ∃ ce, ce = cpE ns := ⟨_, rfl⟩
  obtain ⟨nx, hnx⟩ : ∃ nx, nx = (cpR ns l).length := ⟨_, rfl⟩
  have H1 : Hid (Below w.heap.size w W1 ∧ BytesV W1 (.slice ax nx cx) (cpR ns l)) := ⟨hb1, by rw [hnx]; exact BytesV.of_own hox⟩
  rw [← hce, ← hnx]
  have HE : Hid (ce = cpE ns ∧ nx = (cpR ns l).length) := ⟨hce, hnx⟩
  have HC2 : Hid _ := RCompact_any l (HS.out.1.below hb1)
  rw [← HN.out.1] at HC2
  clear hb1 hox HC hce hnx
  go_wp2_with fail
  refine Calls.mono HC2.out ?_
  rintro e W2 ⟨hb2, y, rfl, hoy⟩
  obtain ⟨ay, cy, rfl⟩ := row_form hoy
  have H2 : Hid (Below w.heap.size w W2 ∧ BytesV W2 (.slice ax nx cx) (cpR ns l) ∧ BytesV W2 (.slice ay nx cy) (cpR ns l)) := ⟨H1.out.1.trans (hb2.mono H1.out.1.size), H1.out.2.below hb2, by rw [HE.out.2]; exact BytesV.of_own hoy⟩
  rw [← HE.out.1, ← HE.out.2]
  have HC3 : Hid _ := Expand_any (HS.out.2.below H2.out.1)
  rw [← HN.out.2] at HC3
  clear hb2 hoy HC2 H1
  go_wp2_with fail
  refine Calls.mono HC3.out ?_
  rintro e W3 ⟨hb3, hq3⟩
  obtain ⟨u, rfl, hu⟩ := exq_form hq3
  obtain ⟨au, cu, rfl⟩ := hu.form
  obtain ⟨eL, heL⟩ : ∃ eL, eL = exL bs := ⟨_, rfl⟩
  obtain ⟨eC, heC⟩ : ∃ eC, eC = exC bs := ⟨_, rfl⟩
  obtain ⟨nu, hnu⟩ : ∃ nu, nu = (exN bs).length := ⟨_, rfl⟩
  have H3 : Hid (Below w.heap.size w W3 ∧ BytesV W3 (.slice ax nx cx) (cpR ns l) ∧ BytesV W3 (.slice ay nx cy) (cpR ns l) ∧ BytesV W3 (.slice au nu cu) (exN bs)) := ⟨H2.out.1.trans (hb3.mono H2.out.1.size), H2.out.2.1.below hb3, H2.out.2.2.below hb3, by rw [hnu]; exact hu⟩
  rw [← heL, ← heC, ← hnu]
  have HX : Hid (eL = exL bs ∧ eC = exC bs ∧ nu = (exN bs).length) := ⟨heL, heC, hnu⟩
  have HC4 : Hid _ := RExpand_any (HS.out.2.below H3.out.1)
  rw [← HN.out.2] at HC4
  clear hb3 hq3 hu heL heC hnu HC3 H2
  go_wp2_with fail
  refine Calls.mono HC4.out ?_
  rintro e W4 ⟨hb4, hq4⟩
  obtain ⟨v, rfl, hv⟩ := exq_form hq4
  obtain ⟨av, cv, rfl⟩ := hv.form
  have H4 : Hid (Below w.heap.size w W4 ∧ BytesV W4 (.slice ax nx cx) (cpR ns l) ∧ BytesV W4 (.slice ay nx cy) (cpR ns l) ∧ BytesV W4 (.slice au nu cu) (exN bs) ∧ BytesV W4 (.slice av nu cv) (exN bs)) := ⟨H3.out.1.trans (hb4.mono H3.out.1.size), H3.out.2.1.below hb4, H3.out.2.2.1.below hb4, H3.out.2.2.2.below hb4, by rw [HX.out.2.2]; exact hv⟩
  rw [← HX.out.1, ← HX.out.2.1, ← HX.out.2.2]
  clear hb4 hq4 hv HC4 H3
  go_wp2_with fail
  refine Calls.mono get_nil ?_
  rintro e W5 ⟨rfl, hb5⟩
  have H5 : Hid (Below w.heap.size w W5 ∧ BytesV W5 (.slice ax nx cx) (cpR ns l) ∧ BytesV W5 (.slice ay nx cy) (cpR ns l) ∧ BytesV W5 (.slice au nu cu) (exN bs) ∧ BytesV W5 (.slice av nu cv) (exN bs)) := ⟨H4.out.1.trans (hb5.mono H4.out.1.size), H4.out.2.1.below hb5, H4.out.2.2.1.below hb5, H4.out.2.2.2.1.below hb5, H4.out.2.2.2.2.below hb5⟩
  clear hb5 H4
  go_wp2_with fail
  refine Calls.mono all_nil ?_
  rintro e W6 ⟨rfl, hb6⟩
  have H6 : Hid (Below w.heap.size w W6 ∧ BytesV W6 (.slice ax nx cx) (cpR ns l) ∧ BytesV W6 (.slice ay nx cy) (cpR ns l) ∧ BytesV W6 (.slice au nu cu) (exN bs) ∧ BytesV W6 (.slice av nu cv) (exN bs)) := ⟨H5.out.1.trans (hb6.mono H5.out.1.size), H5.out.2.1.below hb6, H5.out.2.2.1.below hb6, H5.out.2.2.2.1.below hb6, H5.out.2.2.2.2.below hb6⟩
  clear hb6 H5
  go_wp2_with fail
  refine Calls.mono root_nil ?_
  rintro e W7 ⟨rfl, hb7⟩
  have hA : Below W7.heap.size W7 (W7.alloc (.cells z32 33)) := by go_grown
  have H7 : Hid (Below w.heap.size w (W7.alloc (.cells z32 33)) ∧ BytesV (W7.alloc (.cells z32 33)) (.slice ax nx cx) (cpR ns l) ∧ BytesV (W7.alloc (.cells z32 33)) (.slice ay nx cy) (cpR ns l) ∧ BytesV (W7.alloc (.cells z32 33)) (.slice au nu cu) (exN bs) ∧ BytesV (W7.alloc (.cells z32 33)) (.slice av nu cv) (exN bs) ∧ (W7.alloc (.cells z32 33)).heap[W7.heap.size]? = some (.cells z32 33)) := ⟨(H6.out.1.trans (hb7.mono H6.out.1.size)).trans (hA.mono (Nat.le_trans H6.out.1.size hb7.size)), (H6.out.2.1.below hb7).below hA, (H6.out.2.2.1.below hb7).below hA, (H6.out.2.2.2.1.below hb7).below hA, (H6.out.2.2.2.2.below hb7).below hA, heap_alloc_new _ _⟩
  clear hb7 H6 hA
  go_wp2_with (first | (refine wpList_store_row rfl 33 _ _ rfl W7.heap.size z32 rfl rfl 33 _ (heap_alloc_new _ _) (Kc.info29v _) rfl (Kc.one_byt _ _) ?_; rw [World.setRow_alloc_new]))
  obtain ⟨br, hbr⟩ : ∃ br, br = W7.heap.size := ⟨_, rfl⟩
  rw [← hbr] at H7 ⊢
  clear hbr
  generalize W7.alloc (.cells z32 33) = W8 at H7 ⊢
  refine Calls.mono (lsame_t H7.out.2.1 H7.out.2.2.1) ?_
  rintro e w9 ⟨rfl, h9⟩
  obtain rfl := h9.symm
  clear h9
  go_wp2_with fail
  refine Calls.mono (lsame_t H7.out.2.2.2.1 H7.out.2.2.2.2.1) ?_
  rintro e w9 ⟨rfl, h9⟩
  obtain rfl := h9.symm
  clear h9
  have H8 : Hid (Below w.heap.size w W8 ∧ W8.heap[br]? = some (.cells z32 33)) := ⟨H7.out.1, H7.out.2.2.2.2.2⟩
  clear H7
  go_wp2_with fail
  refine Calls.mono put_nil ?_
  rintro e W9 ⟨rfl, hb9⟩
  have H9 : Hid (Below w.heap.size w W9 ∧ W9.heap[br]? = some (.cells z32 33)) := ⟨H8.out.1.trans (hb9.mono H8.out.1.size), (hb9.block br (heap_lt H8.out.2)).trans H8.out.2⟩
  clear hb9 H8
  go_wp2_with fail
  refine Calls.mono delete_nil ?_
  rintro e WA ⟨rfl, hbA⟩
  have HA : Hid (Below w.heap.size w WA ∧ WA.heap[br]? = some (.cells z32 33)) := ⟨H9.out.1.trans (hbA.mono H9.out.1.size), (hbA.block br (heap_lt H9.out.2)).trans H9.out.2⟩
  clear hbA H9
  have he := eq33 (fun _ => 0#8) WA
  obtain ⟨D, hD⟩ : ∃ D, D = Kc.digest (Kc.mB Kc.eM) 1 := ⟨_, rfl⟩
  have HL : Hid _ := alive_any (w := WA) D hD (HP.out.1.below HA.out.1 HP.out.2)
  clear hD
  go_wp2_with (first | (refine BigFrame.wpList_want (by rfl) (fun _ hK => wp_load_row 33 _ rfl br rfl 33 _ (0, 0) _ HA.out.2 Tryz.underlying33 rfl (Kc.info29v _) (hK _ _ ?_))) | (refine BigFrame.wpList_want (by rfl) (fun _ hK => wp_build 33 _ rfl (by kernel_rfl) (hK _ _ ?_)); generalize hG : (Program.built _ _ _).getD #[] = G; obtain rfl : G = z32 := by rw [← hG]; kernel_rfl))
  refine Calls.mono HL.out ?_
  rintro e WB ⟨hbB, rfl⟩
  go_wp2
  go_ret
  exact ⟨rfl, HA.out.1.trans (hbB.mono HA.out.1.size)⟩
end Go.Proofs.YtboeokmaepchgaaGreatDoor
