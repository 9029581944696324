/- The document's hash: the walk. -/
import Derived.Test.YtkenaccagcdofaaS1
namespace Go.Proofs.Ytkenaccagcdofaa
open Go.RowKit Go.Shelf
set_option linter.unusedSimpArgs false
set_option linter.unusedVariables false

/-- The worlds of the padding. -/
def Pd (w : World) (v : Value) (F : Nat → BitVec 8) (k : Nat) (wr : World) : Prop :=
  wr.rowIs w.heap.size 23 64 (byt fun _ => 0#8) ∧ wr.ownsRow (w.heap.size + 1) 5 1 v k (bl F k) ∧ Below w.heap.size w wr
theorem bl_app (F G : Nat → BitVec 8) (k : Nat) : ∀ m, (∀ i, i < m → G i = F (k + i)) → bl F k ++ bl G m = bl F (k + m)
  | 0, _ => by simp [bl]
  | m + 1, h => by
    rw [bl_succ G m, ← List.append_assoc, bl_app F G k m (fun i hi => h i (by omega)), show k + (m + 1) = k + m + 1 from by omega, bl_succ F (k + m)]
    simp only [byt]; rw [h m (by omega)]
theorem Pd.alloc {w : World} {v : Value} {F : Nat → BitVec 8} {k : Nat} {w1 : World} (h : Pd w v F k w1) (o : Obj) : Pd w v F k (w1.alloc o) :=
  ⟨h.1.alloc o, h.2.1.alloc o, h.2.2.alloc h.2.2.size _⟩
theorem Pd.next {w : World} {v v' : Value} {F G : Nat → BitVec 8} {k m : Nat} {w1 w2 : World} (h : Pd w v F k w1) (hG : ∀ i, i < m → G i = F (k + i)) (hown : w2.ownsRow (w.heap.size + 1) 5 1 v' (k + m) (bl F k ++ bl G m)) (hg : w1.grownBy w2 v.ownBlock) : Pd w v' F (k + m) w2 := by
  have hlt := h.2.1.lt
  refine ⟨h.1.of_block (hg.block _ h.1.lt (fun e => by have := (hlt _ e.symm).1; omega)), ?_, ?_⟩
  · rw [← bl_app F G k m hG]; exact hown
  · exact Below.grown h.2.2 hg h.2.2.size (fun g e => by have := (hlt g e).1; omega)
theorem pd_start (len : Nat) (msg : Nat → BitVec 8) (T : Nat) (w w1 : World) (v1 : Value)
    (ho1 : w1.ownsRow (w.heap.size + 1) 5 1 v1 len (bl msg len))
    (hg1 : ((w.alloc (.cells (vec 64 (byt fun _ => 0#8)) 23)).alloc (.cells #[] 5)).grownBy w1 (some (w.heap.size + 1))) : Pd w v1 (fm msg len T) len w1 := by
  have r0 : ((w.alloc (.cells (vec 64 (byt fun _ => 0#8)) 23)).alloc (.cells #[] 5)).rowIs w.heap.size 23 64 (byt fun _ => 0#8) := (heap_row (heap_alloc_new _ _)).alloc _
  have b0 : Below w.heap.size w ((w.alloc (.cells (vec 64 (byt fun _ => 0#8)) 23)).alloc (.cells #[] 5)) := by go_grown
  refine ⟨r0.of_block (hg1.block _ r0.lt (by simp)), ?_, b0.grown hg1 b0.size (fun k e => by cases e; omega)⟩
  rw [bl_congr (m := fm msg len T) (m' := msg) (fun i hi => by unfold fm; rw [if_pos hi])]
  exact ho1
/-- The worlds of the hash's loops: the answer's block, the message, the state. -/
def Sm (w : World) (g b T : Nat) (F : Nat → BitVec 8) (S : Nat → BitVec 64) (wr : World) : Prop :=
  wr.rowIs w.heap.size 23 64 (byt fun _ => 0#8) ∧ (∀ i, i < T → wr.cell? ⟨g, i, none⟩ = some (byt F i)) ∧ wr.rowIs b 38 8 (lan S) ∧ Below w.heap.size w wr ∧ w.heap.size < g ∧ g < b
theorem Sm.off {w : World} {g b T : Nat} {F : Nat → BitVec 8} {S S' : Nat → BitVec 64} {w1 w2 : World} (h : Sm w g b T F S w1) (hr : w2.rowIs b 38 8 (lan S')) (o : Only b w1 w2) : Sm w g b T F S' w2 :=
  ⟨o.row (by have := h.2.2.2.2; omega) h.1, fun i hi => (World.cell?_of_block (o.block g (by have := h.2.2.2.2; omega))).trans (h.2.1 i hi), hr, o.below h.2.2.2.1 (by have := h.2.2.2.2; omega), h.2.2.2.2⟩
theorem Sm.more {w : World} {g b T : Nat} {F : Nat → BitVec 8} {S : Nat → BitVec 64} {w1 w2 : World} (h : Sm w g b T F S w1) (o : Below w1.heap.size w1 w2) : Sm w g b T F S w2 :=
  ⟨h.1.of_block (o.block _ h.1.lt), fun i hi => (o.cell (p := ⟨g, i, none⟩) (block_lt_of_cell (h.2.1 i hi))).trans (h.2.1 i hi), h.2.2.1.of_block (o.block _ h.2.2.1.lt), h.2.2.2.1.trans (o.mono h.2.2.2.1.size), h.2.2.2.2⟩
theorem Sm.other {w : World} {g b b7 T : Nat} {F : Nat → BitVec 8} {S : Nat → BitVec 64} {w1 w2 : World} (h : Sm w g b T F S w1) (hb : b < b7) (o : Only b7 w1 w2) : Sm w g b T F S w2 :=
  ⟨o.row (by have := h.2.2.2.2; omega) h.1, fun i hi => (World.cell?_of_block (o.block g (by have := h.2.2.2.2; omega))).trans (h.2.1 i hi), o.row (by omega) h.2.2.1, o.below h.2.2.2.1 (by have := h.2.2.2.2; omega), h.2.2.2.2⟩
theorem sm_start {w wr : World} {g kcap T : Nat} {F : Nat → BitVec 8} {S : Nat → BitVec 64} {o : Obj} (h : Pd w (.slice (some ⟨g, 0, none⟩) T kcap) F T wr) (hg0 : w.heap.size + 1 ≤ g) (hg1 : g < wr.heap.size) :
    Sm w g (wr.heap.size + 1) T F S ((wr.alloc o).alloc (.cells (vec 8 (lan S)) 38)) := by
  have hoa := (h.2.1.alloc o).alloc (.cells (vec 8 (lan S)) 38)
  refine ⟨(h.1.alloc _).alloc _, fun i hi => ?_, heap_row (heap2of2 _ _ _), ((h.2.2.alloc h.2.2.size _).alloc (by have := h.2.2.size; simp; omega) _), by omega, by omega⟩
  rw [hoa.cellAt i (by omega), bl_get _ _ _ hi]
theorem out_val (S : Nat → BitVec 64) (k : Nat) : IntKind.u8.wrap (I (S (k / 8)) / 2 ^ (8 * (7 - k % 8))) = I8 (outb S k) := bof_val _ _
theorem cut_from (g T kcap a : Nat) (ha : a + 128 ≤ T) (hT : T ≤ kcap) (w : World) : (Instr.slice 22 (.slice (some ⟨g, 0, none⟩) T kcap) (some (.int .i64 (a : Int))) (some (.int .i64 ((a : Int) + 128))) none).run Try.prog w = .ok (.slice (some ⟨g, a, none⟩) 128 (kcap - a)) w := by
  have he : Try.prog.elem 22 = 5 := by kernel_rfl
  have h3 : ((a : Int) + 128).toNat = a + 128 := by omega
  rw [run_slice_lh w 22 _ T kcap (by kernel_rfl) .i64 .i64 (a : Int) ((a : Int) + 128) (by omega) (by omega) (by omega), he, Try.sizeOf5]
  simp only [Result.andThen, sliced, Int.toNat_natCast, h3, if_neg (show ¬ kcap = a by omega), Nat.add_sub_cancel_left]
  by_cases h0 : a = 0
  · subst h0; simp [Addr.add]
  · simp [Addr.add, h0]
theorem fm_mark (msg : Nat → BitVec 8) (n T i : Nat) (hi : i < 1) : 128#8 = fm msg n T (n + i) := by
  unfold fm; rw [if_neg (by omega), if_pos (by omega)]
theorem fm_zero (msg : Nat → BitVec 8) (n T k i : Nat) (h1 : n < k) (h2 : k + i < T - 8) : 0#8 = fm msg n T (k + i) := by
  unfold fm; rw [if_neg (by omega), if_neg (by omega), if_pos h2]
theorem fm_bits (msg : Nat → BitVec 8) (n T c i : Nat) (h1 : n < T - 8) (hi : i < 1) : bof (BitVec.ofNat 64 n <<< 3) c = fm msg n T (T - 8 + c + i) := by
  unfold fm; rw [if_neg (by omega), if_neg (by omega), if_neg (by omega), show T - 8 + c + i - (T - 8) = c from by omega]
set_option maxRecDepth 100000 in
set_option maxHeartbeats 4000000 in
/-- conclaveref03.Sum -/
theorem rsum_any (ao : Option Addr) (len cap : Nat) (msg : Nat → BitVec 8) (w : World) (hby : Bytes w ao len cap msg) (hno : ao = none → len = 0 ∧ cap = 0) :
    Calls Try.prog 7 #[.slice ao len cap] w fun e w' => e = .returned (.agg (vec 64 (byt (digest msg len)))) ∧ Below w.heap.size w w' := by
  have hcap : len ≤ 140737488351232 := by obtain ⟨_, _, _, _, h3, h4⟩ := hby; omega
  have H0 : Hid (Bytes ((w.alloc (.cells (vec 64 (byt fun _ => 0#8)) 23)).alloc (.cells #[] 5)) ao len cap msg) := hby.below (by go_grown)
  have HN : Hid _ := hno
  clear hby hno
  have hz := (zero_of_info zero23).1
  go_enter Try.func7, Try.ntmps7
  have HO0 : Hid (((w.alloc (.cells (vec 64 (byt fun _ => 0#8)) 23)).alloc (.cells #[] 5)).ownsRow (w.heap.size + 1) 5 1 (.slice (some ⟨w.heap.size + 1, 0, none⟩) 0 0) 0 []) := by
    have h := World.ownsRow_made (base := w.heap.size + 1) (e := 5) (size := 1) (w.alloc (.cells (vec 64 (byt fun _ => 0#8)) 23)) #[] 0 (by simp) (by decide) rfl
    rw [show (w.alloc (.cells (vec 64 (byt fun _ => 0#8)) 23)).heap.size = w.heap.size + 1 from by simp] at h
    exact h
  go_wp2_with (first | (at_builtin; go_must (refine wpList_append_bytes rfl _ _ rfl (w.heap.size + 1) _ 0 [] rfl HO0.out ao len cap msg rfl H0.out HN.out (by omega) (by simp) ?_)))
  intro v1 w1 ho1 hg1
  obtain ⟨T, hT⟩ : ∃ T, T = 128 * nb len := ⟨_, rfl⟩
  have hT2 : len + 17 ≤ T ∧ T ≤ len + 144 ∧ T % 128 = 0 := by rw [hT]; unfold nb; omega
  obtain ⟨F, hF⟩ : ∃ F, F = fm msg len T := ⟨_, rfl⟩
  have HP : Hid (Pd w v1 F len w1) := by rw [hF]; exact pd_start len msg T w w1 v1 ho1 hg1
  have HF : Hid (F = fm msg len T ∧ T = 128 * nb len) := ⟨hF, hT⟩
  have hB1 : w.heap.size + 1 ≤ w1.heap.size := by have := hg1.size; simp at this; omega
  clear ho1 hg1 HO0 H0 hT hF hz
  obtain ⟨hTa, hTb, hTc⟩ := hT2
  go_wp2_with (first | (at_builtin; go_must (refine wpList_append_bytes rfl _ _ rfl (w.heap.size + 1) _ len _ rfl (HP.out.2.1.alloc _) _ 1 1 (fun _ => 128#8) rfl (Bytes.one w1 128 _ rfl) (fun h => absurd h (by simp)) (by omega) (by simp; omega) ?_)))
  intro v2 w2 ho2 hg2
  have HP2 : Hid (Pd w v2 F (len + 1) w2) := (HP.out.alloc _).next (fun i hi => by rw [HF.out.1]; exact fm_mark _ _ _ _ hi) ho2 hg2
  clear ho2 hg2 HP
  go_wp2_with fail
  go_loopw [3] (fun s wr => ∃ k : Nat, len < k ∧ k ≤ T - 16 ∧ Pd w s F k wr) (fun s _ => T - lenB s)
  case atStart => exact ⟨len + 1, by omega, by omega, HP2.out⟩
  case round =>
    obtain ⟨k, hk0, hk1, hin⟩ := hrel
    clear HP2
    obtain ⟨g, kcap, rfl, hg0, hg1⟩ := own_form hin.2.1 (by omega)
    have hwr : w.heap.size + 1 ≤ wr.heap.size := by omega
    by_cases hlt : k < T - 16
    · have H1 : Hid (Pd w (.slice (some ⟨g, 0, none⟩) k kcap) F k wr) := hin
      have hd : ((k : Int) % 128 = 112) = False := by simp; omega
      clear hin
      go_wp2_with (first | (at_builtin; go_must (refine wpList_append_bytes rfl _ _ rfl (w.heap.size + 1) _ k _ rfl (H1.out.2.1.alloc _) _ 1 1 (fun _ => 0#8) rfl (Bytes.one wr 0 _ rfl) (fun h => absurd h (by simp)) (by omega) (by simp; omega) ?_)))
      intro v3 w3 ho3 hg3
      have HQ : Hid (Pd w v3 F (k + 1) w3) := (H1.out.alloc _).next (fun i hi => by rw [HF.out.1]; exact fm_zero _ _ _ _ _ hk0 (by omega)) ho3 hg3
      have hln : lenB v3 = k + 1 := by
        obtain ⟨_, _, rfl, _⟩ := own_form HQ.out.2.1 (by omega)
        rfl
      clear ho3 hg3
      go_wp2
      go_roundw
      case rel => exact ⟨k + 1, by omega, by omega, HQ.out⟩
      case measure => rw [hln]; simp [lenB]; omega
    · have hd : (k : Int) % 128 = 112 := by omega
      have H1 : Hid (Pd w (.slice (some ⟨g, 0, none⟩) k kcap) F k wr) := hin
      clear hin
      go_wp2_with (first | (at_builtin; go_must (refine wpList_append_eight rfl _ _ rfl (w.heap.size + 1) g kcap k _ rfl H1.out.2.1 rfl (by omega) (by omega) ?_)))
      intro v4 w4 ho4 hg4
      have hk8 : k + 8 = T - 8 := by omega
      have HP4' : Pd w v4 F (k + 8) w4 := H1.out.next (fun i hi => by rw [HF.out.1]; exact fm_zero _ _ _ _ _ hk0 (by omega)) ho4 hg4
      have HP4 : Hid (Pd w v4 F (T - 8) w4) := hk8 ▸ HP4'
      clear HP4'
      clear ho4 hg4 H1 hk8
      obtain ⟨x, hx⟩ : ∃ x, x = BitVec.ofNat 64 len <<< 3 := ⟨_, rfl⟩
      have e8 : IntKind.u64.wrap ((len : Int) * 8) = I x := by
        have hl : (len : Int) = I (BitVec.ofNat 64 len) := by show (len : Int) = ((BitVec.ofNat 64 len).toNat : Int); rw [BitVec.toNat_ofNat]; omega
        rw [hx, ← I_shl, ← hl]; rfl
      have ecv : IntKind.u64.wrap (len : Int) = (len : Int) := by rw [IntKind.wrap_u64]; omega
      have HX : Hid (x = BitVec.ofNat 64 len <<< 3) := hx
      clear hx
      go_wp2
      go_loopw [3, 5] (fun s i wr => ∃ c : Nat, c ≤ 8 ∧ i = .int .i64 (7 - (c : Int)) ∧ Pd w s F (T - 8 + c) wr) (fun s i _ => T - lenB s)
      case atStart => exact ⟨0, by omega, rfl, HP4.out⟩
      case round =>
        clear hlt hk0 hk1 hd hg0 hg1 hwr
        obtain ⟨c, hc, rfl, hin⟩ := hrel
        clear HP4 e8 ecv
        obtain ⟨g, kcap, rfl, hg0, hg1⟩ := own_form hin.2.1 (by omega)
        have hwr : w.heap.size + 1 ≤ wr.heap.size := by omega
        by_cases hlt : c < 8
        · have H1 : Hid (Pd w (.slice (some ⟨g, 0, none⟩) (T - 8 + c) kcap) F (T - 8 + c) wr) := hin
          have hd : (0 : Int) ≤ 7 - (c : Int) := by omega
          have hn1 : (8 * (7 - (c : Int))).toNat = 8 * (7 - c) := by omega
          have hn2 : IntKind.u64.wrap (8 * (7 - (c : Int))) = 8 * (7 - (c : Int)) := by rw [IntKind.wrap_u64]; omega
          have hv : IntKind.u8.wrap (I x / 2 ^ (8 * (7 - c))) = I8 (bof x c) := bof_val x c
          clear hin
          go_wp2_with (first | (at_builtin; go_must (refine wpList_append_bytes rfl _ _ rfl (w.heap.size + 1) _ (T - 8 + c) _ rfl (H1.out.2.1.alloc _) _ 1 1 (fun _ => bof x c) rfl (Bytes.one wr _ _ rfl) (fun h => absurd h (by simp)) (by omega) (by simp; omega) ?_)))
          intro v3 w3 ho3 hg3
          have HQ : Hid (Pd w v3 F (T - 8 + (c + 1)) w3) := (H1.out.alloc _).next (fun i hi => by rw [HF.out.1, HX.out]; exact fm_bits _ _ _ _ _ (by omega) hi) ho3 hg3
          have hln : lenB v3 = T - 8 + (c + 1) := by
            obtain ⟨_, _, rfl, _⟩ := own_form HQ.out.2.1 (by omega)
            rfl
          clear ho3 hg3 hv hn1 hn2
          go_wp2
          go_roundw
          case rel => exact ⟨c + 1, by omega, by go_num, HQ.out⟩
          case measure => rw [hln]; simp [lenB]; omega
        · have hd : ¬ (0 : Int) ≤ 7 - (c : Int) := by omega
          have hc8 : T - 8 + c = T := by omega
          have H1 : Hid (Pd w (.slice (some ⟨g, 0, none⟩) T kcap) F T wr) := hc8 ▸ hin
          have HS := sm_start (S := HH) (o := .cells (vec 8 (lan HH)) 38) H1.out hg0 hg1
          have hkc : T ≤ kcap := by
            rcases H1.out.2.1.2 with ⟨h1, _⟩ | ⟨g', cap', cur, hv, hbg, hg, hnc, _⟩
            · cases h1
            · cases hv; exact hnc
          clear hin
          rw [hc8]
          clear hc8
          have hz := (zero_of_info zero38).1
          go_wp2_with (first | (go_at_call 15; refine (rfirst_any _).mono ?_; rintro e w' ⟨rfl, hs⟩; obtain rfl := hs.symm) | (refine wpList_store_row rfl 38 _ _ rfl (wr.heap.size + 1) _ rfl rfl 38 _ (heap_n _ _ _ (by simp)) (info38v _) (by simp) (one_lan _ _) ?_; rw [setRow_n _ _ _ _ _ (by simp)]))
          clear hz
          obtain ⟨b, hb⟩ : ∃ b, b = wr.heap.size + 1 := ⟨_, rfl⟩
          obtain ⟨Q, hQ⟩ : ∃ Q, Q = nb len := ⟨_, rfl⟩
          have HQ : Hid (T = 128 * Q ∧ outb (stAfter F Q) = digest msg len) := ⟨by rw [hQ]; exact HF.out.2, by rw [HF.out.1, HF.out.2, hQ]; exact fm_hash msg len (by omega)⟩
          rw [← hb] at HS ⊢
          clear H1 hQ hb
          generalize (wr.alloc (.cells (vec 8 (lan HH)) 38)).alloc (.cells (vec 8 (lan HH)) 38) = W at HS ⊢
          have HB : Hid (Sm w g b T F (stAfter F 0) W) := HS
          clear HS HF HX
          go_loopw [7] (fun i wr => ∃ r a : Nat, a = 128 * r ∧ r ≤ Q ∧ i = .int .i64 (a : Int) ∧ Sm w g b T F (stAfter F r) wr) (fun i _ => T - (intOf i).toNat)
          case atStart => exact ⟨0, 0, by omega, by omega, rfl, HB.out⟩
          case round =>
            clear hlt hd hc hg0 hg1 hwr
            obtain ⟨r, a, ha, hr, rfl, hin⟩ := hrel
            have HA : Hid (a = 128 * r) := ha
            clear ha HB
            by_cases hlt : r < Q
            · have hd : decide ((a : Int) < (T : Int)) = true := by have := HQ.out.1; have := HA.out; simp; omega
              have ham : a + 128 ≤ T := by have := HQ.out.1; have := HA.out; omega
              obtain ⟨R, hR⟩ : ∃ R, stAfter F r = R := ⟨_, rfl⟩
              rw [hR] at hin
              have HR : Hid (stAfter F r = R) := hR
              have H1 : Hid (Sm w g b T F R wr) := hin
              have hsl := cut_from g T kcap a ham hkc
              clear hin hR
              go_wp2
              refine wp_region_held_drew (S := fun _ => True) (by kernel_rfl) trivial (fun hHeld => ?_)
              refine wpAnyH_take (i := 1) (v := .slice (some ⟨g, 0, none⟩) T kcap) rfl (by kernel_rfl) (by kernel_rfl) (by kernel_rfl) (fun _ _ _ h => h) (Or.inl ⟨by rfl, fun w9 hSw => ?_⟩) hHeld ?_
              · go_simp
              simp only [List.getElem_toArray, List.getElem_cons_succ, List.getElem_cons_zero, Act.put, List.setIfInBounds_toArray, List.set_cons_zero, List.set_cons_succ]
              refine wpAnyH_take (i := 2) (v := .int .i64 (a : Int)) rfl (by kernel_rfl) (by kernel_rfl) (by kernel_rfl) (fun _ _ _ h => h) (Or.inl ⟨by rfl, fun w9 hSw => ?_⟩) hHeld ?_
              · go_simp
              simp only [List.getElem_toArray, List.getElem_cons_succ, List.getElem_cons_zero, Act.put, List.setIfInBounds_toArray, List.set_cons_zero, List.set_cons_succ]
              refine wpAnyH_take (i := 3) (v := .int .i64 (a : Int)) rfl (by kernel_rfl) (by kernel_rfl) (by kernel_rfl) (fun _ _ _ h => h) (Or.inl ⟨by rfl, fun w9 hSw => ?_⟩) hHeld ?_
              · go_simp
              simp only [List.getElem_toArray, List.getElem_cons_succ, List.getElem_cons_zero, Act.put, List.setIfInBounds_toArray, List.set_cons_zero, List.set_cons_succ]
              refine wpAnyH_take (i := 4) (v := .int .i64 ((a : Int) + 128)) rfl (by kernel_rfl) (by kernel_rfl) (by kernel_rfl) (fun _ _ _ h => h) (Or.inl ⟨by rfl, fun w9 hSw => ?_⟩) hHeld ?_
              · have e1 : IntKind.i64.wrap ((a : Int) + 128) = (a : Int) + 128 := by rw [IntKind.wrap_i64]; omega
                go_simp
              simp only [List.getElem_toArray, List.getElem_cons_succ, List.getElem_cons_zero, Act.put, List.setIfInBounds_toArray, List.set_cons_zero, List.set_cons_succ]
              refine wpAnyH_take (i := 5) (v := .slice (some ⟨g, a, none⟩) 128 (kcap - a)) rfl (by kernel_rfl) (by kernel_rfl) (by kernel_rfl) (fun _ _ _ h => h) (Or.inl ⟨by rfl, fun w9 hSw => ?_⟩) hHeld ?_
              · have e1 := hsl w9; go_simp
              simp only [List.getElem_toArray, List.getElem_cons_succ, List.getElem_cons_zero, Act.put, List.setIfInBounds_toArray, List.set_cons_zero, List.set_cons_succ]
              refine wpAnyH_ready (rs := [0]) (by kernel_rfl) (by simp) ?_
              refine AllReadyH.cons rfl (fun K hK => ?_) AllReadyH.nil
              refine step_load_mid (by rfl) 38 _ rfl b 0 8 rfl (lan R) (fun j hj => by rw [Nat.zero_add]; exact H1.out.2.2.1.drew.cell hj) 27 Try.underlying38 (by kernel_rfl) ?_
              refine hK.out _ _ ?_ (fun hHeld => ?_)
              · trivial
              clear hK K
              try simp only [List.getElem_toArray, List.getElem_cons_succ, List.getElem_cons_zero, Act.put, List.setIfInBounds_toArray, List.set_cons_zero, List.set_cons_succ]
              refine wpAnyH_ready (rs := [6]) (by kernel_rfl) (by simp) ?_
              refine AllReadyH.cons rfl (fun K hK => ?_) AllReadyH.nil
              go_simp
              refine (rblock_any R (fun i => F (a + i)) g a (kcap - a) wr.drew (fun j hj => H1.out.2.1 (a + j) (by omega))).mono ?_
              rintro e w3 ⟨rfl, o1⟩
              have H2 : Sm w g b T F R w3 := (H1.out.more (Below.drew (Below.refl _ _))).more o1
              go_wp2_with fail
              refine hK.out _ _ ?_ (fun hHeld => ?_)
              · trivial
              clear hK K
              try simp only [List.getElem_toArray, List.getElem_cons_succ, List.getElem_cons_zero, Act.put, List.setIfInBounds_toArray, List.set_cons_zero, List.set_cons_succ]
              refine wpAnyH_ready (rs := [7]) (by kernel_rfl) (by simp) ?_
              refine AllReadyH.cons rfl (fun K hK => ?_) AllReadyH.nil
              refine step_store_vec (by rfl) 38 _ _ rfl b 0 8 8 (lan (beh KK R fun i => F (a + i))) _ 38 rfl rfl H2.2.2.1 (by decide) (by kernel_rfl) (fun _ _ => rfl) ?_
              refine hK.out _ _ ?_ (fun hHeld => ?_)
              · trivial
              clear hK K
              try simp only [List.getElem_toArray, List.getElem_cons_succ, List.getElem_cons_zero, Act.put, List.setIfInBounds_toArray, List.set_cons_zero, List.set_cons_succ]
              refine wpAnyH_done (by kernel_rfl) ?_ _
              have hs : stAfter F (r + 1) = beh KK R (fun i => F (a + i)) := by rw [HA.out, ← HR.out]; rfl
              have H3 : Hid (Sm w g b T F (stAfter F (r + 1)) (w3.setRow b (vec 8 fun j => if 0 ≤ j ∧ j < 0 + 8 then lan (beh KK R fun i => F (a + i)) (j - 0) else lan R j))) := by
                rw [hs]
                exact H2.off ((heap_row (setRow_heap _ _ _ _ _ _ (row_heap H2.2.2.1))).congr (fun i hi => by rw [if_pos ⟨by omega, by omega⟩, Nat.sub_zero])) ((Only.refl _ _).setRow _)
              clear H2 hs o1 hHeld hsl
              generalize w3.setRow b _ = W4 at H3 ⊢
              go_wp2
              go_roundw
              case rel => exact ⟨r + 1, a + 128, by have := HA.out; omega, by omega, by go_num, H3.out⟩
              case measure => simp [intOf]; omega
            · have hd : decide ((a : Int) < (T : Int)) = false := by have := HQ.out.1; have := HA.out; simp; omega
              have hd2 : decide (a < T) = false := by have := HQ.out.1; have := HA.out; simp; omega
              have hd3 : (T : Int) ≤ (a : Int) := by have := HQ.out.1; have := HA.out; omega
              have hrQ : r = Q := by omega
              rw [hrQ] at hin
              clear hrQ
              obtain ⟨S, hS⟩ : ∃ S, stAfter F Q = S := ⟨_, rfl⟩
              rw [hS] at hin HQ
              clear hS
              have hz := (zero_of_info zero23).1
              go_wp2
              have h7 : (wr.alloc (.cells (vec 64 (byt fun _ => 0#8)) 23)).rowIs wr.heap.size 23 64 (byt (outTo S 0)) := (heap_row (heap_alloc_new _ _)).congr (fun i _ => by simp [byt, outTo])
              have hA := hin.more ((Below.refl _ _).alloc (Nat.le_refl _) (.cells (vec 64 (byt fun _ => 0#8)) 23))
              have hlb : b < wr.heap.size := hin.2.2.1.lt
              generalize wr.alloc (.cells (vec 64 (byt fun _ => 0#8)) 23) = W7 at h7 hA ⊢
              obtain ⟨b7, hb7⟩ : ∃ b7, wr.heap.size = b7 := ⟨_, rfl⟩
              rw [hb7] at h7 hlb ⊢
              have HB : Hid (Sm w g b T F S W7 ∧ W7.rowIs b7 23 64 (byt (outTo S 0))) := ⟨hA, h7⟩
              clear h7 hA hb7 hin hz
              go_loopw [9] (fun i wv => ∃ k : Nat, k ≤ 64 ∧ i = .int .i64 (k : Int) ∧ Sm w g b T F S wv ∧ wv.rowIs b7 23 64 (byt (outTo S k))) (fun i _ => 64 - (intOf i).toNat)
              case atStart => exact ⟨0, by omega, rfl, HB.out⟩
              case round =>
                clear hlt hd
                obtain ⟨k, hk, rfl, hin, hrow⟩ := hrel
                clear HB
                by_cases hkl : k < 64
                · have c0 : wr.cell? ⟨b, k / 8, none⟩ = some (.int .u64 (I (S (k / 8)))) := hin.2.2.1.cell (by omega)
                  obtain ⟨u, cu⟩ : ∃ u, wr.cell? ⟨b7, k, none⟩ = some u := ⟨_, hrow.cell hkl⟩
                  have f0 : wr.frozen? ⟨b7, k, none⟩ = false := hrow.frozen _
                  have hn2 : IntKind.u64.wrap (56 - 8 * ((k : Int) % 8)) = 56 - 8 * ((k : Int) % 8) := by rw [IntKind.wrap_u64]; omega
                  have hn1 : (56 - 8 * ((k : Int) % 8)).toNat = 8 * (7 - k % 8) := by omega
                  have hv : IntKind.u8.wrap (I (S (k / 8)) / 2 ^ (8 * (7 - k % 8))) = I8 (outb S k) := out_val S k
                  have H1 : Hid (Sm w g b T F S wr ∧ wr.rowIs b7 23 64 (byt (outTo S k))) := ⟨hin, hrow⟩
                  clear hin hrow
                  go_wp2
                  clear hv hn1 hn2
                  go_roundw
                  case rel => exact ⟨k + 1, by omega, by go_num, H1.out.1.other hlb ((Only.refl _ _).setCell _ _), out_row hkl H1.out.2 rfl⟩
                  case measure => simp [intOf]; omega
                · obtain rfl : k = 64 := by omega
                  go_wp2_with (first | (refine wpList_load_row rfl 23 _ rfl b7 rfl 23 _ (0, 0) _ (row_heap hrow) Try.underlying23 rfl (info23v _) ?_) | (refine wpList_store_row rfl 23 _ _ rfl w.heap.size _ rfl rfl 23 _ (row_heap hin.1) (info23v _) (by simp) (one_byt _ _) ?_))
                  refine bodyPost_ret (results_cell_row rfl _ _ _ _ _ _ _ rfl (setRow_heap _ _ _ _ _ _ (row_heap hin.1)) Try.underlying23 rfl (info23v _)) rfl ⟨?_, ?_⟩
                  · rw [← HQ.out.2, vec_congr (g := byt (outb S)) (fun i hi => by simp only [byt, outTo]; rw [if_pos hi])]
                  · exact ((Only.refl _ _).setRow _).below hin.2.2.2.1 (Nat.le_refl _)
end Go.Proofs.Ytkenaccagcdofaa
