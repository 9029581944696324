/- The document's hash: the walk. -/
import Derived.Test.YtmhfgchckebnpaaDoorS2
namespace Go.Proofs.YtmhfgchckebnpaaDoor
open Go.RowKit Go.Shelf
set_option linter.unusedSimpArgs false
set_option linter.unusedVariables false

theorem pd_start (ao : Option Addr) (len cap : Nat) (msg : Nat → BitVec 8) (w w1 w2 : World) (v1 v2 : Value)
    (ho1 : w1.ownsRow (w.heap.size + 1) 5 1 v1 len (bl msg len))
    (hg1 : ((w.alloc (.cells (vec 32 (byt fun _ => 0#8)) 29)).alloc (.cells #[] 5)).grownBy w1 (some (w.heap.size + 1)))
    (ho2 : w2.ownsRow (w.heap.size + 1) 5 1 v2 (len + 1) (bl msg len ++ bl (fun _ => 1#8) 1))
    (hg2 : (w1.alloc (.cells #[.int .u8 1] 5)).grownBy w2 v1.ownBlock) : Pd w v2 msg len (len + 1) w2 := by
  have r0 : ((w.alloc (.cells (vec 32 (byt fun _ => 0#8)) 29)).alloc (.cells #[] 5)).rowIs w.heap.size 29 32 (byt fun _ => 0#8) := (heap_row (heap_alloc_new _ _)).alloc _
  have b0 : Below w.heap.size w ((w.alloc (.cells (vec 32 (byt fun _ => 0#8)) 29)).alloc (.cells #[] 5)) := by go_grown
  have r1 := r0.of_block (hg1.block _ r0.lt (by simp))
  have b1 : Below w.heap.size w w1 := b0.grown hg1 b0.size (fun k e => by cases e; omega)
  have r2 := (r1.alloc (.cells #[.int .u8 1] 5))
  have hlt := ho1.lt
  refine ⟨r2.of_block (hg2.block _ r2.lt (fun e => by have := (hlt _ e.symm).1; omega)), ?_, ?_⟩
  · rw [← pms_start]; exact ho2
  · exact Below.grown (b1.alloc b1.size _) hg2 (by have := b1.size; simp; omega) (fun g e => by have := (hlt g e).1; omega)
theorem Sm.other {w : World} {g b b7 T : Nat} {F : Nat → BitVec 8} {S : Nat → BitVec 64} {w1 w2 : World} (h : Sm w g b T F S w1) (hb : b < b7) (o : Only b7 w1 w2) : Sm w g b T F S w2 :=
  ⟨o.row (by have := h.2.2.2.2; omega) h.1, fun i hi => (World.cell?_of_block (o.block g (by have := h.2.2.2.2; omega))).trans (h.2.1 i hi), o.row (by omega) h.2.2.1, o.below h.2.2.2.1 (by have := h.2.2.2.2; omega), h.2.2.2.2⟩
theorem sm_start {w wr : World} {g kcap len M : Nat} {msg : Nat → BitVec 8} (h : Pd w (.slice (some ⟨g, 0, none⟩) (M + 1) kcap) msg len (M + 1) wr) (hg0 : w.heap.size + 1 ≤ g) (hg1 : g < wr.heap.size) :
    Sm w g wr.heap.size (M + 1) (fm msg len (M + 1)) (fun _ => 0#64) ((wr.setCell ⟨g, M, none⟩ (.int .u8 (bits .or .u8 (I8 (pms msg len M)) 128))).alloc (.cells (vec 25 (lan fun _ => 0#64)) 23)) := by
  rw [bo8]
  obtain ⟨ho, hgb⟩ := h.2.1.stored M (.int .u8 (I8 (pms msg len M ||| 128#8)))
  rw [bl_last] at ho
  have hs : (wr.setCell ⟨g, M, none⟩ (.int .u8 (I8 (pms msg len M ||| 128#8)))).heap.size = wr.heap.size := by simp
  generalize wr.setCell ⟨g, M, none⟩ (.int .u8 (I8 (pms msg len M ||| 128#8))) = W at *
  have hoa := ho.alloc (.cells (vec 25 (lan fun _ => 0#64)) 23)
  refine ⟨(h.1.of_block (hgb.block _ h.1.lt (by simp; omega))).alloc _, fun i hi => ?_, ?_, ?_, by omega, hg1⟩
  · rw [hoa.cellAt i (by omega), bl_get _ _ _ hi]
  · have := heap_row (heap_alloc_new W (.cells (vec 25 (lan fun _ => 0#64)) 23)); rw [hs] at this; exact this
  · exact (h.2.2.grown hgb h.2.2.size (fun k e => by cases e; omega)).alloc (by have := h.2.2.size; omega) _
set_option maxRecDepth 100000 in
set_option maxHeartbeats 4000000 in
/-- conclaveref02.Sum -/
theorem rsum_any (ao : Option Addr) (len cap : Nat) (msg : Nat → BitVec 8) (w : World) (hby : Bytes w ao len cap msg) (hno : ao = none → len = 0 ∧ cap = 0) :
    Calls Tryd.prog 12 #[.slice ao len cap] w fun e w' => e = .returned (.agg (vec 32 (byt (digest msg len)))) ∧ Below w.heap.size w w' := by
  have hcap : len ≤ 140737488351232 := by obtain ⟨_, _, _, _, h3, h4⟩ := hby; omega
  have H0 : Hid (Bytes ((w.alloc (.cells (vec 32 (byt fun _ => 0#8)) 29)).alloc (.cells #[] 5)) ao len cap msg) := hby.below (by go_grown)
  have HN : Hid _ := hno
  clear hby hno
  go_enter Tryd.func12, Tryd.ntmps12
  have HO0 : Hid (((w.alloc (.cells (vec 32 (byt fun _ => 0#8)) 29)).alloc (.cells #[] 5)).ownsRow (w.heap.size + 1) 5 1 (.slice (some ⟨w.heap.size + 1, 0, none⟩) 0 0) 0 []) := by
    have h := World.ownsRow_made (base := w.heap.size + 1) (e := 5) (size := 1) (w.alloc (.cells (vec 32 (byt fun _ => 0#8)) 29)) #[] 0 (by simp) (by decide) rfl
    rw [show (w.alloc (.cells (vec 32 (byt fun _ => 0#8)) 29)).heap.size = w.heap.size + 1 from by simp] at h
    exact h
  go_wp2_with (first | (at_builtin; (try rw [zero32']); go_must (refine wpList_append_bytes rfl _ _ rfl (w.heap.size + 1) _ 0 [] rfl HO0.out ao len cap msg rfl H0.out HN.out (by omega) (by simp) ?_)))
  intro v1 w1 ho1 hg1
  have hB1 : w.heap.size + 1 ≤ w1.heap.size := by have := hg1.size; simp at this; omega
  have H1 : Hid (w1.ownsRow (w.heap.size + 1) 5 1 v1 len (bl msg len)) := ho1
  have G1 : Hid _ := hg1
  clear ho1 hg1
  go_wp2_with (first | (at_builtin; go_must (refine wpList_append_bytes rfl _ _ rfl (w.heap.size + 1) _ len _ rfl (H1.out.alloc _) _ 1 1 (fun _ => 1#8) rfl (Bytes.one w1 1 _ rfl) (fun h => absurd h (by simp)) (by omega) (by simp; omega) ?_)))
  intro v2 w2 ho2 hg2
  have hP := pd_start ao len cap msg w w1 w2 v1 v2 H1.out G1.out ho2 hg2
  have HP : Hid _ := hP
  clear ho2 hg2 hP H1 G1 HO0 H0
  go_wp2_with fail
  obtain ⟨T, hT⟩ : ∃ T, T = 136 * (len / 136 + 1) := ⟨_, rfl⟩
  go_loopw [3] (fun s wr => ∃ k : Nat, len < k ∧ k ≤ T ∧ Pd w s msg len k wr) (fun s _ => T - lenB s)
  case atStart => exact ⟨len + 1, by omega, by omega, HP.out⟩
  case round =>
    obtain ⟨k, hk0, hk1, hin⟩ := hrel
    clear HP
    obtain ⟨g, kcap, rfl, hg0, hg1⟩ := own_form hin.2.1 (by omega)
    have hwr : w.heap.size + 1 ≤ wr.heap.size := by omega
    by_cases hlt : k < T
    · have H1 : Hid (Pd w (.slice (some ⟨g, 0, none⟩) k kcap) msg len k wr) := hin
      have hd : ((k : Int) % 136 = 0) = False := by simp; omega
      clear hin
      go_wp2_with (first | (at_builtin; go_must (refine wpList_append_bytes rfl _ _ rfl (w.heap.size + 1) _ k _ rfl (H1.out.2.1.alloc _) _ 1 1 (fun _ => 0#8) rfl (Bytes.one wr 0 _ rfl) (fun h => absurd h (by simp)) (by omega) (by simp; omega) ?_)))
      intro v3 w3 ho3 hg3
      have HQ : Hid _ := H1.out.next hk0 ho3 hg3
      have hln : lenB v3 = k + 1 := by
        obtain ⟨_, _, rfl, _⟩ := own_form HQ.out.2.1 (by omega)
        rfl
      clear ho3 hg3
      go_wp2
      go_roundw
      case rel => exact ⟨k + 1, by omega, by omega, HQ.out⟩
      case measure => rw [hln]; simp [lenB]; omega
    · obtain rfl : k = T := by omega
      obtain ⟨M, rfl⟩ : ∃ M, k = M + 1 := ⟨k - 1, by omega⟩
      have hd : ((M : Int) + 1) % 136 = 0 := by omega
      have hi1 : ((M + 1 : Nat) : Int) - 1 = (M : Int) := by omega
      have c1 : wr.cell? ⟨g, M, none⟩ = some (.int .u8 (I8 (pms msg len M))) := by rw [hin.2.1.cellAt M (by omega), bl_get _ _ _ (by omega)]
      have f1 : wr.frozen? ⟨g, M, none⟩ = false := hin.2.1.frozenAt M
      have H1 : Hid (Pd w (.slice (some ⟨g, 0, none⟩) (M + 1) kcap) msg len (M + 1) wr ∧ M + 1 = 136 * (len / 136 + 1)) := ⟨hin, hT⟩
      have hM : M < 140737488355328 := by omega
      clear hin hT hk1 hlt
      go_wp2
      rw [zero25']
      have hS := sm_start H1.out.1 hg0 hg1
      obtain ⟨b, hb⟩ : ∃ b, wr.heap.size = b := ⟨_, rfl⟩
      obtain ⟨F, hF⟩ : ∃ F, fm msg len (M + 1) = F := ⟨_, rfl⟩
      obtain ⟨Q, hQ⟩ : ∃ Q, len / 136 + 1 = Q := ⟨_, rfl⟩
      have HQ : Hid (M + 1 = 136 * Q ∧ outb (stAfter F Q) = digest msg len) := ⟨by rw [← hQ]; exact H1.out.2, by rw [← hF, ← hQ, H1.out.2]; exact fm_hash msg len⟩
      rw [hb, hF] at hS
      rw [hb]
      clear hd hi1 c1 f1 H1 hF hQ hb
      generalize (wr.setCell ⟨g, M, none⟩ (.int .u8 (bits .or .u8 (I8 (pms msg len M)) 128))).alloc (.cells (vec 25 (lan fun _ => 0#64)) 23) = W at *
      generalize ((M : Int) + 1) % 136 = X1
      generalize bits .or .u8 (I8 (pms msg len M)) 128 = X2
      generalize I8 (pms msg len M) = X3
      have HS : Hid _ := hS
      clear hS
      go_loopw [5] (fun i wr => ∃ r a : Nat, a = 136 * r ∧ r ≤ Q ∧ i = .int .i64 (a : Int) ∧ Sm w g b (M + 1) F (stAfter F r) wr) (fun i _ => M + 1 - (intOf i).toNat)
      case atStart => exact ⟨0, 0, by omega, by omega, rfl, HS.out⟩
      case round =>
        obtain ⟨r, a, ha, hr, rfl, hin⟩ := hrel
        have HA : Hid (a = 136 * r) := ha
        clear ha HS
        by_cases hlt : r < Q
        · have hd : decide ((a : Int) < (M : Int) + 1) = true := by have := HQ.out.1; have := HA.out; simp; omega
          have ham : a + 136 ≤ M + 1 := by have := HQ.out.1; have := HA.out; omega
          obtain ⟨R, hR⟩ : ∃ R, stAfter F r = R := ⟨_, rfl⟩
          rw [hR] at hin
          have HR : Hid (stAfter F r = R) := hR
          have HB : Hid (Sm w g b (M + 1) F (absTo R (fun i => F (a + i)) 0) wr) := hin
          clear hin hR
          go_wp2
          go_loopw [6] (fun i wv => ∃ k : Nat, k ≤ 136 ∧ i = .int .i64 (k : Int) ∧ Sm w g b (M + 1) F (absTo R (fun i => F (a + i)) k) wv) (fun i _ => 136 - (intOf i).toNat)
          case atStart => exact ⟨0, by omega, rfl, HB.out⟩
          case round =>
            obtain ⟨k, hk, rfl, hin⟩ := hrel
            clear HB
            by_cases hkl : k < 136
            · have c0 : wr.cell? ⟨b, k / 8, none⟩ = some (.int .u64 (I (absTo R (fun i => F (a + i)) k (k / 8)))) := hin.2.2.1.cell (by omega)
              have f0 : wr.frozen? ⟨b, k / 8, none⟩ = false := hin.2.2.1.frozen _
              have c1 : wr.cell? ⟨g, a + k, none⟩ = some (.int .u8 (I8 (F (a + k)))) := hin.2.1 _ (by omega)
              have hbd := I8_bd (F (a + k))
              obtain ⟨hb0, hb1⟩ := hbd
              have H1 : Hid (Sm w g b (M + 1) F (absTo R (fun i => F (a + i)) k) wr) := hin
              clear hin
              go_wp2
              go_region
              go_wp2
              go_roundw
              case rel => exact ⟨k + 1, by omega, by go_num, (H1.out.off (abs_row H1.out.2.2.1 (by rw [I_byte, I_shl, bx])) ((Only.refl _ _).setCell _ _)).more (Below.drew (Below.refl _ _))⟩
              case measure => simp [intOf]; omega
            · have hkd : decide ((k : Int) < 136) = false := by simp; omega
              have hk2 : k = 136 := by omega
              rw [hk2] at hin
              have H1 : Hid (Sm w g b (M + 1) F (absTo R (fun i => F (a + i)) 136) wr) := hin
              clear hin hk2
              go_wp2_with (first | (refine wpList_load_row rfl 23 _ rfl b rfl 23 _ (0, 0) _ (row_heap H1.out.2.2.1) Tryd.underlying23 rfl (info23v _) ?_) | (go_at_call 8; refine (rpermute_any _ _).mono ?_; rintro e w3 ⟨rfl, o1⟩) | (refine wpList_store_row rfl 23 _ _ rfl b _ rfl rfl 23 _ (row_heap (H1.out.more o1).2.2.1) (info23v _) (by simp) (one_lan _ _) ?_))
              go_roundw
              case rel =>
                refine ⟨r + 1, a + 136, by have := HA.out; omega, by omega, by go_num, ?_⟩
                have hs : stAfter F (r + 1) = permute RCs (absTo R (fun i => F (a + i)) 136) := by rw [HA.out, ← HR.out]; rfl
                rw [hs]
                exact (H1.out.more o1).off (heap_row (setRow_heap _ _ _ _ _ _ (row_heap (H1.out.more o1).2.2.1))) ((Only.refl _ _).setRow _)
              case measure => simp [intOf]; omega
        · have hd : decide ((a : Int) < (M : Int) + 1) = false := by have := HQ.out.1; have := HA.out; simp; omega
          have hrQ : r = Q := by omega
          rw [hrQ] at hin
          clear hrQ
          obtain ⟨S, hS⟩ : ∃ S, stAfter F Q = S := ⟨_, rfl⟩
          rw [hS] at hin HQ
          clear hS
          go_wp2
          rw [zero32']
          have h7 : (wr.alloc (.cells (vec 32 (byt fun _ => 0#8)) 29)).rowIs wr.heap.size 29 32 (byt (outTo S 0)) := (heap_row (heap_alloc_new _ _)).congr (fun i _ => by simp [byt, outTo])
          have hA := hin.more ((Below.refl _ _).alloc (Nat.le_refl _) (.cells (vec 32 (byt fun _ => 0#8)) 29))
          have hlb : b < wr.heap.size := hin.2.2.1.lt
          generalize wr.alloc (.cells (vec 32 (byt fun _ => 0#8)) 29) = W7 at h7 hA ⊢
          obtain ⟨b7, hb7⟩ : ∃ b7, wr.heap.size = b7 := ⟨_, rfl⟩
          rw [hb7] at h7 hlb ⊢
          have HB : Hid (Sm w g b (M + 1) F S W7 ∧ W7.rowIs b7 29 32 (byt (outTo S 0))) := ⟨hA, h7⟩
          clear h7 hA hb7 hin
          go_loopw [8] (fun i wv => ∃ k : Nat, k ≤ 32 ∧ i = .int .i64 (k : Int) ∧ Sm w g b (M + 1) F S wv ∧ wv.rowIs b7 29 32 (byt (outTo S k))) (fun i _ => 32 - (intOf i).toNat)
          case atStart => exact ⟨0, by omega, rfl, HB.out⟩
          case round =>
            obtain ⟨k, hk, rfl, hin, hrow⟩ := hrel
            clear HB
            by_cases hkl : k < 32
            · have c0 : wr.cell? ⟨b, k / 8, none⟩ = some (.int .u64 (I (S (k / 8)))) := hin.2.2.1.cell (by omega)
              obtain ⟨u, cu⟩ : ∃ u, wr.cell? ⟨b7, k, none⟩ = some u := ⟨_, hrow.cell hkl⟩
              have f0 : wr.frozen? ⟨b7, k, none⟩ = false := hrow.frozen _
              have H1 : Hid (Sm w g b (M + 1) F S wr ∧ wr.rowIs b7 29 32 (byt (outTo S k))) := ⟨hin, hrow⟩
              clear hin hrow
              go_wp2
              go_roundw
              case rel => exact ⟨k + 1, by omega, by go_num, H1.out.1.other hlb ((Only.refl _ _).setCell _ _), out_row hkl H1.out.2 (by rw [← out_val, IntKind.wrap_u8', Nat.mul_comm 8 (k % 8)])⟩
              case measure => simp [intOf]; omega
            · obtain rfl : k = 32 := by omega
              go_wp2_with (first | (refine wpList_load_row rfl 29 _ rfl b7 rfl 29 _ (0, 0) _ (row_heap hrow) Tryd.underlying29 rfl (info29v _) ?_) | (refine wpList_store_row rfl 29 _ _ rfl w.heap.size _ rfl rfl 29 _ (row_heap hin.1) (info29v _) (by simp) (one_byt _ _) ?_))
              refine bodyPost_ret (results_cell_row rfl _ _ _ _ _ _ _ rfl (setRow_heap _ _ _ _ _ _ (row_heap hin.1)) Tryd.underlying29 rfl (info29v _)) rfl ⟨?_, ?_⟩
              · rw [← HQ.out.2, vec_congr (g := byt (outb S)) (fun i hi => by simp only [byt, outTo]; rw [if_pos hi])]
              · exact ((Only.refl _ _).setRow _).below hin.2.2.2.1 (Nat.le_refl _)
end Go.Proofs.YtmhfgchckebnpaaDoor
