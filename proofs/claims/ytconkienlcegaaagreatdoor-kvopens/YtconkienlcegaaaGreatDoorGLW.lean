/- LJ, LW -/
import Derived.Test.YtconkienlcegaaaGreatDoorGShelfS
import Derived.Maps.RangeWalk
import Derived.Sort.KeysCollected
import Derived.Sort.OwnSorted
import Derived.Maps.AppendAt
import Derived.Test.YtconkienlcegaaaGreatDoorGKW
import Derived.Laws.IdiomStrings
namespace Go.Proofs.YtconkienlcegaaaGreatDoor
open Go.RowKit Go.Maps Go.Joins Go.Shelf Go.Sort
set_option linter.unusedSimpArgs false
set_option linter.unusedVariables false
def inR (s1 s2 : List UInt8) (k : List UInt8) : Bool := !bytesBefore k s1 && (bytesBefore k s2 || s2 == [])
theorem strKeys_toDk (m : List (List UInt8 × Value × List Int)) : strKeys (toDk m) = m.map (·.1) := by
 unfold toDk strKeys; induction m with
 | nil => rfl
 | cons p r ih => simp [toEk, strOf]
set_option maxRecDepth 100000 in
set_option maxHeartbeats 4000000 in
theorem between_any {w : World} {D : Nat → Prop} {b bl bm : Nat} {br : Bool} {m : List (List UInt8 × Value × List Int)} (h : KS w D b bl br bm m) (hs : SrtG m) (hm : m.length ≤ 2000000000000) (s1 s2 : List UInt8) :
 Calls Tryz.prog 88 #[.pointer (some ⟨b, 0, none⟩), .string ⟨s1.toArray⟩, .string ⟨s2.toArray⟩] w fun e w' => ∃ v, e = .returned v ∧ w'.ownsRow w.heap.size 9 1 v ((m.map (·.1)).filter (inR s1 s2)).length (((m.map (·.1)).filter (inR s1 s2)).map encStr) ∧ Below w.heap.size w w' := by
 have c1 : w.cell? ⟨b, 1, none⟩ = some (.map (some bm)) := (cell_of_block h.st 1).trans rfl; have hown := h.mp; have hbl := hown.lt; have hmx : Maps.size (toDk m) ≤ 2000000000000 := by rw [size_toDk]; exact hm
 obtain ⟨i0, hi, hz0, hz1, hz2⟩ := info_parts info9b; have HO : Hid (w.ownsMap Tryz.prog 9 Rv bm m.length (toDk m) ∧ SrtG m) := ⟨hown, hs⟩
 clear h hs; go_enter Tryz.func88, Tryz.ntmps88; go_wp2_with (first
  | (at_range; refine wpList_range_own _ rfl _ 94 rfl 9 23 law9 Tryz.underlying94 _ bm m.length _ rfl HO.out.1 ?_; intro w0 hrg0 hg0 hs0)
  | go_in)
 go_frame; clear c1
 go_loopw [7] (fun v wr => ∃ (left : Lit → Bool) (cnt : Nat) (ss : List (List UInt8)), wr.ranges Tryz.prog 9 Rv bm w.heap.size m.length (toDk m) left cnt ∧ ss.length + cnt ≤ Maps.size (toDk m) ∧
  wr.ownsRow w.heap.size 9 1 v (ss.filter (inR s1 s2)).length ((ss.filter (inR s1 s2)).map encStr) ∧ Collected (toDk m) left ss ∧ Below w.heap.size w wr)
  (fun _ wr => wr.rangeLeft bm w.heap.size)
 case atStart =>
  exact ⟨_, _, [], hrg0, by simp, World.ownsRow_nil _ _ _ _, Collected.start (toDk m), (Below.refl _ _).grown hg0 (Nat.le_refl _) (fun j hj => by cases hj)⟩
 case round =>
  obtain ⟨left, cnt, ss, hrg, hcs, hrow, hC, hnx⟩ := hrel; go_wp2_with (first
   | (at_next; refine wpList_next_ranges _ rfl _ rfl 9 law9 Rv encStr id (fun key kl hk => by obtain ⟨x, hx, _⟩ := Maps.keyOf_str Tryz.underlying9 hk; exact ⟨x, hx⟩) (fun v y hv => ⟨v, rfl⟩) bm w.heap.size m.length _ _ _ rfl hrg ?_ ?_)
   | go_in)
  · intro hc0 hl0
    have hp : (ss.filter (inR s1 s2)).Perm ((m.map (·.1)).filter (inR s1 s2)) := by
     have := hC.perm HO.out.1 law9 Tryz.underlying9 hl0; rw [strKeys_toDk] at this; exact this.filter _
    have hsr := keys_sorted HO.out.2 _ hp; have hln := hp.length_eq; have hsl : (ss.filter (inR s1 s2)).length ≤ 2000000000000 := by have := List.length_filter_le (inR s1 s2) ss; omega
    obtain ⟨rs, hrs⟩ : ∃ rs, rs = ss.filter (inR s1 s2) := ⟨_, rfl⟩
    rw [← hrs] at hrow hp hsr hln hsl; have HP : Hid (rs.mergeSort (fun x y => decide (x ≤ y)) = (m.map (·.1)).filter (inR s1 s2) ∧ rs.length = ((m.map (·.1)).filter (inR s1 s2)).length ∧ Below w.heap.size w wr) := ⟨hsr, hln, hnx⟩
    clear hrs hsr hln hp hC hcs hrg hnx hc0 hl0 hrg0 hg0 hs0 hmx hbl hown; rcases hrow.2 with ⟨rfl, h0⟩ | ⟨g, cap, cur, rfl, hbase, hb, h1, h2, h3, h4⟩
    · go_wp2_with (first
       | (go_at_call 119
          refine Calls.mono (Tryz.slices_Sort_string_none none 0 wr) ?_; rintro e w5 ⟨rfl, hw5⟩; obtain rfl := hw5.symm))
      go_ret; have hrs0 : rs = [] := List.eq_nil_of_length_eq_zero h0
      refine ⟨_, rfl, ?_, HP.out.2.2⟩; rw [← HP.out.1, hrs0]; show wr.ownsRow w.heap.size 9 1 (.slice none 0 0) _ _
      simpa using World.ownsRow_nil _ _ _ _
    · have hH : Holds encStr wr g 0 rs.toArray := holds_of_block hb (by simpa using h4)
      have hgl : g < wr.heap.size := (Array.getElem?_eq_some_iff.1 hb).1; have HC := Tryz.slices_Sort_string g 0 cap rs wr hH hgl (by omega); have HC' : Hid _ := HC; have HR : Hid (w.heap.size ≤ g ∧ wr.heap[g]? = some (.cells cur 9 (0, 0)) ∧ rs.length ≤ cap ∧ cap ≤ maxLen ∧ cur.size = cap * 1) := ⟨hbase, hb, h1, h2, h3⟩
      obtain ⟨n, hn⟩ : ∃ n, n = rs.length := ⟨_, rfl⟩
      rw [← hn] at HC' ⊢; have HN : Hid (n = rs.length) := hn; clear HC hrow hbase hb h1 h2 h3 h4 hH hgl hn; go_wp2_with (first
       | (go_at_call 119
          refine Calls.mono HC'.out ?_; rintro e w5 ⟨rfl, nn, os, rfl⟩))
      go_ret; refine ⟨_, rfl, ?_, HP.out.2.2.grown (grownBy_sorted _) HP.out.2.2.size (fun j hj => by cases hj; exact HR.out.1)⟩
      rw [← HP.out.1, HN.out, List.length_mergeSort]; exact ownsRow_sorted (by simp) HR.out.1 HR.out.2.1 HR.out.2.2.1 HR.out.2.2.2.1 HR.out.2.2.2.2
  · intro x c kl yd yp w2 cnt2 hkey hlk hv hat hrg2 hlt hg2 hs2 hen
    obtain ⟨x', ex, rfl, _⟩ := Maps.keyOf_str Tryz.underlying9 hkey; obtain rfl : x = x' := encStr_inj ex; obtain ⟨va, vc, hva⟩ := row_form hrow; subst hva; have hrow2 := hrow.kept hg2 (Or.inr (row_ne_iter hrow hrg).symm); obtain ⟨q, hq⟩ : ∃ q, q = (ss.filter (inR s1 s2)).length := ⟨_, rfl⟩
    have hql : q ≤ ss.length := by rw [hq]; exact List.length_filter_le _ _
    rw [← hq] at hrow2 ⊢; have HQ : Hid (q = (ss.filter (inR s1 s2)).length) := hq; have hb2 := hnx.grown hg2 hnx.size (fun j hj => by cases hj; exact Nat.le_refl _); have HX : Hid (Collected (toDk m) (fun z => left z && !z.sameKey (.string x)) (ss ++ [x]) ∧ w.heap.size ≤ w2.heap.size ∧ w2.ranges Tryz.prog 9 Rv bm w.heap.size m.length (toDk m) (fun z => left z && !z.sameKey (.string x)) cnt2 ∧ Below w.heap.size w w2 ∧ wr.ranges Tryz.prog 9 Rv bm w.heap.size m.length (toDk m) left cnt) := ⟨hC.step hlk hat, Nat.le_trans hnx.size hg2.size, hrg2, hb2, hrg⟩
    clear hs2 hq hrow hb2 hrg hrg2 hC hnx hrg0 hg0 hs0 hg2; cases b1 : Op.bytesLess x s1 with
    | true =>
      have b2 : True := trivial; have b3 : True := trivial; have HIN : Hid (inR s1 s2 x = false) := by
       show _ = _; unfold inR; rw [← less_before, ← less_before]; simp [b1, b2, b3]
      clear hat hkey hlk hv; go_wp2; go_roundw
      case rel =>
       refine ⟨_, cnt2, ss ++ [x], HX.out.2.2.1, by simp; omega, ?_, HX.out.1, HX.out.2.2.2.1⟩; rw [List.filter_append, show [x].filter (inR s1 s2) = [] from by simp [HIN.out], List.append_nil, ← HQ.out]; exact hrow2
      case measure => rw [HX.out.2.2.1.left_eq, HX.out.2.2.2.2.left_eq]; exact hlt
    | false =>
      cases b2 : Op.bytesLess x s2 with
      | true =>
        have b3 : True := trivial; have HIN : Hid (inR s1 s2 x = true) := by
         show _ = _; unfold inR; rw [← less_before, ← less_before]; simp [b1, b2]
        clear hat hkey hlk hv; go_wp2_with (first
         | (at_builtin
            refine wpList_append_own_at _ rfl _ _ 112 rfl w.heap.size 9 i0 (.string ByteArray.empty) 1 16 Tryz.underlying112 hi hz0 hz1 hz2 rfl (by decide) _ _ _ rfl (hrow2.alloc _) ⟨w2.heap.size, 0, none⟩ 1 1 [encStr x] rfl rfl (cell_one_new _ _ _) (by simp [Value.oneCell', encStr]) (by unfold maxLen; omega) (by omega) (by have := HX.out.2.1; simp; omega) ?_; intro v' w3 hown' hg3 hnil3 hat3; go_frame)
         | go_in)
        have hrg3 := (HX.out.2.2.1.alloc (.cells #[encStr x] 9)).kept hg3 (row_ne_low (hrow2.alloc (.cells #[encStr x] 9)) hbl) (row_ne_iter (hrow2.alloc (.cells #[encStr x] 9)) (HX.out.2.2.1.alloc (.cells #[encStr x] 9))); go_roundw
        case rel =>
         refine ⟨_, cnt2, ss ++ [x], hrg3, by simp; omega, ?_, HX.out.1, ?_⟩
         · rw [List.filter_append, show [x].filter (inR s1 s2) = [x] from by simp [HIN.out], List.length_append, List.map_append, ← HQ.out]
           exact hown'
         · exact (HX.out.2.2.2.1.alloc (by have := HX.out.2.1; omega) _).grown hg3 (by have := HX.out.2.1; simp; omega) (fun j hj => (hrow2.lt j hj).1)
        case measure => rw [hrg3.left_eq, HX.out.2.2.2.2.left_eq]; exact hlt
      | false =>
        cases s2 with
        | nil =>
          have b3 : True := trivial; have HIN : Hid (inR s1 [] x = true) := by
           show _ = _; unfold inR; rw [← less_before, ← less_before]; simp [b1, b2]
          clear hat hkey hlk hv; go_wp2_with (first
           | (at_builtin
              refine wpList_append_own_at _ rfl _ _ 112 rfl w.heap.size 9 i0 (.string ByteArray.empty) 1 16 Tryz.underlying112 hi hz0 hz1 hz2 rfl (by decide) _ _ _ rfl (hrow2.alloc _) ⟨w2.heap.size, 0, none⟩ 1 1 [encStr x] rfl rfl (cell_one_new _ _ _) (by simp [Value.oneCell', encStr]) (by unfold maxLen; omega) (by omega) (by have := HX.out.2.1; simp; omega) ?_; intro v' w3 hown' hg3 hnil3 hat3; go_frame)
           | go_in)
          have hrg3 := (HX.out.2.2.1.alloc (.cells #[encStr x] 9)).kept hg3 (row_ne_low (hrow2.alloc (.cells #[encStr x] 9)) hbl) (row_ne_iter (hrow2.alloc (.cells #[encStr x] 9)) (HX.out.2.2.1.alloc (.cells #[encStr x] 9))); go_roundw
          case rel =>
           refine ⟨_, cnt2, ss ++ [x], hrg3, by simp; omega, ?_, HX.out.1, ?_⟩
           · rw [List.filter_append, show [x].filter (inR s1 []) = [x] from by simp [HIN.out], List.length_append, List.map_append, ← HQ.out]
             exact hown'
           · exact (HX.out.2.2.2.1.alloc (by have := HX.out.2.1; omega) _).grown hg3 (by have := HX.out.2.1; simp; omega) (fun j hj => (hrow2.lt j hj).1)
          case measure => rw [hrg3.left_eq, HX.out.2.2.2.2.left_eq]; exact hlt
        | cons y2 r2 =>
          have b3 : True := trivial; have HIN : Hid (inR s1 (y2 :: r2) x = false) := by
           show _ = _; unfold inR; rw [← less_before, ← less_before]; simp [b1, b2, b3]
          clear hat hkey hlk hv; go_wp2; go_roundw
          case rel =>
           refine ⟨_, cnt2, ss ++ [x], HX.out.2.2.1, by simp; omega, ?_, HX.out.1, HX.out.2.2.2.1⟩; rw [List.filter_append, show [x].filter (inR s1 (y2 :: r2)) = [] from by simp [HIN.out], List.append_nil, ← HQ.out]; exact hrow2
          case measure => rw [HX.out.2.2.1.left_eq, HX.out.2.2.2.2.left_eq]; exact hlt
theorem conv_str (w : World) (key : List UInt8) : ∃ cap V, (convert 9 23 (.string ⟨key.toArray⟩)).run Tryz.prog w = .ok (.slice (some ⟨w.heap.size, 0, none⟩) key.length cap) V ∧ BytesV V (.slice (some ⟨w.heap.size, 0, none⟩) key.length cap) (kI key) ∧ Below w.heap.size w V ∧ V.heap.size = w.heap.size + 1 := by
 have hr := run_bytes_of_string (P := Tryz.prog) w 9 23 5 ⟨key.toArray⟩ Tryz.underlying9 Tryz.underlying23 Tryz.underlying5; have hs : (⟨key.toArray⟩ : ByteArray).size = key.length := by simp [ByteArray.size]
 rw [hs] at hr; refine ⟨_, _, hr, ?_, ?_, by simp⟩
 · refine Or.inr ⟨⟨w.heap.size, 0, none⟩, _, by rw [kI_len], fun j u hu => ?_⟩
   have hj : j < key.length := by
    have := (List.getElem?_eq_some_iff.1 hu).1
    simpa [vB, kI] using this
   rw [Addr.add_lit, Nat.zero_add]; have h1 := bytesRow_at ⟨key.toArray⟩ (grownCap w key.length 0 5) j (by simpa using hj); have h2 : u = .int .u8 ((key.toArray[j]'(by simpa using hj)).toNat : Int) := by
    have := (List.getElem?_eq_some_iff.1 hu).2; rw [← this]; simp [vB, kI]
   rw [h2, ← h1]; exact World.cell?_alloc_mark _ _ _ _ _
 · exact ⟨rfl, rfl, rfl, by simp, fun b hb => heap_alloc_old _ _ _ hb⟩
theorem klook2 {w : World} {bm n : Nat} {m : List (List UInt8 × Value × List Int)} (h : w.ownsMap Tryz.prog 9 Rv bm n (toDk m)) {key : List UInt8} (hl : key.length ≤ maxLen) (hok : ∀ p ∈ m, okS p.2.1 = true) :
 (Instr.lookup 94 (.map (some bm)) (.string ⟨key.toArray⟩) false).run Tryz.prog w = .ok (valK m key) w := by
 obtain ⟨v, ps, hrun, hv⟩ := h.lookup law9 Tryz.underlying94 (zero23 _) (zd := .nil) (zp := []) (show Rv (.slice none 0 0) = some (.nil, []) from by simp [Rv, okS, sv]) (WideMaps.keyOf_string_mk Tryz.underlying9 (s := ⟨key.toArray⟩) (by simpa [ByteArray.size] using hl)); rw [hrun]; rw [at_toDk] at hv; obtain ⟨h1, h2⟩ := Rv_inv hv
 replace h2 : (match lookG m key with | some g => sv g.1 | none => .nil) = sv v := congrArg Prod.fst h2
 have e : v = valK m key := by
  unfold valK; cases hq : lookG m key with
  | none =>
    rw [hq] at h2; exact sv_inj h1 rfl h2.symm
  | some p =>
    rw [hq] at h2; exact sv_inj h1 (hok _ (look_mem' hq)) h2.symm
 rw [e]
theorem look_srt {α : Type} : ∀ {m : List (List UInt8 × α)} {p : List UInt8 × α}, SrtG m → p ∈ m → lookG m p.1 = some p.2
 | [], p, _, h => by cases h
 | q :: r, p, hs, h => by
   unfold SrtG at hs; rw [List.pairwise_cons] at hs; unfold lookG; rw [List.find?_cons]; rcases List.mem_cons.1 h with rfl | h
   · simp
   · have hne : ¬ q.1 = p.1 := bef_ne (hs.1 p h)
     have : (q.1 == p.1) = false := by simpa using hne
     rw [this]; exact look_srt (m := r) hs.2 h
def rngL {α : Type} (m : List (List UInt8 × α)) (s1 s2 : List UInt8) : List (List UInt8 × α) := m.filter fun p => inR s1 s2 p.1
theorem rngL_keys {α : Type} (m : List (List UInt8 × α)) (s1 s2 : List UInt8) : (m.map (·.1)).filter (inR s1 s2) = (rngL m s1 s2).map (·.1) := by
 unfold rngL; rw [List.filter_map]; rfl
set_option maxRecDepth 100000 in
set_option maxHeartbeats 8000000 in
theorem rising1_in (n l X1 X2 X3 : Nat) (W0 : World) {D : Nat → Prop} {b bl bm : Nat} {br : Bool} {m : List (List UInt8 × Value × List Int)} {fa ta : Option Addr} {fc tc : Nat} {f t : List Int} (J : World → (Nat → Prop) → Nat → World → Prop) (X' : World → Prop)
 (hk : KS W0 D b bl br bm m) (hs : SrtG m) (hm : m.length ≤ 2000000000000)
 (hX1 : W0.cell? ⟨X1, 0, none⟩ = some (.pointer (some ⟨b, 0, none⟩))) (hX2 : W0.cell? ⟨X2, 0, none⟩ = some (.slice fa f.length fc)) (hX3 : W0.cell? ⟨X3, 0, none⟩ = some (.slice ta t.length tc))
 (hf : BytesV W0 (.slice fa f.length fc) f) (ht : BytesV W0 (.slice ta t.length tc) t)
 (hJ0 : ∀ W1 P, Below W0.heap.size W0 W1 → (∀ x, P x → W0.heap.size ≤ x ∧ x < W1.heap.size) → J W1 P 0 W1)
 (hJk : ∀ W1 P k W, J W1 P k W → KS W D b bl br bm m ∧ W.cell? ⟨X1, 0, none⟩ = some (.pointer (some ⟨b, 0, none⟩)) ∧ ∀ x, P x → W.heap[x]? = W1.heap[x]?)
 (hY : ∀ W1 P k W W2 kv vv p, (rngL m (kS f) (kS t))[k]? = some p → J W1 P k W → Below W.heap.size W W2 → BytesV W2 kv (kI p.1) → (∀ x, dBlock kv (kI p.1) = some x → W.heap.size ≤ x) → vv = p.2.1 → YieldAt Fence.wide n Tryz.prog l #[.agg #[kv, vv, .bool false]] W2 fun e W' => (e = .returned (.bool true) ∧ J W1 P (k + 1) W') ∨ (e = .returned (.bool false) ∧ X' W')) :
 CallsIn Fence.wide (n + 1) Tryz.prog 87 #[.func (.yield l) #[] #[], .pointer (some ⟨X1, 0, none⟩), .pointer (some ⟨X2, 0, none⟩), .pointer (some ⟨X3, 0, none⟩)] W0 fun e W' => (∃ v, e = .returned v) ∧ ((∃ W1 P, J W1 P (rngL m (kS f) (kS t)).length W') ∨ X' W') := by
 have hcf := kconv_b hf; have hct := kconv_b ht; have hbt := between_any hk hs hm (kS f) (kS t); have esf : (⟨(kS f).toArray⟩ : ByteArray) = strOfNums f := by unfold kS; simp
 have est : (⟨(kS t).toArray⟩ : ByteArray) = strOfNums t := by unfold kS; simp
 rw [esf, est, rngL_keys] at hbt; have hkl : ∀ p ∈ m, p.1.length ≤ maxLen := fun p hp => strKeys_le hk.mp Tryz.underlying9 p.1 (by rw [strKeys_toDk]; exact List.mem_map.2 ⟨p, hp, rfl⟩)
 have hsl : (rngL m (kS f) (kS t)).length ≤ 2000000000000 := Nat.le_trans (List.length_filter_le _ _) hm; have hin : ∀ p ∈ rngL m (kS f) (kS t), p ∈ m := fun p hp => (List.mem_filter.1 hp).1
 obtain ⟨sL, hsL⟩ : ∃ sL, sL = rngL m (kS f) (kS t) := ⟨_, rfl⟩
 rw [← hsL] at hbt hsl hin hY ⊢; obtain ⟨S1, hS1⟩ : ∃ S1, S1 = strOfNums f := ⟨_, rfl⟩
 obtain ⟨S2, hS2⟩ : ∃ S2, S2 = strOfNums t := ⟨_, rfl⟩
 rw [← hS1] at hbt hcf; rw [← hS2] at hbt hct; obtain ⟨N, hN⟩ : ∃ N, N = (sL.map (·.1)).length := ⟨_, rfl⟩
 have HN : Hid (N = sL.length) := by show N = _; rw [hN, List.length_map]
 have hNl : N ≤ 2000000000000 := by have := HN.out; omega
 rw [← hN] at hbt; have HB : Hid _ := hbt; have HY : Hid _ := hY; have HJ0 : Hid _ := hJ0; have HJK : Hid _ := hJk; have HM : Hid (SrtG m ∧ (∀ p ∈ m, p.1.length ≤ maxLen) ∧ ∀ p ∈ sL, p ∈ m) := ⟨hs, hkl, hin⟩
 clear hbt hY hJ0 hJk hs hkl hin hsL hS1 hS2 hN hk hf ht esf est hsl; refine callsIn_of_wp Tryz.func87 rfl trivial ?_ rfl; simp only [Tryz.ntmps87, List.size_toArray, List.length_cons, List.length_nil, Nat.reduceAdd, Nat.reduceSub, Array.replicate_succ, Array.replicate_zero, List.push_toArray, List.append_toArray, List.nil_append, List.cons_append]; have TK : Hid True := trivial; gi_wp2_with (first
  | (have _ := TK
     refine ⟨trivial, ?_⟩; gi_at_call 88; clear TK; refine (callsIn_wide.2 HB.out).mono ?_; rintro e W1 ⟨v1, rfl, hrow, hb1⟩; obtain ⟨a1, c1, hv1⟩ := row_form hrow; subst hv1; have HR : Hid (W1.ownsRow W0.heap.size 9 1 (.slice a1 N c1) N ((sL.map (·.1)).map encStr) ∧ J W1 (fun x => a1.map (·.block) = some x) 0 W1) := ⟨hrow, HJ0.out W1 _ hb1 (fun x hx => hrow.lt x (by
      cases a1 with
      | none => cases hx
      | some ad =>
        injection hx with hx
        subst hx; rfl))⟩
     clear hrow hb1 HB HJ0))
 clear hcf hct hX1 hX2 hX3; gi_loopw [14] (fun v wr => ∃ k : Nat, k ≤ N ∧ v = .int .i64 k ∧ J W1 (fun x => a1.map (·.block) = some x) k wr) (fun v _ => N - (intOf v).toNat)
 case atStart => exact ⟨0, Nat.zero_le _, rfl, HR.out.2⟩
 case round =>
  obtain ⟨k, hk, rfl, hjk⟩ := hrel; have HK : Hid (J W1 (fun x => a1.map (·.block) = some x) k wr) := hjk; obtain ⟨hks, hx1, hpr⟩ := HJK.out _ _ _ _ hjk; clear hjk; by_cases hlt : k < N
  · obtain ⟨p, hp⟩ : ∃ p, sL[k]? = some p := ⟨_, List.getElem?_eq_getElem (by have := HN.out; omega)⟩
    have hpm := HM.out.2.2 p (List.mem_of_getElem? hp); obtain ⟨g, ha1, hck⟩ : ∃ g, a1 = some ⟨g, 0, none⟩ ∧ wr.cell? ⟨g, k, none⟩ = some (.string ⟨p.1.toArray⟩) := by
     rcases HR.out.1.2 with ⟨e1, h0⟩ | ⟨g, cap, cur, e1, hbase, hbk, h1, h2, h3, h4⟩
     · omega
     · injection e1 with e1 _ _
       refine ⟨g, e1, ?_⟩; have hgw : wr.heap[g]? = W1.heap[g]? := hpr g (by rw [e1]; rfl); rw [World.cell?_of_block (a := ⟨g, k, none⟩) hgw]; have := HR.out.1.cells (g := g) (by rw [e1]; rfl) k (encStr p.1) (by rw [List.getElem?_map, List.getElem?_map, hp]; rfl); rw [Addr.add_lit, Nat.zero_add] at this; exact this
    subst ha1; have hki : (k : Int) < N := by omega
    obtain ⟨kc, V, hcv, hbv, hbV, hVs⟩ := conv_str wr p.1; have hlk := klook2 (key := p.1) (ownsMap_heap hks.mp (hbV.block _ hks.mp.lt)) (HM.out.2.1 p hpm) (fun q hq => (hks.vals q hq).1); have hvv : valK m p.1 = p.2.1 := by
     unfold valK; rw [look_srt HM.out.1 hpm]
    rw [hvv] at hlk; obtain ⟨av, cv, hav⟩ := (hks.vals p hpm).2.is.form'; have y1 : V.cell? ⟨X1, 0, none⟩ = some (.pointer (some ⟨b, 0, none⟩)) := (hbV.cell (p := ⟨X1, 0, none⟩) (cell_lt hx1)).trans hx1; have y2 : V.cell? ⟨b, 1, none⟩ = some (.map (some bm)) := (hbV.cell (p := ⟨b, 1, none⟩) (heap_lt hks.st)).trans ((cell_of_block hks.st 1).trans rfl); obtain ⟨fn, tmps, assign, body, hy, hR⟩ := HY.out W1 _ k wr V _ p.2.1 p hp HK.out hbV hbv (fun x hx => by have h9 : some wr.heap.size = some x := dBlock_own hx; injection h9 with h9; omega) rfl; rw [hav] at hlk hy; clear hp hpm hks hx1 hpr hbv hbV hVs hvv hav HK; gi_wp2; refine hR.mono ?_; rintro e W5 (⟨rfl, hj5⟩ | ⟨rfl, hx5⟩)
    · have H5 : Hid (J W1 (fun x => (some (⟨g, 0, none⟩ : Addr)).map (·.block) = some x) (k + 1) W5) := hj5
      clear hj5 hR hy hcv hlk y1 y2 hck; gi_wp2; go_roundw
      case rel => exact ⟨k + 1, by omega, by go_num, H5.out⟩
      case measure => simp [intOf]; omega
    · have HX5 : Hid (X' W5) := hx5
      clear hx5 hR hy hcv hlk y1 y2 hck; gi_wp2
      (try simp only [Exit.inBlock, Exit.then])
      refine bodyPost_ret (results_none rfl _ _ _) rfl ?_; exact ⟨⟨_, rfl⟩, Or.inr HX5.out⟩
  · obtain rfl : k = N := by omega
    have hki : ¬ (k : Int) < k := by omega
    have HJ2 : Hid (J W1 (fun x => a1.map (·.block) = some x) sL.length wr) := by rw [← HN.out]; exact HK.out
    clear HK hks hx1 hpr; gi_wp2; go_end0; exact ⟨⟨_, rfl⟩, Or.inl ⟨_, _, HJ2.out⟩⟩
end Go.Proofs.YtconkienlcegaaaGreatDoor
