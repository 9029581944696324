/- KB, KC, KD -/
import Derived.Test.YtconkienlcegaaaGreatDoorGKA
import Derived.Test.YtconkienlcegaaaGreatDoorGWN0
namespace Go.Proofs.YtconkienlcegaaaGreatDoor
open Go.RowKit Go.Maps Go.Joins
set_option linter.unusedSimpArgs false
set_option linter.unusedVariables false
theorem load90 {w : World} {b : Nat} {x y z : Value} (h : w.heap[b]? = some (.cells #[x, y, z] 90)) : (loadVar 90 ⟨b, 0, none⟩).run Tryz.prog w = .ok (.agg #[x, y, z]) w :=
 run_loadVar_row w b 90 90 #[x, y, z] (0, 0) _ h Tryz.underlying90 rfl (by kernel_rfl)
theorem kset {w : World} {b : Nat} {x y z x' y' z' : Value} (h : w.heap[b]? = some (.cells #[x, y, z] 90)) : (((w.setCell ⟨b, 0, none⟩ x').setCell ⟨b, 1, none⟩ y').setCell ⟨b, 2, none⟩ z').heap[b]? = some (.cells #[x', y', z'] 90) :=
 heap_setCell_same _ b 2 _ 90 z' (heap_setCell_same _ b 1 _ 90 y' (heap_setCell_same _ b 0 _ 90 x' h))
theorem kset_below {w0 w : World} {B b : Nat} (h : Below B w0 w) (hb : B ≤ b) (x' y' z' : Value) : Below B w0 (((w.setCell ⟨b, 0, none⟩ x').setCell ⟨b, 1, none⟩ y').setCell ⟨b, 2, none⟩ z') :=
 ((h.setCell (p := ⟨b, 0, none⟩) hb _).setCell (p := ⟨b, 1, none⟩) hb _).setCell (p := ⟨b, 2, none⟩) hb _
theorem res98 (w3 : World) (b : Nat) (x y z n c : Value) (tmps : Array Value) (h : w3.heap[b]? = some (.cells #[x, y, z] 90)) (h4 : tmps[2]? = some (.pointer (some ⟨b, 0, none⟩))) (h5 : tmps[3]? = some n) (h6 : tmps[4]? = some c) :
 (results Tryz.f98 tmps).run Tryz.prog w3 = .ok (.tuple #[.agg #[x, y, z], n, c]) w3 := by
 have hl := load90 h; simp [results, Tryz.results98, asAddr, h4, h5, h6, hl]
/-- What next tells. -/
def KnR (w : World) (r : Option (Ch × Nat)) (e : Ending) : Prop :=
 match r with
 | none => e = .returned (.tuple #[.agg #[.slice none 0 0, .slice none 0 0, .bool false], .int .i64 0, .int .i64 34])
 | some (c, n) => ∃ vk vv, e = .returned (.tuple #[.agg #[vk, vv, .bool c.gone], .int .i64 (n : Nat), .int .i64 0]) ∧ BytesV w vk c.key ∧ BytesV w vv c.val
theorem BytesV.empty' (w : World) (a : Option Addr) (c : Nat) (h : a = none → c = 0) : BytesV w (.slice a 0 c) [] := by
 cases a with
 | none => rw [h rfl]; exact Or.inl ⟨rfl, rfl⟩
 | some ad => exact Or.inr ⟨ad, c, rfl, fun j u hu => by simp [vB] at hu⟩
/-- A part of the bytes, as a slice expression makes it. -/
theorem BytesV.cutLH {w : World} {g o cap : Nat} {bs : List Int} (h : BytesV w (.slice (some ⟨g, o, none⟩) bs.length cap) bs) (i l : Nat) (hl : i + l ≤ bs.length) (hc : bs.length ≤ cap) : BytesV w (.slice (some ⟨g, if cap = i then o else o + i, none⟩) l (cap - i)) ((bs.drop i).take l) := by
 by_cases h0 : l = 0
 · subst h0
   rw [List.take_zero]; exact BytesV.empty' _ _ _ (fun h => by cases h)
 · rw [if_neg (by omega)]
   exact h.part i l _ hl
set_option maxRecDepth 100000 in
set_option maxHeartbeats 8000000 in
/-- kv.next -/
theorem knext_any {w : World} {g o cap : Nat} {bs : List Int} (h : BytesV w (.slice (some ⟨g, o, none⟩) bs.length cap) bs) (hb : KByt bs) (hc : bs.length ≤ cap) (hm : cap ≤ 9223372036854775807) (hl : bs.length ≤ 140737488355328) :
 Calls Tryz.prog 98 #[.slice (some ⟨g, o, none⟩) bs.length cap] w fun e w' => Below w.heap.size w w' ∧ KnR w (nxC bs) e := by
 obtain ⟨R, hR⟩ : ∃ R, R = nxC bs := ⟨_, rfl⟩
 rw [← hR]; have hb0 : Below w.heap.size w (w.alloc (.cells #[.slice none 0 0, .slice none 0 0, .bool false] 90)) := by go_grown
 have HB : Hid (Below w.heap.size w (w.alloc (.cells #[.slice none 0 0, .slice none 0 0, .bool false] 90)) ∧ (w.alloc (.cells #[.slice none 0 0, .slice none 0 0, .bool false] 90)).heap[w.heap.size]? = some (.cells #[.slice none 0 0, .slice none 0 0, .bool false] 90)) := ⟨hb0, heap_alloc_new _ _⟩
 clear hb0; unfold nxC at hR; obtain ⟨N, hN⟩ : ∃ N, N = bs.length := ⟨_, rfl⟩
 by_cases g1 : bs.length < 2
 · rw [if_pos g1] at hR
   have HR : Hid (R = none) := hR; have gi : (N : Int) < 2 := by omega
   rw [← hN]; rw [← hN] at hc hl; clear hR g1 h hN; go_enter Tryz.func98, Tryz.ntmps98; go_wp2; refine ⟨rfl, _, res98 _ _ _ _ _ _ _ _ HB.out.2 rfl rfl rfl, HB.out.1, ?_⟩; rw [HR.out]; rfl
 rw [if_neg g1] at hR; have gi : ¬ (N : Int) < 2 := by omega
 obtain ⟨s, hs⟩ : ∃ s, s = kNum (bs.take 2) := ⟨_, rfl⟩
 have hC2 : ∀ V : World, Below w.heap.size w V → Calls Tryz.prog 125 #[.slice (some ⟨g, o, none⟩) 2 cap] V fun e w' => e = .returned (.int .u64 (s : Int)) ∧ w' = V := fun V hV => by
  have h9 := (h.below hV).part 0 2 cap (by omega); rw [List.drop_zero, Nat.add_zero] at h9; have hl2 : (bs.take 2).length = 2 := by rw [List.length_take]; omega
  have := knum_any (a := some ⟨g, o, none⟩) (cap := cap) (bs := bs.take 2) (by rw [hl2]; exact h9) (hb.take 2) (by omega); rw [hl2, ← hs] at this; exact this
 have hsl2 : ∀ V : World, (Instr.slice 23 (.slice (some ⟨g, o, none⟩) N cap) none (some (.int .i64 2)) none).run Tryz.prog V = .ok (.slice (some ⟨g, o, none⟩) 2 cap) V := fun V => slH V g o N cap 2 2 rfl (by omega) (by omega)
 have hs64 : s < 65536 := by
  have := kNum_lt (bs.take 2) (hb.take 2); rw [List.length_take, show min 2 bs.length = 2 from by omega] at this; omega
 rw [← hs] at hR; have HC2 : Hid _ := hC2; rw [← hN]; rw [← hN] at hc hl; have T1 : Hid True := trivial; have HS : Hid (BytesV w (.slice (some ⟨g, o, none⟩) bs.length cap) bs ∧ KByt bs ∧ N = bs.length) := ⟨h, hb, hN⟩
 clear hC2 h hb; by_cases g2 : s < 1 ∨ 64 < s
 · rw [if_pos g2] at hR
   have HR : Hid (R = none) := hR; clear hR g1 hN HS; have T2 : Hid True := trivial; by_cases g3 : s < 1
   · have gs : (s : Int) < 1 := by omega
     clear g2 hs; go_enter Tryz.func98, Tryz.ntmps98; go_wp2_with (first
      | (have _ := T1
         go_at_call 125
         clear T1; refine Calls.mono (HC2.out _ HB.out.1) ?_; rintro e w1 ⟨rfl, rfl⟩))
     refine ⟨rfl, _, res98 _ _ _ _ _ _ _ _ HB.out.2 rfl rfl rfl, HB.out.1, ?_⟩; rw [HR.out]; rfl
   · have gs : ¬ (s : Int) < 1 := by omega
     have gs2 : (64 : Int) < s := by omega
     clear g2 hs; go_enter Tryz.func98, Tryz.ntmps98; go_wp2_with (first
      | (have _ := T1
         go_at_call 125
         clear T1; refine Calls.mono (HC2.out _ HB.out.1) ?_; rintro e w1 ⟨rfl, rfl⟩))
     refine ⟨rfl, _, res98 _ _ _ _ _ _ _ _ HB.out.2 rfl rfl rfl, HB.out.1, ?_⟩; rw [HR.out]; rfl
 rw [if_neg g2] at hR; have gs : ¬ (s : Int) < 1 := by omega
 have gs2 : ¬ (64 : Int) < s := by omega
 have hws : IntKind.i64.wrap (s : Int) = s := by rw [IntKind.wrap_i64]; omega
 by_cases g3 : bs.length < 6 + s
 · rw [if_pos g3] at hR
   have HR : Hid (R = none) := hR; have g3i : (N : Int) - (2 + s) < 4 := by omega
   clear hR g1 hN HS g2 hs g3; go_enter Tryz.func98, Tryz.ntmps98; go_wp2_with (first
    | (have _ := T1
       go_at_call 125
       clear T1; refine Calls.mono (HC2.out _ HB.out.1) ?_; rintro e w1 ⟨rfl, rfl⟩))
   refine ⟨rfl, _, res98 _ _ _ _ _ _ _ _ HB.out.2 rfl rfl rfl, HB.out.1, ?_⟩; rw [HR.out]; rfl
 rw [if_neg g3] at hR; have g3i : ¬ (N : Int) - (2 + s) < 4 := by omega
 obtain ⟨t, ht⟩ : ∃ t, t = kNum ((bs.drop (2 + s)).take 4) := ⟨_, rfl⟩
 rw [← ht] at hR; have hl4 : ((bs.drop (2 + s)).take 4).length = 4 := by rw [List.length_take, List.length_drop]; omega
 have ht64 : t < 4294967296 := by
  have := kNum_lt ((bs.drop (2 + s)).take 4) ((HS.out.2.1.drop _).take 4); rw [hl4, ← ht] at this; omega
 have hC4 : ∀ V : World, Below w.heap.size w V → Calls Tryz.prog 125 #[.slice (some ⟨g, o + (2 + s), none⟩) 4 (cap - (2 + s))] V fun e w' => e = .returned (.int .u64 (t : Int)) ∧ w' = V := fun V hV => by
  have h9 := (HS.out.1.below hV).part (2 + s) 4 (cap - (2 + s)) (by omega); have := knum_any (a := some ⟨g, o + (2 + s), none⟩) (cap := cap - (2 + s)) (bs := (bs.drop (2 + s)).take 4) (by rw [hl4]; exact h9) ((HS.out.2.1.drop _).take 4) (by omega); rw [hl4, ← ht] at this; exact this
 have hslK : ∀ V : World, (Instr.slice 23 (.slice (some ⟨g, o, none⟩) N cap) (some (.int .i64 2)) (some (.int .i64 (2 + (s : Int)))) none).run Tryz.prog V = .ok (.slice (some ⟨g, o + 2, none⟩) s (cap - 2)) V := fun V => by
  rw [slLH V g o N cap 2 (2 + s) 2 (2 + (s : Int)) rfl (by omega) (by omega) (by omega), if_neg (by omega), show 2 + s - 2 = s from by omega]
 have hsl4 : ∀ V : World, (Instr.slice 23 (.slice (some ⟨g, o, none⟩) N cap) (some (.int .i64 (2 + (s : Int)))) (some (.int .i64 (2 + (s : Int) + 4))) none).run Tryz.prog V = .ok (.slice (some ⟨g, o + (2 + s), none⟩) 4 (cap - (2 + s))) V := fun V => by
  rw [slLH V g o N cap (2 + s) (6 + s) (2 + (s : Int)) (2 + (s : Int) + 4) (by omega) (by omega) (by omega) (by omega), if_neg (by omega), show 6 + s - (2 + s) = 4 from by omega]
 have hkl : ((bs.drop 2).take s).length = s := by rw [List.length_take, List.length_drop]; omega
 have hkv : BytesV w (.slice (some ⟨g, o + 2, none⟩) s (cap - 2)) ((bs.drop 2).take s) := HS.out.1.part 2 s _ (by omega); have HKV : Hid (BytesV w (.slice (some ⟨g, o + 2, none⟩) s (cap - 2)) ((bs.drop 2).take s)) := hkv; have HC4 : Hid _ := hC4; have HD : Hid (∀ m, Below w.heap.size w ((w.alloc (.cells #[.slice none 0 0, .slice none 0 0, .bool false] 90)).drewN m) ∧ ((w.alloc (.cells #[.slice none 0 0, .slice none 0 0, .bool false] 90)).drewN m).heap[w.heap.size]? = some (.cells #[.slice none 0 0, .slice none 0 0, .bool false] 90)) := fun m => ⟨bd2 HB.out.1 m, HB.out.2⟩
 clear hC4 hkv hkl hl4; by_cases g4 : t = 4294967295
 · rw [if_pos g4] at hR
   have HR : Hid (R = some (⟨(bs.drop 2).take s, [], true⟩, 6 + s)) := hR; have g4i : ((t : Int) == 4294967295) = true := by rw [g4]; rfl
   clear hR g1 hN g2 hs g3 ht g4; go_enter Tryz.func98, Tryz.ntmps98; go_wp2_with (first
    | (have _ := T1
       go_at_call 125
       clear T1; refine Calls.mono (HC2.out _ HB.out.1) ?_; rintro e w1 ⟨rfl, rfl⟩))
   go_quiet (first
    | (go_at_call 125; refine Calls.quiet_of_same (HC4.out _ ?_); exact bd2 HB.out.1 _))
   go_wp2; refine ⟨rfl, _, res98 _ _ _ _ _ _ _ _ (kset (HD.out _).2) rfl rfl rfl, kset_below (HD.out _).1 (Nat.le_refl _) _ _ _, ?_⟩
   rw [HR.out]; refine ⟨_, _, ?_, HKV.out, Or.inl ⟨rfl, rfl⟩⟩; rw [show ((6 + s : Nat) : Int) = 2 + (s : Int) + 4 from by omega]; rfl
 rw [if_neg g4] at hR; have g4i : ((t : Int) == 4294967295) = false := by simp; omega
 have hw5 : IntKind.u64.wrap ((N : Int) - (2 + (s : Int) + 4)) = (N : Int) - (2 + (s : Int) + 4) := by rw [IntKind.wrap_u64]; omega
 have hwt : IntKind.i64.wrap (t : Int) = t := by rw [IntKind.wrap_i64]; omega
 by_cases g5 : bs.length - (6 + s) < t
 · rw [if_pos g5] at hR
   have HR : Hid (R = none) := hR; have g5i : (N : Int) - (2 + (s : Int) + 4) < t := by omega
   clear hR g1 hN g2 hs g3 ht g4 g5; go_enter Tryz.func98, Tryz.ntmps98; go_wp2_with (first
    | (have _ := T1
       go_at_call 125
       clear T1; refine Calls.mono (HC2.out _ HB.out.1) ?_; rintro e w1 ⟨rfl, rfl⟩))
   go_quiet (first
    | (go_at_call 125; refine Calls.quiet_of_same (HC4.out _ ?_); exact bd2 HB.out.1 _))
   go_wp2; refine ⟨rfl, _, res98 _ _ _ _ _ _ _ _ (kset (HD.out _).2) rfl rfl rfl, kset_below (HD.out _).1 (Nat.le_refl _) _ _ _, ?_⟩
   rw [HR.out]; rfl
 · rw [if_neg g5] at hR
   have HR : Hid (R = some (⟨(bs.drop 2).take s, (bs.drop (6 + s)).take t, false⟩, 6 + s + t)) := hR; have g5i : ¬ (N : Int) - (2 + (s : Int) + 4) < t := by omega
   have hslV : ∀ V : World, (Instr.slice 23 (.slice (some ⟨g, o, none⟩) N cap) (some (.int .i64 (2 + (s : Int) + 4))) (some (.int .i64 (2 + (s : Int) + 4 + (t : Int)))) none).run Tryz.prog V = .ok (.slice (some ⟨g, if cap = 6 + s then o else o + (6 + s), none⟩) t (cap - (6 + s))) V := fun V => by
    rw [slLH V g o N cap (6 + s) (6 + s + t) (2 + (s : Int) + 4) (2 + (s : Int) + 4 + (t : Int)) (by omega) (by omega) (by omega) (by omega), show 6 + s + t - (6 + s) = t from by omega]
   have HVV : Hid (BytesV w (.slice (some ⟨g, if cap = 6 + s then o else o + (6 + s), none⟩) t (cap - (6 + s))) ((bs.drop (6 + s)).take t)) := HS.out.1.cutLH (6 + s) t (by omega) (by omega); generalize (if cap = 6 + s then o else o + (6 + s)) = o2 at hslV HVV; have hNt : 6 + s + t ≤ N := by omega
   clear hR g1 hN g2 hs g3 ht g4 g5; go_enter Tryz.func98, Tryz.ntmps98; go_wp2_with (first
    | (have _ := T1
       go_at_call 125
       clear T1; refine Calls.mono (HC2.out _ HB.out.1) ?_; rintro e w1 ⟨rfl, rfl⟩))
   go_quiet (first
    | (go_at_call 125; refine Calls.quiet_of_same (HC4.out _ ?_); exact bd2 HB.out.1 _))
   go_wp2; refine ⟨rfl, _, res98 _ _ _ _ _ _ _ _ (kset (HD.out _).2) rfl rfl rfl, kset_below (HD.out _).1 (Nat.le_refl _) _ _ _, ?_⟩
   rw [HR.out]; refine ⟨_, _, ?_, HKV.out, HVV.out⟩; rw [show ((6 + s + t : Nat) : Int) = 2 + (s : Int) + 4 + (t : Int) from by omega]; rfl
end Go.Proofs.YtconkienlcegaaaGreatDoor
namespace Go.Proofs.YtconkienlcegaaaGreatDoor
open Go.RowKit Go.Shelf
set_option linter.unusedSimpArgs false
set_option linter.unusedVariables false
/-- What the body makes of what comes next. -/
def KY (m l : Nat) (r : Option (Ch × Nat)) (k : Nat) (W W2 : World) (J : Nat → World → Prop) (X' : World → Prop) : Prop :=
 match r with
 | none => YieldAt Fence.wide m Tryz.prog l #[.agg #[.slice none 0 0, .slice none 0 0, .bool false], .int .i64 34] W2 fun e W' => (∃ q, e = .returned (.bool q)) ∧ X' W'
 | some (c, n) => ∀ vk vv, BytesV W vk c.key → BytesV W vv c.val → YieldAt Fence.wide m Tryz.prog l #[.agg #[vk, vv, .bool c.gone], .int .i64 0] W2 fun e W' => (e = .returned (.bool true) ∧ J (k + n) W') ∨ (e = .returned (.bool false) ∧ X' W')
theorem BytesV.form' {w : World} {v : Value} {bs : List Int} (h : BytesV w v bs) : ∃ a c, v = .slice a bs.length c := by
 rcases h with ⟨rfl, rfl⟩ | ⟨ad, c, rfl, _⟩
 · exact ⟨none, 0, rfl⟩
 · exact ⟨_, _, rfl⟩
set_option maxRecDepth 100000 in
set_option maxHeartbeats 4000000 in
/-- changes$1 -/
theorem changes1_in (m l X : Nat) (ba : Option Addr) (bc : Nat) (bs : List Int) (W0 : World) (J : Nat → World → Prop) (X' : World → Prop)
 (hX : W0.cell? ⟨X, 0, none⟩ = some (.slice ba bs.length bc)) (hc : bs.length ≤ bc) (hm : bc ≤ 9223372036854775807) (hl : bs.length ≤ 140737488355328) (hkb : KByt bs) (h0 : J 0 W0)
 (hJ : ∀ k W, J k W → BytesV W (.slice ba bs.length bc) bs)
 (hY : ∀ k W W2, k < bs.length → J k W → Below W.heap.size W W2 → KY m l (nxC (bs.drop k)) k W W2 J X') :
 CallsIn Fence.wide (m + 1) Tryz.prog 97 #[.func (.yield l) #[] #[], .pointer (some ⟨X, 0, none⟩)] W0 fun e W' => (∃ v, e = .returned v) ∧ (J bs.length W' ∨ X' W') := by
 refine callsIn_of_wp Tryz.func97 rfl trivial ?_ rfl; simp only [Tryz.ntmps97, List.size_toArray, List.length_cons, List.length_nil, Nat.reduceAdd, Nat.reduceSub, Array.replicate_succ, Array.replicate_zero, List.push_toArray, List.append_toArray, List.nil_append, List.cons_append]; have HY : Hid _ := hY; have HJ : Hid _ := hJ; have HKB : Hid (KByt bs) := hkb; have H0 : Hid (J 0 W0) := h0; clear hY hJ h0 hkb; obtain ⟨g0, o0, hba⟩ : ∃ g0 o0, 0 < bs.length → ba = some ⟨g0, o0, none⟩ := by
  by_cases hz : 0 < bs.length
  · obtain ⟨g, o, e, _⟩ := (HJ.out 0 W0 H0.out).at (k := 0) (List.getElem?_eq_getElem hz)
    exact ⟨g, o, fun _ => e⟩
  · exact ⟨0, 0, fun h => absurd h hz⟩
 have HBA : Hid (0 < bs.length → ba = some ⟨g0, o0, none⟩) := hba; clear hba; gi_wp2; gi_loopw [3] (fun v wr => ∃ (k : Nat) (a' : Option Addr), k ≤ bs.length ∧ v = .slice a' (bs.length - k) (bc - k) ∧ (k < bs.length → a' = some ⟨g0, o0 + k, none⟩) ∧ J k wr) (fun v _ => slenV v)
 case atStart => exact ⟨0, ba, Nat.zero_le _, rfl, HBA.out, H0.out⟩
 case round =>
  obtain ⟨k, a', hk, rfl, haa, hjk⟩ := hrel; have hdl : (bs.drop k).length = bs.length - k := by rw [List.length_drop]
  by_cases hlt : k < bs.length
  · obtain rfl := haa hlt
    have hbv : BytesV wr (.slice (some ⟨g0, o0 + k, none⟩) (bs.length - k) (bc - k)) (bs.drop k) := by
     have h1 := HJ.out k wr hjk; rw [HBA.out (by omega)] at h1; have h2 := h1.part k (bs.length - k) (bc - k) (by omega); rw [List.take_of_length_le (by omega)] at h2; exact h2
    have HK : Hid (J k wr) := hjk; have hnx := knext_any (w := wr) (g := g0) (o := o0 + k) (cap := bc - k) (bs := bs.drop k) (by rw [hdl]; exact hbv) (HKB.out.drop k) (by rw [hdl]; omega) (by omega) (by rw [hdl]; omega); rw [hdl] at hnx; have HN : Hid _ := hnx; have hln : (0 : Int) < ((bs.length - k : Nat) : Int) := by omega
    clear hjk hbv hnx haa; obtain ⟨N, hN⟩ : ∃ N, N = bs.length - k := ⟨_, rfl⟩
    rw [← hN] at hln HN ⊢; have HNN : Hid (N = bs.length - k) := hN; clear hN hdl; obtain ⟨R, hR⟩ : ∃ R, R = nxC (bs.drop k) := ⟨_, rfl⟩
    rw [← hR] at HN; have hY2 : ∀ W2, Below wr.heap.size wr W2 → KY m l R k wr W2 J X' := fun W2 hb => by rw [hR]; exact HY.out k wr W2 hlt HK.out hb
    have HRR : Hid (R = nxC (bs.drop k)) := hR; clear hR; have TK : Hid True := trivial; cases R with
    | none =>
      have HY2 : Hid (∀ W2, Below wr.heap.size wr W2 → YieldAt Fence.wide m Tryz.prog l #[.agg #[.slice none 0 0, .slice none 0 0, .bool false], .int .i64 34] W2 fun e W' => (∃ q, e = .returned (.bool q)) ∧ X' W') := hY2; clear hY2; gi_wp2_with (first
       | (have _ := TK
          refine ⟨trivial, ?_⟩; gi_at_call 98; clear TK; refine (callsIn_wide.2 HN.out).mono ?_; rintro e w2 ⟨hb2, he2⟩; obtain rfl : e = .returned (.tuple #[.agg #[.slice none 0 0, .slice none 0 0, .bool false], .int .i64 0, .int .i64 34]) := he2; obtain ⟨fn, tmps, assign, body, hy, hR⟩ := HY2.out (w2.alloc (.cells #[.slice none 0 0, .slice none 0 0, .bool false] 90)) (hb2.alloc hb2.size _); clear hb2))
      refine hR.mono ?_; rintro e W5 ⟨⟨q, rfl⟩, hx5⟩; clear hR hy; have HX5 : Hid (X' W5) := hx5; clear hx5; cases q
      · gi_wp2
        (try simp only [Exit.inBlock, Exit.then])
        refine bodyPost_ret (results_none rfl _ _ _) rfl ?_; exact ⟨⟨_, rfl⟩, Or.inr HX5.out⟩
      · gi_wp2
        (try simp only [Exit.inBlock, Exit.then])
        refine bodyPost_ret (results_none rfl _ _ _) rfl ?_; exact ⟨⟨_, rfl⟩, Or.inr HX5.out⟩
    | some q =>
      obtain ⟨c, n⟩ := q; have HY2 : Hid (∀ W2, Below wr.heap.size wr W2 → ∀ vk vv, BytesV wr vk c.key → BytesV wr vv c.val → YieldAt Fence.wide m Tryz.prog l #[.agg #[vk, vv, .bool c.gone], .int .i64 0] W2 fun e W' => (e = .returned (.bool true) ∧ J (k + n) W') ∨ (e = .returned (.bool false) ∧ X' W')) := hY2; clear hY2; obtain ⟨cg, hcg⟩ : ∃ cg, cg = c.gone := ⟨_, rfl⟩
      rw [← hcg] at HY2; have HCG : Hid (cg = c.gone) := hcg; clear hcg; gi_wp2_with (first
       | (have _ := TK
          refine ⟨trivial, ?_⟩; gi_at_call 98; clear TK; refine (callsIn_wide.2 HN.out).mono ?_; rintro e w2 ⟨hb2, vk, vv, rfl, hvk, hvv⟩; obtain ⟨ak, ck, rfl⟩ := hvk.form'; obtain ⟨av, cv, rfl⟩ := hvv.form'; obtain ⟨nk, hnk⟩ : ∃ nk, nk = c.key.length := ⟨_, rfl⟩
          obtain ⟨nv, hnv⟩ : ∃ nv, nv = c.val.length := ⟨_, rfl⟩
          rw [← hnk] at hvk; rw [← hnv] at hvv; rw [← HCG.out, ← hnk, ← hnv]; obtain ⟨fn, tmps, assign, body, hy, hR⟩ := HY2.out (w2.alloc (.cells #[.slice ak nk ck, .slice av nv cv, .bool cg] 90)) (hb2.alloc hb2.size _) _ _ hvk hvv; clear hb2 hvk hvv hnk hnv))
      refine hR.mono ?_; rintro e W5 (⟨rfl, hj5⟩ | ⟨rfl, hx5⟩)
      · have q := nxC_ok (HKB.out.drop k) HRR.out.symm
        have q2 := q.2.1; have q1 := q.2.2.1; rw [List.length_drop] at q2; have hsl := fun w' => slL2 w' g0 (o0 + k) N (bc - k) n n rfl (by rw [HNN.out]; exact q2)
        have H5 : Hid (J (k + n) W5 ∧ n ≤ bs.length - k ∧ 7 ≤ n) := ⟨hj5, q2, q1⟩
        clear hj5 q1 q2 q hR hy; gi_wp2; go_roundw
        case rel =>
         have hNN := HNN.out; have h5 := H5.out; refine ⟨k + n, some ⟨g0, if bc - k = n then o0 + k else o0 + k + n, none⟩, by omega, by rw [hNN, Nat.sub_sub, Nat.sub_sub], fun hkn => ?_, h5.1⟩; rw [if_neg (by omega), Nat.add_assoc]
        case measure => simp [slenV]; have := H5.out; have := HNN.out; omega
      · clear hR hy
        have HX5 : Hid (X' W5) := hx5; clear hx5; gi_wp2
        (try simp only [Exit.inBlock, Exit.then])
        refine bodyPost_ret (results_none rfl _ _ _) rfl ?_; exact ⟨⟨_, rfl⟩, Or.inr HX5.out⟩
  · obtain rfl : k = bs.length := by omega
    have HJ2 : Hid (J bs.length wr) := hjk; clear hjk haa hdl; rw [Nat.sub_self]; gi_wp2; go_end0; exact ⟨⟨_, rfl⟩, Or.inl HJ2.out⟩
/-- Bytes in blocks of which D is true. -/
structure KBD (w : World) (D : Nat → Prop) (v : Value) (bs : List Int) : Prop where
 is : BytesV w v bs
 d : ∀ b, dBlock v bs = some b → D b
 len : bs.length ≤ 140737488355328
theorem KBD.mono {w w' : World} {D D' : Nat → Prop} {v : Value} {bs : List Int} (h : KBD w D v bs) (hk : ∀ b, D b → w'.heap[b]? = w.heap[b]?) (hd : ∀ b, D b → D' b) : KBD w' D' v bs :=
 ⟨h.is.keep fun b hb => hk b (h.d b hb), fun b hb => hd b (h.d b hb), h.len⟩
inductive ChsV (w : World) (D : Nat → Prop) : Value → List Ch → Prop where
 | mk (l : List Ch) (a : Option Addr) (cap g o : Nat) (kk vv : Nat → Value) (hc : l.length ≤ cap) (hm : cap ≤ 9223372036854775807) (hl : l.length * 56 ≤ 140737488355328)
    (ha : 0 < l.length → a = some ⟨g, o, none⟩) (hd : 0 < l.length → D g)
    (h0 : ∀ i c, l[i]? = some c → w.cell? ⟨g, o + i * 3, none⟩ = some (kk i)) (h1 : ∀ i c, l[i]? = some c → w.cell? ⟨g, o + i * 3 + 1, none⟩ = some (vv i)) (h2 : ∀ i c, l[i]? = some c → w.cell? ⟨g, o + i * 3 + 2, none⟩ = some (.bool c.gone))
    (hk : ∀ i c, l[i]? = some c → KBD w D (kk i) c.key) (hv : ∀ i c, l[i]? = some c → KBD w D (vv i) c.val) : ChsV w D (.slice a l.length cap) l
theorem ChsV.mono {w w' : World} {D D' : Nat → Prop} {v : Value} {l : List Ch} (h : ChsV w D v l) (hk : ∀ b, D b → w'.heap[b]? = w.heap[b]?) (hd : ∀ b, D b → D' b) : ChsV w' D' v l := by
 cases h with
 | mk _ a cap g o kk vv hc hm hl ha hdd h0 h1 h2 hkk hvv =>
   have hp : ∀ i c, l[i]? = some c → 0 < l.length := fun i x hx => by have := (List.getElem?_eq_some_iff.1 hx).1; omega
   refine .mk l a cap g o kk vv hc hm hl ha (fun h => hd g (hdd h)) (fun i x hx => ?_) (fun i x hx => ?_) (fun i x hx => ?_) (fun i x hx => (hkk i x hx).mono hk hd) (fun i x hx => (hvv i x hx).mono hk hd)
   · rw [World.cell?_of_block (hk g (hdd (hp i x hx)))]; exact h0 i x hx
   · rw [World.cell?_of_block (hk g (hdd (hp i x hx)))]; exact h1 i x hx
   · rw [World.cell?_of_block (hk g (hdd (hp i x hx)))]; exact h2 i x hx
theorem ChsV.form {w : World} {D : Nat → Prop} {v : Value} {l : List Ch} (h : ChsV w D v l) : ∃ a cap, v = .slice a l.length cap ∧ l.length ≤ cap ∧ cap ≤ 9223372036854775807 ∧ l.length * 56 ≤ 140737488355328 := by
 cases h with
 | mk _ a cap g o kk vv hc hm hl => exact ⟨a, cap, rfl, hc, hm, hl⟩
theorem ChsV.bd {w : World} {D : Nat → Prop} {a : Option Addr} {n cap : Nat} {l : List Ch} (h : ChsV w D (.slice a n cap) l) : l.length ≤ cap ∧ cap ≤ 9223372036854775807 ∧ l.length * 56 ≤ 140737488355328 := by
 cases h with
 | mk _ _ _ g o kk vv hc hm hl => exact ⟨hc, hm, hl⟩
theorem ChsV.at {w : World} {D : Nat → Prop} {a : Option Addr} {n cap : Nat} {l : List Ch} (h : ChsV w D (.slice a n cap) l) {i : Nat} {c : Ch} (hx : l[i]? = some c) :
 ∃ g o vk vv, a = some ⟨g, o, none⟩ ∧ D g ∧ w.cell? ⟨g, o + i * 3, none⟩ = some vk ∧ w.cell? ⟨g, o + i * 3 + 1, none⟩ = some vv ∧ w.cell? ⟨g, o + i * 3 + 2, none⟩ = some (.bool c.gone) ∧ KBD w D vk c.key ∧ KBD w D vv c.val := by
 have hp : 0 < l.length := by have := (List.getElem?_eq_some_iff.1 hx).1; omega
 cases h with
 | mk _ _ _ g o kk vv hc hm hl ha hd h0 h1 h2 hk hv => exact ⟨g, o, kk i, vv i, ha hp, hd hp, h0 i c hx, h1 i c hx, h2 i c hx, hk i c hx, hv i c hx⟩
theorem ChsV.up {w w' : World} {v : Value} {l : List Ch} (h : ChsV w (fun b => b < w.heap.size) v l) (hb : Below w.heap.size w w') : ChsV w' (fun b => b < w'.heap.size) v l := h.mono (fun b hb' => hb.block b hb') (fun b hb' => Nat.lt_of_lt_of_le hb' hb.size)
set_option maxRecDepth 100000 in
set_option maxHeartbeats 4000000 in
/-- slices.Values$1 -/
theorem values1_in (m l X : Nat) (a : Option Addr) (cap : Nat) (cs : List Ch) (W0 : World) (J : Nat → World → Prop) (X' : World → Prop) (D : Nat → Prop)
 (hX : W0.cell? ⟨X, 0, none⟩ = some (.slice a cs.length cap)) (h0 : J 0 W0)
 (hJ : ∀ k W, J k W → ChsV W D (.slice a cs.length cap) cs)
 (hY : ∀ k W W2 c vk vv, cs[k]? = some c → J k W → Below W.heap.size W W2 → KBD W D vk c.key → KBD W D vv c.val → YieldAt Fence.wide m Tryz.prog l #[.agg #[vk, vv, .bool c.gone]] W2 fun e W' => (e = .returned (.bool true) ∧ J (k + 1) W') ∨ (e = .returned (.bool false) ∧ X' W')) :
 CallsIn Fence.wide (m + 1) Tryz.prog 96 #[.func (.yield l) #[] #[], .pointer (some ⟨X, 0, none⟩)] W0 fun e W' => (∃ v, e = .returned v) ∧ (J cs.length W' ∨ X' W') := by
 refine callsIn_of_wp Tryz.func96 rfl trivial ?_ rfl; simp only [Tryz.ntmps96, List.size_toArray, List.length_cons, List.length_nil, Nat.reduceAdd, Nat.reduceSub, Array.replicate_succ, Array.replicate_zero, List.push_toArray, List.append_toArray, List.nil_append, List.cons_append]; have HY : Hid _ := hY; have HJ : Hid _ := hJ; have H0 : Hid (J 0 W0) := h0; obtain ⟨i1, i2, i3⟩ := (hJ 0 W0 h0).bd; obtain ⟨N, hN⟩ : ∃ N, N = cs.length := ⟨_, rfl⟩
 rw [← hN] at hX i1 i3; have HN : Hid (N = cs.length) := hN; clear hY hJ h0 hN; gi_wp2; gi_loopw [7] (fun v wr => ∃ k : Nat, k ≤ N ∧ v = .int .i64 k ∧ J k wr) (fun v _ => N - (intOf v).toNat)
 case atStart => exact ⟨0, Nat.zero_le _, rfl, H0.out⟩
 case round =>
  obtain ⟨k, hk, rfl, hjk⟩ := hrel; have HK : Hid (J k wr) := hjk; clear hjk; by_cases hlt : k < N
  · obtain ⟨c, hc⟩ : ∃ c, cs[k]? = some c := ⟨_, List.getElem?_eq_getElem (by have := HN.out; omega)⟩
    obtain ⟨g, o, vk, vv, rfl, hg, p0, p1, p2, hvk, hvv⟩ := (HJ.out k wr HK.out).at hc; obtain ⟨ak, ck, rfl⟩ := hvk.is.form'; obtain ⟨av, cv, rfl⟩ := hvv.is.form'; obtain ⟨nk, hnk⟩ : ∃ nk, nk = c.key.length := ⟨_, rfl⟩
    obtain ⟨nv, hnv⟩ : ∃ nv, nv = c.val.length := ⟨_, rfl⟩
    obtain ⟨cg, hcg⟩ : ∃ cg, cg = c.gone := ⟨_, rfl⟩
    rw [← hnk] at p0 hvk; rw [← hnv] at p1 hvv; rw [← hcg] at p2; have hbx : Below wr.heap.size wr (wr.alloc (.cells #[.slice ak nk ck, .slice av nv cv, .bool cg] 90)) := by go_grown
    obtain ⟨fn, tmps, assign, body, hy, hR⟩ := HY.out k wr (wr.alloc (.cells #[.slice ak nk ck, .slice av nv cv, .bool cg] 90)) c _ _ hc HK.out hbx hvk hvv; rw [← hcg] at hy; have hki : (k : Int) < N := by omega
    clear hc hvk hvv hnk hnv hcg hbx; gi_wp2; refine hR.mono ?_; rintro e W5 (⟨rfl, hj5⟩ | ⟨rfl, hx5⟩)
    · have H5 : Hid (J (k + 1) W5) := hj5
      clear hj5 hR hy; gi_wp2; go_roundw
      case rel => exact ⟨k + 1, by omega, by go_num, H5.out⟩
      case measure => simp [intOf]; omega
    · have HX5 : Hid (X' W5) := hx5
      clear hx5 hR hy; gi_wp2
      (try simp only [Exit.inBlock, Exit.then])
      refine bodyPost_ret (results_none rfl _ _ _) rfl ?_; exact ⟨⟨_, rfl⟩, Or.inr HX5.out⟩
  · obtain rfl : k = N := by omega
    have hki : ¬ (k : Int) < k := by omega
    have HJ2 : Hid (J cs.length wr) := by rw [← HN.out]; exact HK.out
    clear HK; gi_wp2; go_end0; exact ⟨⟨_, rfl⟩, Or.inl HJ2.out⟩
end Go.Proofs.YtconkienlcegaaaGreatDoor
