/- LI, ShelfS, LJ, LW -/
import Derived.Test.YtconkienlcegaaaGreatDoorGLH
import Derived.Lib.Bytealg
import Derived.Lib.BytesEntry
import Derived.Shelf.Sort.Plain
import Derived.Shelf.Slices.In.SortNone
import Derived.Test.YtconkienlcegaaaGreatDoorProg
import Derived.Maps.RangeWalk
import Derived.Sort.KeysCollected
import Derived.Sort.OwnSorted
import Derived.Maps.AppendAt
import Derived.Test.YtconkienlcegaaaGreatDoorGKV
import Derived.Laws.IdiomStrings
namespace Go.Proofs.YtconkienlcegaaaGreatDoor
open Go.RowKit Go.Maps Go.Joins Go.Shelf
set_option linter.unusedSimpArgs false
set_option linter.unusedVariables false
theorem run_bytesOf {w : World} {v : Value} {xs : List Int} (h : BytesV w v xs) : (Extern.Bytes.bytesOf v).run Tryz.prog w = .ok (strOfNums xs) w := by
 rcases h with ⟨rfl, rfl⟩ | ⟨ad, c, rfl, hc⟩
 · simp [Extern.Bytes.bytesOf, go_sem, strOfNums]
   rfl
 · have hl := Lib.run_loadBytesX (P := Tryz.prog) w xs ad .empty (fun j x hj => hc j (.int .u8 x) (by simp [vB, hj]))
   have he : (⟨ByteArray.empty.data ++ (Lib.bytesOf xs).toArray⟩ : ByteArray) = strOfNums xs := by
    apply ByteArray.ext
    show (#[] : Array UInt8) ++ (Lib.bytesOf xs).toArray = (Lib.bytesOf xs).toArray; simp
   rw [he] at hl; simp only [Extern.Bytes.bytesOf, hl]
theorem run_cmp {w : World} {u v : Value} {xs ys : List Int} (hu : BytesV w u xs) (hv : BytesV w v ys) : (Extern.BytealgCompare.compare #[u, v]).run Tryz.prog w = .ok (.int .i64 (Lib.compareBytes (kS xs) (kS ys))) w := by
 change Sem.run Tryz.prog (do pure (goInt (Extern.BytealgCompare.cmp (← Extern.Bytes.bytesOf u) (← Extern.Bytes.bytesOf v)))) w = _
 simp only [Sem.run_bind, Sem.run_pure, run_bytesOf hu, run_bytesOf hv, Result.andThen]; rw [Lib.cmp_eq]; rfl
theorem cmp_pos : ∀ (a b : List UInt8), (decide (Lib.compareBytes a b ≤ 0)) = !bytesBefore b a
 | [], [] => by simp [Lib.compareBytes, bytesBefore]
 | [], _ :: _ => by simp [Lib.compareBytes, bytesBefore]
 | _ :: _, [] => by simp [Lib.compareBytes, bytesBefore]
 | x :: a, y :: b => by
   have ih := cmp_pos a b; unfold Lib.compareBytes bytesBefore; by_cases h1 : x < y
   · have h2 : ¬ y < x := UInt8.lt_asymm h1
     have h3 : ¬ y = x := fun e => by rw [e] at h1; exact UInt8.lt_irrefl _ h1
     simp [h1, h2, h3]
   · by_cases h2 : y < x
     · simp [h1, h2]
     · have h3 : y = x := UInt8.le_antisymm (UInt8.not_lt.1 h1) (UInt8.not_lt.1 h2)
       subst h3; simp [h1] at ih ⊢; exact ih
set_option maxRecDepth 100000 in
set_option maxHeartbeats 1000000 in
/-- bytes.Compare -/
theorem compare_any {w : World} {u v : Value} {xs ys : List Int} (hu : BytesV w u xs) (hv : BytesV w v ys) : Calls Tryz.prog 75 #[u, v] w fun e w' => e = .returned (.int .i64 (Lib.compareBytes (kS xs) (kS ys))) ∧ w' = w := by
 have H := run_cmp hu hv; obtain ⟨_, _, rfl⟩ := hu.form'; obtain ⟨_, _, rfl⟩ := hv.form'; clear hu hv; go_enter Tryz.func75, Tryz.ntmps75; go_wp2; rw [run_callFunc_extern Tryz.func111 (by kernel_rfl) (by kernel_rfl) (by kernel_rfl) (e := Extern.BytealgCompare.compare) (by kernel_rfl), H]; simp only [Result.andThen]; rw [Oper.upon_value]; go_wp2; go_ret; exact ⟨rfl, rfl⟩
theorem keys_sorted {α : Type} {m : List (List UInt8 × α)} (h : SrtG m) (f : List UInt8 → Bool) {ss : List (List UInt8)} (hp : ss.Perm ((m.map (·.1)).filter f)) : ss.mergeSort (fun x y => decide (x ≤ y)) = (m.map (·.1)).filter f := by
 have hs : ((m.map (·.1)).filter f).Pairwise (fun a b => decide (a ≤ b) = true) := by
  refine List.Pairwise.filter _ ?_; unfold SrtG at h; rw [List.pairwise_map]; exact h.imp fun {a b} h2 => by
   simp only [decide_eq_true_eq]; exact List.le_of_lt (before_lt _ _ h2)
 refine List.Perm.eq_of_pairwise (le := fun a b => decide (a ≤ b) = true) (fun a b _ _ h1 h2 => ?_) (List.pairwise_mergeSort (fun a b c h1 h2 => ?_) (fun a b => ?_) ss) hs ((List.mergeSort_perm ss _).trans hp)
 · simp only [decide_eq_true_eq] at h1 h2
   exact List.le_antisymm h1 h2
 · simp only [decide_eq_true_eq] at h1 h2 ⊢
   exact List.le_trans h1 h2
 · simp only [Bool.or_eq_true, decide_eq_true_eq]
   exact List.le_total a b
theorem srt_mk {m : List (List UInt8 × Value × List Int)} (h : SrtG (mk m)) : SrtG m := by
 unfold SrtG mk mapG at h; rw [List.pairwise_map] at h; exact h
end Go.Proofs.YtconkienlcegaaaGreatDoor
namespace Go.Proofs
open Go.Shelf
def Tryz.lays190_ren : Go.Shelf.Ren := ⟨fun | 190 => 119 | 125 => 130 | 258 => 136 | 128 => 154 | 129 => 155 | 302 => 157 | 303 => 158 | 304 => 159 | 305 => 160 | 306 => 161 | 307 => 162 | 308 => 163 | 309 => 164 | 310 => 165 | 333 => 176 | 329 => 171 | 330 => 172 | 334 => 177 | 335 => 178 | 336 => 179 | 344 => 187 | n => n, fun | 31 => 112 | 9 => 9 | 3 => 3 | 46 => 153 | 0 => 0 | 51 => 127 | 53 => 132 | 4 => 4 | 183 => 200 | 182 => 199 | 131 => 122 | 5 => 5 | 218 => 221 | 222 => 225 | 228 => 239 | 229 => 240 | n => n, fun | n => n⟩
theorem Tryz.lays190 : Go.Proofs.Lays.n190 Tryz.prog Tryz.lays190_ren := {
 mixed := by kernel_rfl
 f125 := Tryz.func130.trans (congrArg some (by kernel_rfl))
 f128 := Tryz.func154.trans (congrArg some (by kernel_rfl))
 f129 := Tryz.func155.trans (congrArg some (by kernel_rfl))
 f190 := Tryz.func119.trans (congrArg some (by kernel_rfl))
 f258 := Tryz.func136.trans (congrArg some (by kernel_rfl))
 f302 := Tryz.func157.trans (congrArg some (by kernel_rfl))
 f303 := Tryz.func158.trans (congrArg some (by kernel_rfl))
 f304 := Tryz.func159.trans (congrArg some (by kernel_rfl))
 f305 := Tryz.func160.trans (congrArg some (by kernel_rfl))
 f306 := Tryz.func161.trans (congrArg some (by kernel_rfl))
 f307 := Tryz.func162.trans (congrArg some (by kernel_rfl))
 f308 := Tryz.func163.trans (congrArg some (by kernel_rfl))
 f309 := Tryz.func164.trans (congrArg some (by kernel_rfl))
 f310 := Tryz.func165.trans (congrArg some (by kernel_rfl))
 f329 := Tryz.func171.trans (congrArg some (by kernel_rfl))
 f330 := Tryz.func172.trans (congrArg some (by kernel_rfl))
 f333 := Tryz.func176.trans (congrArg some (by kernel_rfl))
 f334 := Tryz.func177.trans (congrArg some (by kernel_rfl))
 f335 := Tryz.func178.trans (congrArg some (by kernel_rfl))
 f336 := Tryz.func179.trans (congrArg some (by kernel_rfl))
 f344 := Tryz.func187.trans (congrArg some (by kernel_rfl))
 t0 := Tryz.underlying0
 a0 := Tryz.isAgg0
 z0 := Tryz.sizeOf0
 v0 := Tryz.zeroValue0
 t3 := Tryz.underlying3
 a3 := Tryz.isAgg3
 z3 := Tryz.sizeOf3
 v3 := Tryz.zeroValue3
 t4 := Tryz.underlying4
 a4 := Tryz.isAgg4
 z4 := Tryz.sizeOf4
 v4 := Tryz.zeroValue4
 t5 := Tryz.underlying5
 a5 := Tryz.isAgg5
 z5 := Tryz.sizeOf5
 v5 := Tryz.zeroValue5
 t9 := Tryz.underlying9
 a9 := Tryz.isAgg9
 z9 := Tryz.sizeOf9
 v9 := Tryz.zeroValue9
 t31 := Tryz.underlying112
 a31 := Tryz.isAgg112
 z31 := Tryz.sizeOf112
 v31 := Tryz.zeroValue112
 t46 := Tryz.underlying153
 a46 := Tryz.isAgg153
 z46 := Tryz.sizeOf153
 v46 := Tryz.zeroValue153
 t51 := Tryz.underlying127
 a51 := Tryz.isAgg127
 z51 := Tryz.sizeOf127
 v51 := Tryz.zeroValue127
 t53 := Tryz.underlying132
 a53 := Tryz.isAgg132
 z53 := Tryz.sizeOf132
 v53 := Tryz.zeroValue132
 t131 := Tryz.underlying122
 a131 := Tryz.isAgg122
 z131 := Tryz.sizeOf122
 v131 := Tryz.zeroValue122
 t182 := Tryz.underlying199
 a182 := Tryz.isAgg199
 z182 := Tryz.sizeOf199
 v182 := Tryz.zeroValue199
 t183 := Tryz.underlying200
 a183 := Tryz.isAgg200
 z183 := Tryz.sizeOf200
 v183 := Tryz.zeroValue200
 t218 := Tryz.underlying221
 a218 := Tryz.isAgg221
 z218 := Tryz.sizeOf221
 v218 := Tryz.zeroValue221
 t222 := Tryz.underlying225
 a222 := Tryz.isAgg225
 z222 := Tryz.sizeOf225
 v222 := Tryz.zeroValue225
 t228 := Tryz.underlying239
 a228 := Tryz.isAgg239
 z228 := Tryz.sizeOf239
 v228 := Tryz.zeroValue239
 t229 := Tryz.underlying240
 a229 := Tryz.isAgg240
 z229 := Tryz.sizeOf240
 v229 := Tryz.zeroValue240 }
open Go.Sort Go.RowKit in
theorem Tryz.slices_Sort_string (blk off cap : Nat) (ss : List (List UInt8)) (w : World) (hH : Holds encStr w blk off ss.toArray) (hblk : blk < w.heap.size) (hsz : ss.length < 4611686018427387904) :
 Calls Tryz.prog 119 #[.slice (some ⟨blk, off, none⟩) ss.length cap] w fun e w' =>
  e = .returned (.tuple #[]) ∧ ∃ n os, w' = grow (putRow encStr (Sort.ahead w n) blk off (ss.mergeSort fun x y => decide (x ≤ y)).toArray) os := Any.slices_Sort_string Tryz.lays190 blk off cap ss w hH hblk hsz
open Go.RowKit Go.Sort in
/-- .. and plain. (LAID: no walk: one application.) -/
theorem Tryz.slices_Sort_string_none (p : Option Addr) (cap : Nat) (w : World) :
 Calls Tryz.prog 119 #[.slice p 0 cap] w fun e w' => e = .returned (.tuple #[]) ∧ w' = w := Any.slices_Sort_string_none Tryz.lays190 p cap w
end Go.Proofs
namespace Go.Proofs.YtconkienlcegaaaGreatDoor
open Go.RowKit Go.Maps Go.Joins Go.Shelf Go.Sort
set_option linter.unusedSimpArgs false
set_option linter.unusedVariables false
/-- Which keys a Range tells. -/
def inR (s1 s2 : List UInt8) (k : List UInt8) : Bool := !bytesBefore k s1 && (bytesBefore k s2 || s2 == [])
theorem strKeys_toDk (m : List (List UInt8 × Value × List Int)) : strKeys (toDk m) = m.map (·.1) := by
 unfold toDk strKeys; induction m with
 | nil => rfl
 | cons p r ih => simp [toEk, strOf]
set_option maxRecDepth 100000 in
set_option maxHeartbeats 4000000 in
/-- (*Store).between -/
theorem between_any {w : World} {D : Nat → Prop} {b bl bm : Nat} {br : Bool} {m : List (List UInt8 × Value × List Int)} (h : KS w D b bl br bm m) (hs : SrtG m) (hm : m.length ≤ 2000000000000) (s1 s2 : List UInt8) :
 Calls Tryz.prog 88 #[.pointer (some ⟨b, 0, none⟩), .string ⟨s1.toArray⟩, .string ⟨s2.toArray⟩] w fun e w' => ∃ v, e = .returned v ∧ w'.ownsRow w.heap.size 9 1 v ((m.map (·.1)).filter (inR s1 s2)).length (((m.map (·.1)).filter (inR s1 s2)).map encStr) ∧ Below w.heap.size w w' := by
 have c1 : w.cell? ⟨b, 1, none⟩ = some (.map (some bm)) := (cell_of_block h.st 1).trans rfl; have hown := h.mp; have hbl := hown.lt; have hmx : Maps.size (toDk m) ≤ 2000000000000 := by rw [size_toDk]; exact hm
 obtain ⟨i0, hi, hz0, hz1, hz2⟩ := info_parts info9b; have HO : Hid (w.ownsMap Tryz.prog 9 Rv bm m.length (toDk m) ∧ SrtG m) := ⟨hown, hs⟩
 clear h hs; go_enter Tryz.func88, Tryz.ntmps88; go_wp2_with (first
  | (at_range; refine wpList_range_own _ rfl _ 94 rfl 9 23 law9 Tryz.underlying94 _ bm m.length _ rfl HO.out.1 ?_; intro w0 hrg0 hg0 hs0)
  | go_in)
 go_frame; clear c1
 go_loopw [7] (fun v wr => ∃ (left : Lit → Bool) (cnt : Nat) (ss : List (List UInt8)), wr.ranges Tryz.prog 9 Rv bm w.heap.size m.length (toDk m) left cnt ∧ ss.length + cnt ≤ Maps.size (toDk m) ∧
  wr.ownsRow w.heap.size 9 1 v (ss.filter (inR s1 s2)).length ((ss.filter (inR s1 s2)).map encStr) ∧ Collected (toDk m) left ss ∧ Below w.heap.size w wr)
  (fun _ wr => wr.rangeLeft bm w.heap.size)
 case atStart =>
  exact ⟨_, _, [], hrg0, by simp, World.ownsRow_nil _ _ _ _, Collected.start (toDk m), (Below.refl _ _).grown hg0 (Nat.le_refl _) (fun j hj => by cases hj)⟩
 case round =>
  obtain ⟨left, cnt, ss, hrg, hcs, hrow, hC, hnx⟩ := hrel; go_wp2_with (first
   | (at_next; refine wpList_next_ranges _ rfl _ rfl 9 law9 Rv encStr id (fun key kl hk => by obtain ⟨x, hx, _⟩ := Maps.keyOf_str Tryz.underlying9 hk; exact ⟨x, hx⟩) (fun v y hv => ⟨v, rfl⟩) bm w.heap.size m.length _ _ _ rfl hrg ?_ ?_)
   | go_in)
  · intro hc0 hl0
    have hp : (ss.filter (inR s1 s2)).Perm ((m.map (·.1)).filter (inR s1 s2)) := by
     have := hC.perm HO.out.1 law9 Tryz.underlying9 hl0; rw [strKeys_toDk] at this; exact this.filter _
    have hsr := keys_sorted HO.out.2 _ hp; have hln := hp.length_eq; have hsl : (ss.filter (inR s1 s2)).length ≤ 2000000000000 := by have := List.length_filter_le (inR s1 s2) ss; omega
    obtain ⟨rs, hrs⟩ : ∃ rs, rs = ss.filter (inR s1 s2) := ⟨_, rfl⟩
    rw [← hrs] at hrow hp hsr hln hsl; have HP : Hid (rs.mergeSort (fun x y => decide (x ≤ y)) = (m.map (·.1)).filter (inR s1 s2) ∧ rs.length = ((m.map (·.1)).filter (inR s1 s2)).length ∧ Below w.heap.size w wr) := ⟨hsr, hln, hnx⟩
    clear hrs hsr hln hp hC hcs hrg hnx hc0 hl0 hrg0 hg0 hs0 hmx hbl hown; rcases hrow.2 with ⟨rfl, h0⟩ | ⟨g, cap, cur, rfl, hbase, hb, h1, h2, h3, h4⟩
    · go_wp2_with (first
       | (go_at_call 119
          refine Calls.mono (Tryz.slices_Sort_string_none none 0 wr) ?_; rintro e w5 ⟨rfl, hw5⟩; obtain rfl := hw5.symm))
      go_ret; have hrs0 : rs = [] := List.eq_nil_of_length_eq_zero h0
      refine ⟨_, rfl, ?_, HP.out.2.2⟩; rw [← HP.out.1, hrs0]; show wr.ownsRow w.heap.size 9 1 (.slice none 0 0) _ _
      simpa using World.ownsRow_nil _ _ _ _
    · have hH : Holds encStr wr g 0 rs.toArray := holds_of_block hb (by simpa using h4)
      have hgl : g < wr.heap.size := (Array.getElem?_eq_some_iff.1 hb).1; have HC := Tryz.slices_Sort_string g 0 cap rs wr hH hgl (by omega); have HC' : Hid _ := HC; have HR : Hid (w.heap.size ≤ g ∧ wr.heap[g]? = some (.cells cur 9 (0, 0)) ∧ rs.length ≤ cap ∧ cap ≤ maxLen ∧ cur.size = cap * 1) := ⟨hbase, hb, h1, h2, h3⟩
      obtain ⟨n, hn⟩ : ∃ n, n = rs.length := ⟨_, rfl⟩
      rw [← hn] at HC' ⊢; have HN : Hid (n = rs.length) := hn; clear HC hrow hbase hb h1 h2 h3 h4 hH hgl hn; go_wp2_with (first
       | (go_at_call 119
          refine Calls.mono HC'.out ?_; rintro e w5 ⟨rfl, nn, os, rfl⟩))
      go_ret; refine ⟨_, rfl, ?_, HP.out.2.2.grown (grownBy_sorted _) HP.out.2.2.size (fun j hj => by cases hj; exact HR.out.1)⟩
      rw [← HP.out.1, HN.out, List.length_mergeSort]; exact ownsRow_sorted (by simp) HR.out.1 HR.out.2.1 HR.out.2.2.1 HR.out.2.2.2.1 HR.out.2.2.2.2
  · intro x c kl yd yp w2 cnt2 hkey hlk hv hat hrg2 hlt hg2 hs2 hen
    obtain ⟨x', ex, rfl, _⟩ := Maps.keyOf_str Tryz.underlying9 hkey; obtain rfl : x = x' := encStr_inj ex; obtain ⟨va, vc, hva⟩ := row_form hrow; subst hva; have hrow2 := hrow.kept hg2 (Or.inr (row_ne_iter hrow hrg).symm); obtain ⟨q, hq⟩ : ∃ q, q = (ss.filter (inR s1 s2)).length := ⟨_, rfl⟩
    have hql : q ≤ ss.length := by rw [hq]; exact List.length_filter_le _ _
    rw [← hq] at hrow2 ⊢; have HQ : Hid (q = (ss.filter (inR s1 s2)).length) := hq; have hb2 := hnx.grown hg2 hnx.size (fun j hj => by cases hj; exact Nat.le_refl _); have HX : Hid (Collected (toDk m) (fun z => left z && !z.sameKey (.string x)) (ss ++ [x]) ∧ w.heap.size ≤ w2.heap.size ∧ w2.ranges Tryz.prog 9 Rv bm w.heap.size m.length (toDk m) (fun z => left z && !z.sameKey (.string x)) cnt2 ∧ Below w.heap.size w w2 ∧ wr.ranges Tryz.prog 9 Rv bm w.heap.size m.length (toDk m) left cnt) := ⟨hC.step hlk hat, Nat.le_trans hnx.size hg2.size, hrg2, hb2, hrg⟩
    clear hs2 hq hrow hb2 hrg hrg2 hC hnx hrg0 hg0 hs0 hg2; cases b1 : Op.bytesLess x s1 with
    | true =>
      have b2 : True := trivial; have b3 : True := trivial; have HIN : Hid (inR s1 s2 x = false) := by
       show _ = _; unfold inR; rw [← less_before, ← less_before]; simp [b1, b2, b3]
      clear hat hkey hlk hv; go_wp2; go_roundw
      case rel =>
       refine ⟨_, cnt2, ss ++ [x], HX.out.2.2.1, by simp; omega, ?_, HX.out.1, HX.out.2.2.2.1⟩; rw [List.filter_append, show [x].filter (inR s1 s2) = [] from by simp [HIN.out], List.append_nil, ← HQ.out]; exact hrow2
      case measure => rw [HX.out.2.2.1.left_eq, HX.out.2.2.2.2.left_eq]; exact hlt
    | false =>
      cases b2 : Op.bytesLess x s2 with
      | true =>
        have b3 : True := trivial; have HIN : Hid (inR s1 s2 x = true) := by
         show _ = _; unfold inR; rw [← less_before, ← less_before]; simp [b1, b2]
        clear hat hkey hlk hv; go_wp2_with (first
         | (at_builtin
            refine wpList_append_own_at _ rfl _ _ 112 rfl w.heap.size 9 i0 (.string ByteArray.empty) 1 16 Tryz.underlying112 hi hz0 hz1 hz2 rfl (by decide) _ _ _ rfl (hrow2.alloc _) ⟨w2.heap.size, 0, none⟩ 1 1 [encStr x] rfl rfl (cell_one_new _ _ _) (by simp [Value.oneCell', encStr]) (by unfold maxLen; omega) (by omega) (by have := HX.out.2.1; simp; omega) ?_; intro v' w3 hown' hg3 hnil3 hat3; go_frame)
         | go_in)
        have hrg3 := (HX.out.2.2.1.alloc (.cells #[encStr x] 9)).kept hg3 (row_ne_low (hrow2.alloc (.cells #[encStr x] 9)) hbl) (row_ne_iter (hrow2.alloc (.cells #[encStr x] 9)) (HX.out.2.2.1.alloc (.cells #[encStr x] 9))); go_roundw
        case rel =>
         refine ⟨_, cnt2, ss ++ [x], hrg3, by simp; omega, ?_, HX.out.1, ?_⟩
         · rw [List.filter_append, show [x].filter (inR s1 s2) = [x] from by simp [HIN.out], List.length_append, List.map_append, ← HQ.out]
           exact hown'
         · exact (HX.out.2.2.2.1.alloc (by have := HX.out.2.1; omega) _).grown hg3 (by have := HX.out.2.1; simp; omega) (fun j hj => (hrow2.lt j hj).1)
        case measure => rw [hrg3.left_eq, HX.out.2.2.2.2.left_eq]; exact hlt
      | false =>
        cases s2 with
        | nil =>
          have b3 : True := trivial; have HIN : Hid (inR s1 [] x = true) := by
           show _ = _; unfold inR; rw [← less_before, ← less_before]; simp [b1, b2]
          clear hat hkey hlk hv; go_wp2_with (first
           | (at_builtin
              refine wpList_append_own_at _ rfl _ _ 112 rfl w.heap.size 9 i0 (.string ByteArray.empty) 1 16 Tryz.underlying112 hi hz0 hz1 hz2 rfl (by decide) _ _ _ rfl (hrow2.alloc _) ⟨w2.heap.size, 0, none⟩ 1 1 [encStr x] rfl rfl (cell_one_new _ _ _) (by simp [Value.oneCell', encStr]) (by unfold maxLen; omega) (by omega) (by have := HX.out.2.1; simp; omega) ?_; intro v' w3 hown' hg3 hnil3 hat3; go_frame)
           | go_in)
          have hrg3 := (HX.out.2.2.1.alloc (.cells #[encStr x] 9)).kept hg3 (row_ne_low (hrow2.alloc (.cells #[encStr x] 9)) hbl) (row_ne_iter (hrow2.alloc (.cells #[encStr x] 9)) (HX.out.2.2.1.alloc (.cells #[encStr x] 9))); go_roundw
          case rel =>
           refine ⟨_, cnt2, ss ++ [x], hrg3, by simp; omega, ?_, HX.out.1, ?_⟩
           · rw [List.filter_append, show [x].filter (inR s1 []) = [x] from by simp [HIN.out], List.length_append, List.map_append, ← HQ.out]
             exact hown'
           · exact (HX.out.2.2.2.1.alloc (by have := HX.out.2.1; omega) _).grown hg3 (by have := HX.out.2.1; simp; omega) (fun j hj => (hrow2.lt j hj).1)
          case measure => rw [hrg3.left_eq, HX.out.2.2.2.2.left_eq]; exact hlt
        | cons y2 r2 =>
          have b3 : True := trivial; have HIN : Hid (inR s1 (y2 :: r2) x = false) := by
           show _ = _; unfold inR; rw [← less_before, ← less_before]; simp [b1, b2, b3]
          clear hat hkey hlk hv; go_wp2; go_roundw
          case rel =>
           refine ⟨_, cnt2, ss ++ [x], HX.out.2.2.1, by simp; omega, ?_, HX.out.1, HX.out.2.2.2.1⟩; rw [List.filter_append, show [x].filter (inR s1 (y2 :: r2)) = [] from by simp [HIN.out], List.append_nil, ← HQ.out]; exact hrow2
          case measure => rw [HX.out.2.2.1.left_eq, HX.out.2.2.2.2.left_eq]; exact hlt
theorem conv_str (w : World) (key : List UInt8) : ∃ cap V, (convert 9 23 (.string ⟨key.toArray⟩)).run Tryz.prog w = .ok (.slice (some ⟨w.heap.size, 0, none⟩) key.length cap) V ∧ BytesV V (.slice (some ⟨w.heap.size, 0, none⟩) key.length cap) (kI key) ∧ Below w.heap.size w V ∧ V.heap.size = w.heap.size + 1 := by
 have hr := run_bytes_of_string (P := Tryz.prog) w 9 23 5 ⟨key.toArray⟩ Tryz.underlying9 Tryz.underlying23 Tryz.underlying5; have hs : (⟨key.toArray⟩ : ByteArray).size = key.length := by simp [ByteArray.size]
 rw [hs] at hr; refine ⟨_, _, hr, ?_, ?_, by simp⟩
 · refine Or.inr ⟨⟨w.heap.size, 0, none⟩, _, by rw [kI_len], fun j u hu => ?_⟩
   have hj : j < key.length := by
    have := (List.getElem?_eq_some_iff.1 hu).1
    simpa [vB, kI] using this
   rw [Addr.add_lit, Nat.zero_add]; have h1 := bytesRow_at ⟨key.toArray⟩ (grownCap w key.length 0 5) j (by simpa using hj); have h2 : u = .int .u8 ((key.toArray[j]'(by simpa using hj)).toNat : Int) := by
    have := (List.getElem?_eq_some_iff.1 hu).2; rw [← this]; simp [vB, kI]
   rw [h2, ← h1]; exact World.cell?_alloc_mark _ _ _ _ _
 · exact ⟨rfl, rfl, rfl, by simp, fun b hb => heap_alloc_old _ _ _ hb⟩
theorem klook2 {w : World} {bm n : Nat} {m : List (List UInt8 × Value × List Int)} (h : w.ownsMap Tryz.prog 9 Rv bm n (toDk m)) {key : List UInt8} (hl : key.length ≤ maxLen) (hok : ∀ p ∈ m, okS p.2.1 = true) :
 (Instr.lookup 94 (.map (some bm)) (.string ⟨key.toArray⟩) false).run Tryz.prog w = .ok (valK m key) w := by
 obtain ⟨v, ps, hrun, hv⟩ := h.lookup law9 Tryz.underlying94 (zero23 _) (zd := .nil) (zp := []) (show Rv (.slice none 0 0) = some (.nil, []) from by simp [Rv, okS, sv]) (WideMaps.keyOf_string_mk Tryz.underlying9 (s := ⟨key.toArray⟩) (by simpa [ByteArray.size] using hl)); rw [hrun]; rw [at_toDk] at hv; obtain ⟨h1, h2⟩ := Rv_inv hv
 replace h2 : (match lookG m key with | some g => sv g.1 | none => .nil) = sv v := congrArg Prod.fst h2
 have e : v = valK m key := by
  unfold valK; cases hq : lookG m key with
  | none =>
    rw [hq] at h2; exact sv_inj h1 rfl h2.symm
  | some p =>
    rw [hq] at h2; exact sv_inj h1 (hok _ (look_mem' hq)) h2.symm
 rw [e]
theorem look_srt {α : Type} : ∀ {m : List (List UInt8 × α)} {p : List UInt8 × α}, SrtG m → p ∈ m → lookG m p.1 = some p.2
 | [], p, _, h => by cases h
 | q :: r, p, hs, h => by
   unfold SrtG at hs; rw [List.pairwise_cons] at hs; unfold lookG; rw [List.find?_cons]; rcases List.mem_cons.1 h with rfl | h
   · simp
   · have hne : ¬ q.1 = p.1 := bef_ne (hs.1 p h)
     have : (q.1 == p.1) = false := by simpa using hne
     rw [this]; exact look_srt (m := r) hs.2 h
/-- What a Range tells. -/
def rngL {α : Type} (m : List (List UInt8 × α)) (s1 s2 : List UInt8) : List (List UInt8 × α) := m.filter fun p => inR s1 s2 p.1
theorem rngL_keys {α : Type} (m : List (List UInt8 × α)) (s1 s2 : List UInt8) : (m.map (·.1)).filter (inR s1 s2) = (rngL m s1 s2).map (·.1) := by
 unfold rngL; rw [List.filter_map]; rfl
set_option maxRecDepth 100000 in
set_option maxHeartbeats 8000000 in
/-- rising$1 -/
theorem rising1_in (n l X1 X2 X3 : Nat) (W0 : World) {D : Nat → Prop} {b bl bm : Nat} {br : Bool} {m : List (List UInt8 × Value × List Int)} {fa ta : Option Addr} {fc tc : Nat} {f t : List Int} (J : World → (Nat → Prop) → Nat → World → Prop) (X' : World → Prop)
 (hk : KS W0 D b bl br bm m) (hs : SrtG m) (hm : m.length ≤ 2000000000000)
 (hX1 : W0.cell? ⟨X1, 0, none⟩ = some (.pointer (some ⟨b, 0, none⟩))) (hX2 : W0.cell? ⟨X2, 0, none⟩ = some (.slice fa f.length fc)) (hX3 : W0.cell? ⟨X3, 0, none⟩ = some (.slice ta t.length tc))
 (hf : BytesV W0 (.slice fa f.length fc) f) (ht : BytesV W0 (.slice ta t.length tc) t)
 (hJ0 : ∀ W1 P, Below W0.heap.size W0 W1 → (∀ x, P x → W0.heap.size ≤ x ∧ x < W1.heap.size) → J W1 P 0 W1)
 (hJk : ∀ W1 P k W, J W1 P k W → KS W D b bl br bm m ∧ W.cell? ⟨X1, 0, none⟩ = some (.pointer (some ⟨b, 0, none⟩)) ∧ ∀ x, P x → W.heap[x]? = W1.heap[x]?)
 (hY : ∀ W1 P k W W2 kv vv p, (rngL m (kS f) (kS t))[k]? = some p → J W1 P k W → Below W.heap.size W W2 → BytesV W2 kv (kI p.1) → (∀ x, dBlock kv (kI p.1) = some x → W.heap.size ≤ x) → vv = p.2.1 → YieldAt Fence.wide n Tryz.prog l #[.agg #[kv, vv, .bool false]] W2 fun e W' => (e = .returned (.bool true) ∧ J W1 P (k + 1) W') ∨ (e = .returned (.bool false) ∧ X' W')) :
 CallsIn Fence.wide (n + 1) Tryz.prog 87 #[.func (.yield l) #[] #[], .pointer (some ⟨X1, 0, none⟩), .pointer (some ⟨X2, 0, none⟩), .pointer (some ⟨X3, 0, none⟩)] W0 fun e W' => (∃ v, e = .returned v) ∧ ((∃ W1 P, J W1 P (rngL m (kS f) (kS t)).length W') ∨ X' W') := by
 have hcf := kconv_b hf; have hct := kconv_b ht; have hbt := between_any hk hs hm (kS f) (kS t); have esf : (⟨(kS f).toArray⟩ : ByteArray) = strOfNums f := by unfold kS; simp
 have est : (⟨(kS t).toArray⟩ : ByteArray) = strOfNums t := by unfold kS; simp
 rw [esf, est, rngL_keys] at hbt; have hkl : ∀ p ∈ m, p.1.length ≤ maxLen := fun p hp => strKeys_le hk.mp Tryz.underlying9 p.1 (by rw [strKeys_toDk]; exact List.mem_map.2 ⟨p, hp, rfl⟩)
 have hsl : (rngL m (kS f) (kS t)).length ≤ 2000000000000 := Nat.le_trans (List.length_filter_le _ _) hm; have hin : ∀ p ∈ rngL m (kS f) (kS t), p ∈ m := fun p hp => (List.mem_filter.1 hp).1
 obtain ⟨sL, hsL⟩ : ∃ sL, sL = rngL m (kS f) (kS t) := ⟨_, rfl⟩
 rw [← hsL] at hbt hsl hin hY ⊢; obtain ⟨S1, hS1⟩ : ∃ S1, S1 = strOfNums f := ⟨_, rfl⟩
 obtain ⟨S2, hS2⟩ : ∃ S2, S2 = strOfNums t := ⟨_, rfl⟩
 rw [← hS1] at hbt hcf; rw [← hS2] at hbt hct; obtain ⟨N, hN⟩ : ∃ N, N = (sL.map (·.1)).length := ⟨_, rfl⟩
 have HN : Hid (N = sL.length) := by show N = _; rw [hN, List.length_map]
 have hNl : N ≤ 2000000000000 := by have := HN.out; omega
 rw [← hN] at hbt; have HB : Hid _ := hbt; have HY : Hid _ := hY; have HJ0 : Hid _ := hJ0; have HJK : Hid _ := hJk; have HM : Hid (SrtG m ∧ (∀ p ∈ m, p.1.length ≤ maxLen) ∧ ∀ p ∈ sL, p ∈ m) := ⟨hs, hkl, hin⟩
 clear hbt hY hJ0 hJk hs hkl hin hsL hS1 hS2 hN hk hf ht esf est hsl; refine callsIn_of_wp Tryz.func87 rfl trivial ?_ rfl; simp only [Tryz.ntmps87, List.size_toArray, List.length_cons, List.length_nil, Nat.reduceAdd, Nat.reduceSub, Array.replicate_succ, Array.replicate_zero, List.push_toArray, List.append_toArray, List.nil_append, List.cons_append]; have TK : Hid True := trivial; gi_wp2_with (first
  | (have _ := TK
     refine ⟨trivial, ?_⟩; gi_at_call 88; clear TK; refine (callsIn_wide.2 HB.out).mono ?_; rintro e W1 ⟨v1, rfl, hrow, hb1⟩; obtain ⟨a1, c1, hv1⟩ := row_form hrow; subst hv1; have HR : Hid (W1.ownsRow W0.heap.size 9 1 (.slice a1 N c1) N ((sL.map (·.1)).map encStr) ∧ J W1 (fun x => a1.map (·.block) = some x) 0 W1) := ⟨hrow, HJ0.out W1 _ hb1 (fun x hx => hrow.lt x (by
      cases a1 with
      | none => cases hx
      | some ad =>
        injection hx with hx
        subst hx; rfl))⟩
     clear hrow hb1 HB HJ0))
 clear hcf hct hX1 hX2 hX3; gi_loopw [14] (fun v wr => ∃ k : Nat, k ≤ N ∧ v = .int .i64 k ∧ J W1 (fun x => a1.map (·.block) = some x) k wr) (fun v _ => N - (intOf v).toNat)
 case atStart => exact ⟨0, Nat.zero_le _, rfl, HR.out.2⟩
 case round =>
  obtain ⟨k, hk, rfl, hjk⟩ := hrel; have HK : Hid (J W1 (fun x => a1.map (·.block) = some x) k wr) := hjk; obtain ⟨hks, hx1, hpr⟩ := HJK.out _ _ _ _ hjk; clear hjk; by_cases hlt : k < N
  · obtain ⟨p, hp⟩ : ∃ p, sL[k]? = some p := ⟨_, List.getElem?_eq_getElem (by have := HN.out; omega)⟩
    have hpm := HM.out.2.2 p (List.mem_of_getElem? hp); obtain ⟨g, ha1, hck⟩ : ∃ g, a1 = some ⟨g, 0, none⟩ ∧ wr.cell? ⟨g, k, none⟩ = some (.string ⟨p.1.toArray⟩) := by
     rcases HR.out.1.2 with ⟨e1, h0⟩ | ⟨g, cap, cur, e1, hbase, hbk, h1, h2, h3, h4⟩
     · omega
     · injection e1 with e1 _ _
       refine ⟨g, e1, ?_⟩; have hgw : wr.heap[g]? = W1.heap[g]? := hpr g (by rw [e1]; rfl); rw [World.cell?_of_block (a := ⟨g, k, none⟩) hgw]; have := HR.out.1.cells (g := g) (by rw [e1]; rfl) k (encStr p.1) (by rw [List.getElem?_map, List.getElem?_map, hp]; rfl); rw [Addr.add_lit, Nat.zero_add] at this; exact this
    subst ha1; have hki : (k : Int) < N := by omega
    obtain ⟨kc, V, hcv, hbv, hbV, hVs⟩ := conv_str wr p.1; have hlk := klook2 (key := p.1) (ownsMap_heap hks.mp (hbV.block _ hks.mp.lt)) (HM.out.2.1 p hpm) (fun q hq => (hks.vals q hq).1); have hvv : valK m p.1 = p.2.1 := by
     unfold valK; rw [look_srt HM.out.1 hpm]
    rw [hvv] at hlk; obtain ⟨av, cv, hav⟩ := (hks.vals p hpm).2.is.form'; have y1 : V.cell? ⟨X1, 0, none⟩ = some (.pointer (some ⟨b, 0, none⟩)) := (hbV.cell (p := ⟨X1, 0, none⟩) (cell_lt hx1)).trans hx1; have y2 : V.cell? ⟨b, 1, none⟩ = some (.map (some bm)) := (hbV.cell (p := ⟨b, 1, none⟩) (heap_lt hks.st)).trans ((cell_of_block hks.st 1).trans rfl); obtain ⟨fn, tmps, assign, body, hy, hR⟩ := HY.out W1 _ k wr V _ p.2.1 p hp HK.out hbV hbv (fun x hx => by have h9 : some wr.heap.size = some x := dBlock_own hx; injection h9 with h9; omega) rfl; rw [hav] at hlk hy; clear hp hpm hks hx1 hpr hbv hbV hVs hvv hav HK; gi_wp2; refine hR.mono ?_; rintro e W5 (⟨rfl, hj5⟩ | ⟨rfl, hx5⟩)
    · have H5 : Hid (J W1 (fun x => (some (⟨g, 0, none⟩ : Addr)).map (·.block) = some x) (k + 1) W5) := hj5
      clear hj5 hR hy hcv hlk y1 y2 hck; gi_wp2; go_roundw
      case rel => exact ⟨k + 1, by omega, by go_num, H5.out⟩
      case measure => simp [intOf]; omega
    · have HX5 : Hid (X' W5) := hx5
      clear hx5 hR hy hcv hlk y1 y2 hck; gi_wp2
      (try simp only [Exit.inBlock, Exit.then])
      refine bodyPost_ret (results_none rfl _ _ _) rfl ?_; exact ⟨⟨_, rfl⟩, Or.inr HX5.out⟩
  · obtain rfl : k = N := by omega
    have hki : ¬ (k : Int) < k := by omega
    have HJ2 : Hid (J W1 (fun x => a1.map (·.block) = some x) sL.length wr) := by rw [← HN.out]; exact HK.out
    clear HK hks hx1 hpr; gi_wp2; go_end0; exact ⟨⟨_, rfl⟩, Or.inl ⟨_, _, HJ2.out⟩⟩
end Go.Proofs.YtconkienlcegaaaGreatDoor
