/- Iter, DA, DC -/
import Derived.Shelf.SlIter.Nil
import Derived.Shelf.SortM.Plain
import Derived.Shelf.SortM.SortNone
import Derived.Ground.GgzProg
import Derived.Ground.SlgmProg
import Derived.Test.YtconkienlcegaaaGreatDoorProg
import Derived.Test.YtconkienlcegaaaGreatDoorChecked
import Derived.WalkKit
import Derived.WalkSpells
import Derived.StillTactics
import Derived.Laws.Pointers
import Derived.Deep.RegionHeld3
import Derived.RowKit3
import Derived.Handy
import Derived.Maps.RangeWalk
import Derived.Maps.Ext
import Derived.BigQuiet
import Derived.Lib.SmallJoins
namespace Go.Proofs
open Go.RowKit Go.Maps Go.Sort Go.Shelf
def Tryz.keys49_ren : Go.Shelf.Ren := ⟨fun | 7 => 95 | 10 => 124 | n => n, fun | 23 => 86 | 26 => 9 | 3 => 114 | 28 => 161 | 0 => 0 | 27 => 160 | 33 => 139 | 4 => 4 | n => n, fun | n => n⟩
theorem Tryz.keys49 : Go.Proofs.SlLaysZ.n7 Tryz.prog Tryz.keys49_ren := {
 mixed := by kernel_rfl
 f7 := ⟨Tryz.f95.name, by decide, Tryz.func95.trans (congrArg some (by kernel_rfl))⟩
 f10 := ⟨Tryz.f124.name, by decide, Tryz.func124.trans (congrArg some (by kernel_rfl))⟩
 t0 := Tryz.underlying0
 a0 := Tryz.isAgg0
 z0 := Tryz.sizeOf0
 v0 := Tryz.zeroValue0
 t4 := Tryz.underlying4
 a4 := Tryz.isAgg4
 z4 := Tryz.sizeOf4
 v4 := Tryz.zeroValue4
 t23 := Tryz.underlying86
 a23 := Tryz.isAgg86
 z23 := Tryz.sizeOf86
 v23 := Tryz.zeroValue86
 t26 := Tryz.underlying9
 a26 := Tryz.isAgg9
 z26 := Tryz.sizeOf9
 v26 := Tryz.zeroValue9
 t27 := Tryz.underlying160
 a27 := Tryz.isAgg160
 z27 := Tryz.sizeOf160
 v27 := Tryz.zeroValue160
 t28 := Tryz.underlying161
 a28 := Tryz.isAgg161
 z28 := Tryz.sizeOf161
 v28 := Tryz.zeroValue161
 t33 := Tryz.underlying139
 a33 := Tryz.isAgg139
 z33 := Tryz.sizeOf139
 v33 := Tryz.zeroValue139 }
def Tryz.sorted48_ren : Go.Shelf.Ren := ⟨fun | 6 => 94 | 8 => 123 | 9 => 119 | 11 => 138 | 13 => 130 | 12 => 136 | 23 => 154 | 24 => 155 | 14 => 157 | 15 => 158 | 16 => 159 | 17 => 160 | 18 => 161 | 19 => 162 | 20 => 163 | 21 => 164 | 22 => 165 | 25 => 176 | 26 => 171 | 27 => 172 | 28 => 177 | 29 => 178 | 30 => 179 | 31 => 187 | n => n, fun | 26 => 9 | 28 => 161 | 24 => 112 | 0 => 0 | 3 => 3 | 37 => 153 | 48 => 127 | 50 => 132 | 4 => 4 | 40 => 200 | 39 => 199 | 45 => 122 | 5 => 5 | 9 => 9 | 51 => 221 | 55 => 225 | 57 => 239 | 58 => 240 | 33 => 139 | n => n, fun | n => n⟩
theorem Tryz.sorted48 : Go.Proofs.SlLaysZ.n6 Tryz.prog Tryz.sorted48_ren := {
 mixed := by kernel_rfl
 f6 := ⟨Tryz.f94.name, by decide, Tryz.func94.trans (congrArg some (by kernel_rfl))⟩
 f8 := ⟨Tryz.f123.name, by decide, Tryz.func123.trans (congrArg some (by kernel_rfl))⟩
 f11 := ⟨Tryz.f138.name, by decide, Tryz.func138.trans (congrArg some (by kernel_rfl))⟩
 t0 := Tryz.underlying0
 a0 := Tryz.isAgg0
 z0 := Tryz.sizeOf0
 v0 := Tryz.zeroValue0
 t24 := Tryz.underlying112
 a24 := Tryz.isAgg112
 z24 := Tryz.sizeOf112
 v24 := Tryz.zeroValue112
 t26 := Tryz.underlying9
 a26 := Tryz.isAgg9
 z26 := Tryz.sizeOf9
 v26 := Tryz.zeroValue9
 t28 := Tryz.underlying161
 a28 := Tryz.isAgg161
 z28 := Tryz.sizeOf161
 v28 := Tryz.zeroValue161
 i26 := by kernel_rfl }
def Tryz.sort52_ren : Go.Shelf.Ren := ⟨fun | 6 => 119 | 8 => 130 | 9 => 136 | 19 => 154 | 20 => 155 | 21 => 157 | 22 => 158 | 23 => 159 | 24 => 160 | 25 => 161 | 26 => 162 | 27 => 163 | 28 => 164 | 29 => 165 | 36 => 176 | 31 => 171 | 32 => 172 | 37 => 177 | 38 => 178 | 39 => 179 | 41 => 187 | n => n, fun | 27 => 112 | 29 => 9 | 3 => 3 | 32 => 153 | 26 => 112 | 0 => 0 | 44 => 127 | 46 => 132 | 4 => 4 | 36 => 200 | 35 => 199 | 41 => 122 | 5 => 5 | 9 => 9 | 53 => 221 | 57 => 225 | 63 => 239 | 64 => 240 | n => n, fun | n => n⟩
theorem Tryz.sort52 : Go.Proofs.SlLaysM.n6 Tryz.prog Tryz.sort52_ren := {
 mixed := by kernel_rfl
 f6 := ⟨Tryz.f119.name, by decide, Tryz.func119.trans (congrArg some (by kernel_rfl))⟩
 f8 := Tryz.func130.trans (congrArg some (by kernel_rfl))
 f9 := ⟨Tryz.f136.name, by decide, Tryz.func136.trans (congrArg some (by kernel_rfl))⟩
 f19 := Tryz.func154.trans (congrArg some (by kernel_rfl))
 f20 := Tryz.func155.trans (congrArg some (by kernel_rfl))
 f21 := ⟨Tryz.f157.name, by decide, Tryz.func157.trans (congrArg some (by kernel_rfl))⟩
 f22 := ⟨Tryz.f158.name, by decide, Tryz.func158.trans (congrArg some (by kernel_rfl))⟩
 f23 := ⟨Tryz.f159.name, by decide, Tryz.func159.trans (congrArg some (by kernel_rfl))⟩
 f24 := ⟨Tryz.f160.name, by decide, Tryz.func160.trans (congrArg some (by kernel_rfl))⟩
 f25 := ⟨Tryz.f161.name, by decide, Tryz.func161.trans (congrArg some (by kernel_rfl))⟩
 f26 := ⟨Tryz.f162.name, by decide, Tryz.func162.trans (congrArg some (by kernel_rfl))⟩
 f27 := ⟨Tryz.f163.name, by decide, Tryz.func163.trans (congrArg some (by kernel_rfl))⟩
 f28 := ⟨Tryz.f164.name, by decide, Tryz.func164.trans (congrArg some (by kernel_rfl))⟩
 f29 := ⟨Tryz.f165.name, by decide, Tryz.func165.trans (congrArg some (by kernel_rfl))⟩
 f31 := Tryz.func171.trans (congrArg some (by kernel_rfl))
 f32 := Tryz.func172.trans (congrArg some (by kernel_rfl))
 f36 := ⟨Tryz.f176.name, by decide, Tryz.func176.trans (congrArg some (by kernel_rfl))⟩
 f37 := ⟨Tryz.f177.name, by decide, Tryz.func177.trans (congrArg some (by kernel_rfl))⟩
 f38 := ⟨Tryz.f178.name, by decide, Tryz.func178.trans (congrArg some (by kernel_rfl))⟩
 f39 := ⟨Tryz.f179.name, by decide, Tryz.func179.trans (congrArg some (by kernel_rfl))⟩
 f41 := ⟨Tryz.f187.name, by decide, Tryz.func187.trans (congrArg some (by kernel_rfl))⟩
 t0 := Tryz.underlying0
 a0 := Tryz.isAgg0
 z0 := Tryz.sizeOf0
 v0 := Tryz.zeroValue0
 t3 := Tryz.underlying3
 a3 := Tryz.isAgg3
 z3 := Tryz.sizeOf3
 v3 := Tryz.zeroValue3
 t4 := Tryz.underlying4
 a4 := Tryz.isAgg4
 z4 := Tryz.sizeOf4
 v4 := Tryz.zeroValue4
 t5 := Tryz.underlying5
 a5 := Tryz.isAgg5
 z5 := Tryz.sizeOf5
 v5 := Tryz.zeroValue5
 t9 := Tryz.underlying9
 a9 := Tryz.isAgg9
 z9 := Tryz.sizeOf9
 v9 := Tryz.zeroValue9
 t26 := Tryz.underlying112
 a26 := Tryz.isAgg112
 z26 := Tryz.sizeOf112
 v26 := Tryz.zeroValue112
 t27 := Tryz.underlying112
 a27 := Tryz.isAgg112
 z27 := Tryz.sizeOf112
 v27 := Tryz.zeroValue112
 t29 := Tryz.underlying9
 a29 := Tryz.isAgg9
 z29 := Tryz.sizeOf9
 v29 := Tryz.zeroValue9
 t32 := Tryz.underlying153
 a32 := Tryz.isAgg153
 z32 := Tryz.sizeOf153
 v32 := Tryz.zeroValue153
 t35 := Tryz.underlying199
 a35 := Tryz.isAgg199
 z35 := Tryz.sizeOf199
 v35 := Tryz.zeroValue199
 t36 := Tryz.underlying200
 a36 := Tryz.isAgg200
 z36 := Tryz.sizeOf200
 v36 := Tryz.zeroValue200
 t41 := Tryz.underlying122
 a41 := Tryz.isAgg122
 z41 := Tryz.sizeOf122
 v41 := Tryz.zeroValue122
 t44 := Tryz.underlying127
 a44 := Tryz.isAgg127
 z44 := Tryz.sizeOf127
 v44 := Tryz.zeroValue127
 t46 := Tryz.underlying132
 a46 := Tryz.isAgg132
 z46 := Tryz.sizeOf132
 v46 := Tryz.zeroValue132
 t53 := Tryz.underlying221
 a53 := Tryz.isAgg221
 z53 := Tryz.sizeOf221
 v53 := Tryz.zeroValue221
 t57 := Tryz.underlying225
 a57 := Tryz.isAgg225
 z57 := Tryz.sizeOf225
 v57 := Tryz.zeroValue225
 t63 := Tryz.underlying239
 a63 := Tryz.isAgg239
 z63 := Tryz.sizeOf239
 v63 := Tryz.zeroValue239
 t64 := Tryz.underlying240
 a64 := Tryz.isAgg240
 z64 := Tryz.sizeOf240
 v64 := Tryz.zeroValue240 }
theorem Tryz.sorts48 (m : Nat) : AnyZ.SortsIn Tryz.prog Tryz.sorted48_ren Fence.wide m :=
 ⟨fun blk off cap ss W hH hblk hsz => callsIn_wide.2 (AnyM.slices_Sort_string Tryz.sort52 blk off cap ss W hH hblk hsz),
  fun p cap W => callsIn_wide.2 (AnyM.slices_Sort_string_none Tryz.sort52 p cap W)⟩
theorem Tryz.maps_Keys_49 (mb : Option Nat) (W : World) : CallsIn Fence.wide 5 Tryz.prog 95 #[.map mb] W fun e w' => e = .returned (.func (.func 124) #[] #[.pointer (some ⟨W.heap.size, 0, none⟩)]) ∧ w' = W.alloc (.cells #[.map mb] 86) :=
 AnyZ.keys_in Tryz.keys49 Fence.wide 5 trivial rfl mb W
set_option maxHeartbeats 1000000 in
theorem Tryz.slices_Sorted_keys_48_49 {H : Type} (b nn : Nat) (D0 : DataW H) (R : Value → Option (DataW H × List MemPlace)) (w : World) (hown : w.ownsMap Tryz.prog 9 R b nn D0) (hmax : Maps.size D0 ≤ maxLen) (hbytes : Maps.size D0 * 16 ≤ 140737488355328) :
 CallsIn Fence.wide 5 Tryz.prog 94 #[.func (.func 124) #[] #[.pointer (some ⟨w.heap.size, 0, none⟩)]] (w.alloc (.cells #[.map (some b)] 86)) fun e w' => ∃ (v : Value) (ss : List (List UInt8)), e = .returned v ∧ ss.Perm (strKeys D0) ∧
  w'.ownsRow (w.alloc (.cells #[.map (some b)] 86)).heap.size 9 1 v ss.length ((ss.mergeSort (fun x y => decide (x ≤ y))).map encStr) ∧ (v = .slice none 0 0 ↔ ss = []) ∧ Below (w.alloc (.cells #[.map (some b)] 86)).heap.size (w.alloc (.cells #[.map (some b)] 86)) w' := by
 have hbl := hown.lt; have hseq : SeqGives Fence.wide 2 Tryz.prog 124 #[.pointer (some ⟨w.heap.size, 0, none⟩)] encStr (fun ss => ss.Perm (strKeys D0)) (Maps.size D0) (w.alloc (.cells #[.map (some b)] 86)) :=
  AnyZ.keys_gives (ρ := Tryz.keys49_ren) { Tryz.keys49 with } Fence.wide _ trivial rfl (by omega) w.heap.size b nn D0 _ (by simp) (by simp) (by
   obtain ⟨es, clock, hb, Ft, hs, hD⟩ := hown; exact ⟨es, clock, (Below.heap_alloc _ _ b hbl).trans hb, Ft, hs, hD⟩)
 exact AnyZ.sorted_in Tryz.sorted48 Fence.wide 5 trivial trivial trivial trivial rfl (by omega) (Tryz.sorts48 _) (enters_of Tryz.func119 (by kernel_rfl) rfl) 124 #[.pointer (some ⟨w.heap.size, 0, none⟩)] trivial (enters_of Tryz.func124 (by kernel_rfl) rfl) _ _ hmax hbytes _ hseq
end Go.Proofs
namespace Go.Proofs.YtconkienlcegaaaGreatDoor
open Go.RowKit Go.Maps
set_option linter.unusedSimpArgs false
set_option linter.unusedVariables false
/-- A byte that a name may have. -/
def okB (b : UInt8) : Bool := decide (33 ≤ b.toNat) && decide (b.toNat ≤ 126)
/-- A name that a file may have. -/
def nameB (s : ByteArray) : Bool := decide (1 ≤ s.size) && decide (s.size ≤ 32) && s.data.toList.all okB
theorem allTake_succ {s : ByteArray} {k : Nat} (hk : k < s.size) : (s.data.toList.take (k + 1)).all okB = ((s.data.toList.take k).all okB && okB s[k]) := by
 have hk' : k < s.data.toList.length := by simpa using hk
 rw [List.take_add_one, List.getElem?_eq_getElem hk', List.all_append]; simp; rfl
theorem nameB_of {s : ByteArray} (h1 : 1 ≤ s.size) (h2 : s.size ≤ 32) : nameB s = s.data.toList.all okB := by
 simp [nameB, h1, h2]
theorem nameB_false {s : ByteArray} {k : Nat} (hk : k < s.size) (h : okB s[k] = false) : nameB s = false := by
 have : s.data.toList.all okB = false := by
  rw [List.all_eq_false]; refine ⟨s[k], ?_, by simp [h]⟩; have hk' : k < s.data.toList.length := by simpa using hk
  exact List.getElem_mem hk'
 simp [nameB, this]
set_option maxHeartbeats 1000000 in
/-- disk.Name -/
theorem name_any (s : ByteArray) (hs : s.size ≤ 9223372036854775807) (w : World) :
 Calls Tryz.prog 99 #[.string s] w fun e w' => e = .returned (.bool (nameB s)) ∧ w' = w := by
 by_cases h1 : 1 ≤ s.size ∧ s.size ≤ 32
 · obtain ⟨h1, h2⟩ := h1
   have d1 : decide ((s.size : Int) < 1) = false := by simp; omega
   have d2 : decide ((32 : Int) < s.size) = false := by simp; omega
   go_enter Tryz.func99, Tryz.ntmps99
   go_wp2; go_loop [14] (fun i => ∃ k : Nat, k ≤ s.size ∧ i = .int .i64 k ∧ (s.data.toList.take k).all okB = true) (fun i => s.size - (intOf i).toNat)
   case atStart => exact ⟨0, Nat.zero_le _, rfl, rfl⟩
   case round =>
    obtain ⟨k, hk, rfl, hall⟩ := hrel; go_wp2
    · have hk : k < s.size := by assumption
      have hb : (s[k].toNat : Int) < 33 ∨ 126 < (s[k].toNat : Int) := by assumption
      go_ret; exact ⟨by rw [nameB_false hk (by simp [okB]; omega)]; rfl, rfl⟩
    · have hk : k < s.size := by assumption
      have hb : 33 ≤ (s[k].toNat : Int) ∧ (s[k].toNat : Int) ≤ 126 := by assumption
      go_round
      case rel => exact ⟨k + 1, by omega, by go_num, by rw [allTake_succ hk, hall]; simp [okB]; omega⟩
      case measure => simp [intOf]; omega
    · have hk : k < s.size := by assumption
      have hb : (s[k].toNat : Int) < 33 := by assumption
      go_ret; exact ⟨by rw [nameB_false hk (by simp [okB]; omega)]; rfl, rfl⟩
    · have hk' : ¬ k < s.size := by assumption
      obtain rfl : k = s.size := by omega
      go_ret; refine ⟨?_, rfl⟩
      rw [nameB_of h1 h2]; rw [List.take_of_length_le (by simp)] at hall; rw [hall]; rfl
 · have hf : nameB s = false := by
    simp only [nameB, Bool.and_eq_false_iff, decide_eq_false_iff_not]; omega
   rw [hf]; by_cases h0 : s.size < 1
   · have d1 : decide ((s.size : Int) < 1) = true := by simp; omega
     go_enter Tryz.func99, Tryz.ntmps99
     go_wp2; go_ret
     exact ⟨rfl, rfl⟩
   · have d1 : decide ((s.size : Int) < 1) = false := by simp; omega
     have d2 : decide ((32 : Int) < s.size) = true := by simp; omega
     go_enter Tryz.func99, Tryz.ntmps99
     go_wp2; go_ret
     exact ⟨rfl, rfl⟩
/-- How an element of the map of files reads: by its block. -/
def Rp (v : Value) : Option (DataW Unit × List MemPlace) :=
 match v with
 | .pointer none => some (.nil, [])
 | .pointer (some ⟨g, 0, none⟩) => some (.lit (.int .i64 (g : Int)), [])
 | _ => none
def pv : Option Nat → Value
 | none => .pointer none
 | some g => .pointer (some ⟨g, 0, none⟩)
theorem Rp_inv (v : Value) (y : DataW Unit × List MemPlace) (h : Rp v = some y) : ∃ c, v = pv c := by
 unfold Rp at h; split at h
 · exact ⟨none, rfl⟩
 · exact ⟨some _, rfl⟩
 · cases h
theorem Rp_lit {v : Value} {g : Nat} {ps : List MemPlace} (h : Rp v = some (.lit (.int .i64 (g : Int)), ps)) : v = .pointer (some ⟨g, 0, none⟩) := by
 unfold Rp at h; split at h
 · cases h
 · simp at h
   obtain ⟨h, _⟩ := h; rw [Int.ofNat_inj.1 h]
 · cases h
theorem Rp_nil {v : Value} {ps : List MemPlace} (h : Rp v = some (.nil, ps)) : v = .pointer none := by
 unfold Rp at h; split at h
 · rfl
 · simp at h
 · cases h
/-- The map of files, by their names and blocks. -/
def toE (p : List UInt8 × Nat) : Lit × DataW Unit := (.string p.1, .lit (.int .i64 (p.2 : Int)))
def toD (fs : List (List UInt8 × Nat)) : DataW Unit := .map (fs.map toE)
def look (fs : List (List UInt8 × Nat)) (n : List UInt8) : Option Nat := (fs.find? (fun p => p.1 == n)).map (·.2)
theorem has_toD (fs : List (List UInt8 × Nat)) (n : List UInt8) : Maps.has (toD fs) (.string n) = (look fs n).isSome := by
 unfold toD look; rw [has_eq]; induction fs with
 | nil => rfl
 | cons p r ih =>
   simp only [List.map_cons, List.any_cons, List.find?_cons, toE, Lit.sameKey]; cases h : (p.1 == n)
   · simp only [Bool.false_or]
     exact ih
   · simp
theorem at_toD (fs : List (List UInt8 × Nat)) (n : List UInt8) (z : DataW Unit) : (toD fs).atKey (.string n) z = match look fs n with | some g => .lit (.int .i64 (g : Int)) | none => z := by
 unfold toD look DataW.atKey; induction fs with
 | nil => rfl
 | cons p r ih =>
   simp only [List.map_cons, List.find?_cons, toE, Lit.sameKey]; cases h : (p.1 == n)
   · exact ih
   · simp
theorem size_toD (fs : List (List UInt8 × Nat)) : Maps.size (toD fs) = fs.length := by simp [toD, size_eq]
theorem look_mem {fs : List (List UInt8 × Nat)} {n : List UInt8} {g : Nat} (h : look fs n = some g) : (n, g) ∈ fs := by
 unfold look at h; obtain ⟨p, hp, rfl⟩ := Option.map_eq_some_iff.1 h; have h1 := List.find?_some hp; have h2 := List.mem_of_find?_eq_some hp; simp at h1; rw [← h1]; exact h2
def insL (x : List UInt8 × Nat) : List (List UInt8 × Nat) → List (List UInt8 × Nat)
 | [] => [x]
 | y :: r => if bytesBefore x.1 y.1 then x :: y :: r else y :: insL x r
def delL (fs : List (List UInt8 × Nat)) (n : List UInt8) : List (List UInt8 × Nat) := fs.filter fun p => !(p.1 == n)
def putL (fs : List (List UInt8 × Nat)) (n : List UInt8) (g : Nat) : List (List UInt8 × Nat) := insL (n, g) (delL fs n)
theorem ins_toE (x : List UInt8 × Nat) : ∀ l : List (List UInt8 × Nat), DataW.insert (toE x) (l.map toE) = (insL x l).map toE
 | [] => rfl
 | y :: r => by
   simp only [List.map_cons, DataW.insert, insL]; have e : (toE x).1.before (toE y).1 = bytesBefore x.1 y.1 := rfl; rw [e]; split
   · rfl
   · rw [ins_toE x r]; rfl
theorem del_map (n : List UInt8) : ∀ l : List (List UInt8 × Nat), (l.map toE).filter (fun p => !p.1.sameKey (.string n)) = (delL l n).map toE
 | [] => rfl
 | y :: r => by
   have e : (toE y).1.sameKey (.string n) = (y.1 == n) := rfl; simp only [List.map_cons, List.filter_cons, delL, e]; have := del_map n r; unfold delL at this; split
   · rw [this]; rfl
   · exact this
theorem put_toD (fs : List (List UInt8 × Nat)) (n : List UInt8) (g : Nat) : (toD fs).put (.string n) (.lit (.int .i64 (g : Int))) = toD (putL fs n g) := by
 unfold toD DataW.put; show DataW.map _ = _; rw [del_map]; exact congrArg DataW.map (ins_toE (n, g) _)
theorem del_toD (fs : List (List UInt8 × Nat)) (n : List UInt8) : (toD fs).del (.string n) = toD (delL fs n) := by
 unfold toD DataW.del; show DataW.map _ = _; rw [del_map]
theorem keys_toD (fs : List (List UInt8 × Nat)) : strKeys (toD fs) = fs.map (·.1) := by
 simp [toD, strKeys, toE, strOf, Function.comp_def]
theorem law3 : Keyed Tryz.prog 3 := int_keyed Tryz.underlying3
theorem law9 : Keyed Tryz.prog 9 := string_keyed Tryz.underlying9
theorem zero3 (w : World) : (zeroValue 3).run Tryz.prog w = .ok (.int .i64 0) w := by kernel_rfl
theorem zero66 (w : World) : (zeroValue 114).run Tryz.prog w = .ok (.pointer none) w := by kernel_rfl
/-- The plan: the kinds of faults by steps. -/
def PlanIs (w : World) (pl : Option Nat) (f : Int → Int) : Prop :=
 match pl with
 | none => ∀ x, f x = 0
 | some b => ∃ n D, w.ownsMap (H := Unit) Tryz.prog 3 (plainElem Tryz.prog 3) b n D ∧ ∀ x, (Lit.int .i64 x).wf = true → D.atKey (.int .i64 x) (.lit (.int .i64 0)) = .lit (.int .i64 (f x))
theorem PlanIs.look {w : World} {pl : Option Nat} {f : Int → Int} (h : PlanIs w pl f) {x : Int} (hx : (Lit.int .i64 x).wf = true) :
 (Instr.lookup 87 (.map pl) (.int .i64 x) false).run Tryz.prog w = .ok (.int .i64 (f x)) w := by
 cases pl with
 | none =>
   have := look_nil (w := w) false law3 Tryz.underlying87 (zero3 _) (keyOf_int_mk Tryz.underlying3 hx); rw [show f x = 0 from h x]; exact this
 | some b =>
   obtain ⟨n, D, hown, hf⟩ := h; obtain ⟨c, hrun, hat, _⟩ := hown.lookup_int law3 Tryz.underlying87 Tryz.underlying3 (zero3 _) (keyOf_int_mk Tryz.underlying3 hx); rw [hf x hx] at hat; simp at hat; rw [hat]; exact hrun
theorem PlanIs.kept {w w' : World} {pl : Option Nat} {f : Int → Int} (h : PlanIs w pl f) (hk : ∀ b, pl = some b → w'.heap[b]? = w.heap[b]?) : PlanIs w' pl f := by
 cases pl with
 | none => exact h
 | some b =>
   obtain ⟨n, D, ⟨es, clock, hb, F, hs, hD⟩, hf⟩ := h; exact ⟨n, D, ⟨es, clock, (hk b rfl).trans hb, F, hs, hD⟩, hf⟩
theorem ownsMap_heap {w w' : World} {k : TypeId} {R : Value → Option (DataW Unit × List MemPlace)} {b n : Nat} {D : DataW Unit} (h : w.ownsMap Tryz.prog k R b n D) (hk : w'.heap[b]? = w.heap[b]?) : w'.ownsMap Tryz.prog k R b n D := by
 obtain ⟨es, clock, hb, F, hs, hD⟩ := h; exact ⟨es, clock, hk.trans hb, F, hs, hD⟩
theorem ownsMap_size {w : World} {k : TypeId} {R : Value → Option (DataW Unit × List MemPlace)} {b n : Nat} {D : DataW Unit} (h : w.ownsMap Tryz.prog k R b n D) : w.ownsMap Tryz.prog k R b (Maps.size D) D := by
 obtain ⟨es, clock, hb, F, hs, rfl⟩ := h; exact ⟨es, clock, hb, F, by simp [Maps.size, length_sorted], rfl⟩
theorem ownsRow_heap {w w' : World} {base size n : Nat} {e : TypeId} {v : Value} {xs : List Value} (h : w.ownsRow base e size v n xs) (hk : ∀ b, v.ownBlock = some b → w'.heap[b]? = w.heap[b]?) : w'.ownsRow base e size v n xs := by
 obtain ⟨h1, h2⟩ := h; refine ⟨h1, ?_⟩; rcases h2 with h2 | ⟨g, cap, cur, rfl, hb, hg, hr⟩
 · exact Or.inl h2
 · exact Or.inr ⟨g, cap, cur, rfl, hb, (hk g rfl).trans hg, hr⟩
inductive Role where
 | none | disk | map | plan
 | file (n : List UInt8)
 | bytes (n : List UInt8)
structure FileC where
 sl : Value
 bs : List Int
 safe : Int
structure DS where
 room : Int
 bm : Nat
 down : Bool
 steps : Int
 armed : Int
 pl : Option Nat
 plan : Int → Int
 fs : List (List UInt8 × Nat)
 fl : List UInt8 → FileC
 role : Nat → Role
def vB (bs : List Int) : List Value := bs.map (Value.int .u8)
def dC (S : DS) : Array Value := #[.int .i64 S.room, .map (some S.bm), .bool S.down, .int .i64 S.steps, .int .i64 S.armed, .map S.pl]
/-- Block bd is a disk. -/
structure DiskIs (w : World) (bd : Nat) (S : DS) : Prop where
 disk : w.heap[bd]? = some (.cells (dC S) 89)
 rd : S.role bd = .disk
 files : w.ownsMap Tryz.prog 9 Rp S.bm S.fs.length (toD S.fs)
 rm : S.role S.bm = .map
 plan : PlanIs w S.pl S.plan
 rp : ∀ b, S.pl = some b → S.role b = .plan
 file : ∀ p ∈ S.fs, w.heap[p.2]? = some (.cells #[(S.fl p.1).sl, .int .i64 (S.fl p.1).safe] 116)
 rf : ∀ p ∈ S.fs, S.role p.2 = .file p.1
 row : ∀ p ∈ S.fs, w.ownsRow 0 5 1 (S.fl p.1).sl (S.fl p.1).bs.length (vB (S.fl p.1).bs)
 rr : ∀ p ∈ S.fs, ∀ b, (S.fl p.1).sl.ownBlock = some b → S.role b = .bytes p.1
 fresh : ∀ b, w.heap.size ≤ b → S.role b = .none
theorem DiskIs.kept {w w' : World} {bd : Nat} {S : DS} (h : DiskIs w bd S) (hk : ∀ b, S.role b ≠ .none → w'.heap[b]? = w.heap[b]?) (hs : w.heap.size ≤ w'.heap.size) : DiskIs w' bd S where
 disk := (hk bd (by rw [h.rd]; simp)).trans h.disk
 rd := h.rd
 files := ownsMap_heap h.files (hk _ (by rw [h.rm]; simp))
 rm := h.rm
 plan := h.plan.kept (fun b hb => hk b (by rw [h.rp b hb]; simp))
 rp := h.rp
 file := fun p hp => (hk _ (by rw [h.rf p hp]; simp)).trans (h.file p hp)
 rf := h.rf
 row := fun p hp => ownsRow_heap (h.row p hp) (fun b hb => hk b (by rw [h.rr p hp b hb]; simp))
 rr := h.rr
 fresh := fun b hb => h.fresh b (by omega)
/-- Only the disk's own block has turned. -/
theorem DiskIs.setD {w w' : World} {bd : Nat} {S : DS} (h : DiskIs w bd S) (dn : Bool) (st : Int) (hk : ∀ b, b ≠ bd → w'.heap[b]? = w.heap[b]?) (hs : w.heap.size ≤ w'.heap.size)
 (hd : w'.heap[bd]? = some (.cells (dC { S with down := dn, steps := st }) 89)) : DiskIs w' bd { S with down := dn, steps := st } where
 disk := hd
 rd := h.rd
 files := ownsMap_heap h.files (hk _ (fun e => by have := h.rm; rw [e, h.rd] at this; cases this))
 rm := h.rm
 plan := h.plan.kept (fun b hb => hk b (fun e => by have := h.rp b hb; rw [e, h.rd] at this; cases this))
 rp := h.rp
 file := fun p hp => (hk _ (fun e => by have := h.rf p hp; rw [e, h.rd] at this; cases this)).trans (h.file p hp)
 rf := h.rf
 row := fun p hp => ownsRow_heap (h.row p hp) (fun b hb => hk b (fun e => by have := h.rr p hp b hb; rw [e, h.rd] at this; cases this))
 rr := h.rr
 fresh := fun b hb => h.fresh b (by omega)
theorem heap_lt {w : World} {b : Nat} {o : Obj} (h : w.heap[b]? = some o) : b < w.heap.size := (Array.getElem?_eq_some_iff.1 h).1
theorem DiskIs.lt {w : World} {bd : Nat} {S : DS} (h : DiskIs w bd S) : bd < w.heap.size := heap_lt h.disk
theorem DiskIs.role_lt {w : World} {bd b : Nat} {S : DS} (h : DiskIs w bd S) (hb : S.role b ≠ .none) : b < w.heap.size := by
 rcases Nat.lt_or_ge b w.heap.size with h1 | h1
 · exact h1
 · exact absurd (h.fresh b h1) hb
/-- What lies beside a disk stays. -/
structure Fr (w w' : World) (S S' : DS) : Prop where
 os : w'.os = w.os
 tape : w'.tape = w.tape
 output : w'.output = w.output
 size : w.heap.size ≤ w'.heap.size
 block : ∀ b, b < w.heap.size → S.role b = .none → w'.heap[b]? = w.heap[b]?
 role : ∀ b, b < w.heap.size → S.role b = .none → S'.role b = .none
theorem Fr.refl (w : World) (S : DS) : Fr w w S S := ⟨rfl, rfl, rfl, Nat.le_refl _, fun _ _ _ => rfl, fun _ _ h => h⟩
theorem Fr.trans {w w' w'' : World} {S S' S'' : DS} (h : Fr w w' S S') (k : Fr w' w'' S' S'') : Fr w w'' S S'' :=
 ⟨k.os.trans h.os, k.tape.trans h.tape, k.output.trans h.output, Nat.le_trans h.size k.size,
  fun b hb hr => (k.block b (Nat.lt_of_lt_of_le hb h.size) (h.role b hb hr)).trans (h.block b hb hr),
  fun b hb hr => k.role b (Nat.lt_of_lt_of_le hb h.size) (h.role b hb hr)⟩
theorem Fr.below {w w' : World} {S : DS} (h : Below w.heap.size w w') : Fr w w' S S :=
 ⟨h.os, h.tape, h.output, h.size, fun b hb _ => h.block b hb, fun _ _ hr => hr⟩
theorem DiskIs.below {w w' : World} {bd : Nat} {S : DS} (h : DiskIs w bd S) (hb : Below w.heap.size w w') : DiskIs w' bd S :=
 h.kept (fun b hr => hb.block b (h.role_lt hr)) hb.size
end Go.Proofs.YtconkienlcegaaaGreatDoor
