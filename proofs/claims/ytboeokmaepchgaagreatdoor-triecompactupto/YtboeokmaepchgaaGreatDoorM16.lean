/- KcKJ, TI, KcKK, KcDB, laid into one text. -/
import Derived.Test.YtboeokmaepchgaaGreatDoorKcKI
import Derived.Test.YtboeokmaepchgaaGreatDoorTH
import Derived.Defers
import Derived.Recover
/- New, Sum, and a nil Hasher. -/
namespace Go.Proofs.YtboeokmaepchgaaGreatDoor.Kc
open Go.RowKit Go.Shelf
set_option linter.unusedSimpArgs false
set_option linter.unusedVariables false

abbrev has0 : Nat → Value := has (fun _ => 0) (fun _ => 0) 0
set_option maxRecDepth 100000 in
set_option maxHeartbeats 1000000 in
/-- keccak.New -/
theorem new_any (w : World) : Calls Tryz.prog 93 #[] w fun e w' => e = .returned (.pointer (some ⟨w.heap.size, 0, none⟩)) ∧ w' = w.alloc (.cells (vec 162 has0) 204) := by
  go_enter Tryz.func93, Tryz.ntmps93
  go_wp2_with (refine wpList_build rfl 204 _ rfl (by kernel_rfl) ?_; generalize hG : (Program.built _ _ _).getD #[] = G; obtain rfl : G = vec 162 has0 := by rw [← hG]; kernel_rfl)
  clear hG
  go_ret
  exact ⟨rfl, rfl⟩
theorem has_new (w : World) (msg : Nat → BitVec 8) : HasIn (w.alloc (.cells (vec 162 has0) 204)) w.heap.size msg 0 :=
  ⟨fun _ => 0, heap_row (heap_alloc_new _ _), fun i hi => absurd hi (by omega)⟩
theorem PathIn.gb {u v : World} {hb : Nat} (h : PathIn u) (hg : u.grownBy v (some hb)) (hne : hb ≠ 1) : PathIn v := fun t ht => hg.cell (h t ht) (by simp; omega)
/-- A slice of bytes in memory. -/
def Bytes (w : World) (ao : Option Addr) (len cap : Nat) (m : Nat → BitVec 8) : Prop :=
  ∃ bb off, (0 < len → ao = some ⟨bb, off, none⟩) ∧ (∀ j, j < len → w.cell? ⟨bb, off + j, none⟩ = some (.int .u8 (I8 (m j)))) ∧ len ≤ cap ∧ cap ≤ 9223372036854775807 ∧ len ≤ 140737488351232
theorem Bytes.below {w w' : World} {ao : Option Addr} {len cap : Nat} {m : Nat → BitVec 8} (h : Bytes w ao len cap m) (hb : Below w.heap.size w w') : Bytes w' ao len cap m := by
  obtain ⟨bb, off, h1, h2, h3⟩ := h
  exact ⟨bb, off, h1, fun j hj => (hb.cell (p := ⟨bb, off + j, none⟩) (block_lt_of_cell (h2 j hj))).trans (h2 j hj), h3⟩
theorem Bytes.gb {w w' : World} {ao : Option Addr} {len cap hb : Nat} {m : Nat → BitVec 8} (h : Bytes w ao len cap m) (hg : w.grownBy w' (some hb)) (hne : ∀ bb off, 0 < len → ao = some ⟨bb, off, none⟩ → bb ≠ hb) : Bytes w' ao len cap m := by
  obtain ⟨bb, off, h1, h2, h3⟩ := h
  exact ⟨bb, off, h1, fun j hj => hg.cell (h2 j hj) (by have := hne bb off (by omega) (h1 (by omega)); simpa using this), h3⟩
set_option maxRecDepth 100000 in
set_option maxHeartbeats 1000000 in
/-- keccak.Sum -/
theorem sum_any (ao : Option Addr) (len cap : Nat) (msg : Nat → BitVec 8) (w : World) (hp : PathIn w) (hby : Bytes w ao len cap msg) :
    Calls Tryz.prog 55 #[.slice ao len cap] w fun e w' => e = .returned (.agg (vec 32 (byt (digest msg len)))) ∧ Below w.heap.size w w' := by
  obtain ⟨bb, off, h1, h2, h3, h4, h5⟩ := hby
  have H0 : Hid (PathIn w ∧ 1 < w.heap.size ∧ (0 < len → ao = some ⟨bb, off, none⟩) ∧ (∀ j, j < len → w.cell? ⟨bb, off + j, none⟩ = some (.int .u8 (I8 (msg j))))) := ⟨hp, pathIn_pos hp, h1, h2⟩
  clear hp h1 h2
  go_enter Tryz.func55, Tryz.ntmps55
  go_wp2_with (first | (go_at_call 93; refine (new_any _).mono ?_; rintro e w1 ⟨rfl, rfl⟩))
  rw [zero32']
  obtain ⟨W, hW⟩ : ∃ W, (w.alloc (.cells (vec 32 (byt fun _ => 0#8)) 33)).alloc (.cells (vec 162 has0) 204) = W := ⟨_, rfl⟩
  have hWb : Below w.heap.size w W := by rw [← hW]; go_grown
  have hWh : HasIn W (w.heap.size + 1) msg 0 := by
    rw [← hW]; have := has_new (w.alloc (.cells (vec 32 (byt fun _ => 0#8)) 33)) msg; simpa using this
  have hW0 : W.rowIs w.heap.size 33 32 (byt fun _ => 0#8) := by
    rw [← hW]; exact (heap_row (heap_alloc_new w (.cells (vec 32 (byt fun _ => 0#8)) 33))).alloc _
  rw [hW]
  clear hW
  have hPW := H0.out.1.below hWb H0.out.2.1
  have hcl : ∀ j, j < len → W.cell? ⟨bb, off + j, none⟩ = some (.int .u8 (I8 (msg (0 + j)))) := fun j hj => by
    rw [Nat.zero_add]; exact (hWb.cell (p := ⟨bb, off + j, none⟩) (block_lt_of_cell (H0.out.2.2.2 j hj))).trans (H0.out.2.2.2 j hj)
  have hneb : 0 < len → bb ≠ w.heap.size + 1 := fun h => by have := block_lt_of_cell (H0.out.2.2.2 0 h); simp at this; omega
  refine (write_any (w.heap.size + 1) 0 len cap bb off ao msg W hPW (by have := H0.out.2.1; omega) hWh H0.out.2.2.1 hcl hneb h3 h4 h5).mono ?_
  rintro e W2 ⟨rfl, hg, hin⟩
  have hP2 : PathIn W2 := hPW.gb hg (by have := H0.out.2.1; omega)
  have hW2 : W2.rowIs w.heap.size 33 32 (byt fun _ => 0#8) := hW0.of_block (hg.block _ hW0.lt (by simp))
  have hB2 : Below w.heap.size w W2 := hWb.grown hg hWb.size (fun k e => by cases e; omega)
  rw [Nat.zero_add] at hin
  have H2 : Hid (PathIn W2 ∧ W2.rowIs w.heap.size 33 32 (byt fun _ => 0#8) ∧ Below w.heap.size w W2 ∧ HasIn W2 (w.heap.size + 1) msg len) := ⟨hP2, hW2, hB2, hin⟩
  clear hP2 hW2 hB2 hin hg hWb hWh hW0 hPW hcl
  go_wp2_with fail
  refine (hsum_any (w.heap.size + 1) len msg W2 H2.out.1 H2.out.2.2.2).mono ?_
  rintro e W3 ⟨rfl, hb3⟩
  have hr3 : W3.rowIs w.heap.size 33 32 (byt fun _ => 0#8) := H2.out.2.1.of_block (hb3.block _ H2.out.2.1.lt)
  go_wp2_with (refine wpList_store_row rfl 33 _ _ rfl w.heap.size _ rfl rfl 33 _ (row_heap hr3) (info29v _) (by simp) (one_byt _ _) ?_)
  refine bodyPost_ret (results_cell_row rfl _ _ _ _ _ _ _ rfl (setRow_heap _ _ _ _ _ _ (row_heap hr3)) Tryz.underlying33 rfl (info29v _)) rfl ⟨rfl, ?_⟩
  exact ((Only.refl _ _).setRow _).below (H2.out.2.2.1.trans (hb3.mono H2.out.2.2.1.size)) (Nat.le_refl _)
end Go.Proofs.YtboeokmaepchgaaGreatDoor.Kc
/- trie: a nil tree. -/
namespace Go.Proofs.YtboeokmaepchgaaGreatDoor
open Go.RowKit Go.Maps Go.Joins Go.Shelf
set_option linter.unusedSimpArgs false
set_option linter.unusedVariables false
abbrev z32 : Array Value := Kc.vec 32 (Kc.byt fun _ => 0#8)
theorem results_cell_row2 {fn : Func} {p q : Tmp} {ty : TypeId} (h : fn.results = #[.cell p ty, .tmp q]) (tmps : Array Value) (w : World) (g : Nat) (cs : Array Value) (v : Value)
    (hp : tmps.getD p undef = .pointer (some ⟨g, 0, none⟩)) (hq : tmps.getD q undef = v) (hl : (loadVar ty ⟨g, 0, none⟩).run Tryz.prog w = .ok (.agg cs) w) :
    (results fn tmps).run Tryz.prog w = .ok (.tuple #[.agg cs, v]) w := by
  have hp' : tmps[p]?.getD undef = .pointer (some ⟨g, 0, none⟩) := by simpa using hp
  have hq' : tmps[q]?.getD undef = v := by simpa using hq
  simp [results, h, hp', hq', asAddr, hl]
theorem load33 {w : World} {b : Nat} {f : Nat → Value} (h : w.heap[b]? = some (.cells (Kc.vec 32 f) 33)) : (loadVar 33 ⟨b, 0, none⟩).run Tryz.prog w = .ok (.agg (Kc.vec 32 f)) w :=
  run_loadVar_row w b 33 33 (Kc.vec 32 f) (0, 0) _ h Tryz.underlying33 rfl (Kc.info29v _)
set_option maxRecDepth 100000 in
set_option maxHeartbeats 4000000 in
/-- Get of a nil tree -/
theorem get_nil {w : World} {a : Option Addr} {n cap : Nat} :
    Calls Tryz.prog 9 #[.pointer none, .slice a n cap] w fun e w' => e = .returned (.tuple #[.slice none 0 0, .bool false, .int .i64 2]) ∧ Below w.heap.size w w' := by
  have hB : Below w.heap.size w (((w.alloc (.cells #[.slice none 0 0] 22)).alloc (.cells #[.bool false] 4)).alloc (.cells #[.int .i64 2] 23)) := by go_grown
  go_enter_defers Tryz.func9, Tryz.ntmps9
  go_wp2
  simp [bodyPostD, Leaves, settle, results, Tryz.results9, go_sem]
  exact hB
set_option maxRecDepth 100000 in
set_option maxHeartbeats 4000000 in
/-- set of a nil tree -/
theorem set_nil {w : World} {a b : Option Addr} {n cap m dap : Nat} :
    Calls Tryz.prog 48 #[.pointer none, .slice a n cap, .slice b m dap] w fun e w' => e = .returned (.int .i64 2) ∧ Below w.heap.size w w' := by
  have hB : Below w.heap.size w (w.alloc (.cells #[.int .i64 2] 23)) := by go_grown
  go_enter_defers Tryz.func48, Tryz.ntmps48
  go_wp2
  simp [bodyPostD, Leaves, settle, results, Tryz.results48, go_sem]
  exact hB
set_option maxRecDepth 100000 in
set_option maxHeartbeats 4000000 in
theorem put_nil {w : World} {a b : Option Addr} {n cap m dap : Nat} :
    Calls Tryz.prog 13 #[.pointer none, .slice a n cap, .slice b m dap] w fun e w' => e = .returned (.int .i64 2) ∧ Below w.heap.size w w' := by
  go_enter Tryz.func13, Tryz.ntmps13
  go_wp2_with (first | (refine Calls.mono set_nil ?_; rintro e w1 ⟨rfl, hb1⟩))
  go_ret
  exact ⟨rfl, hb1⟩
set_option maxRecDepth 100000 in
set_option maxHeartbeats 4000000 in
theorem delete_nil {w : World} {a : Option Addr} {n cap : Nat} :
    Calls Tryz.prog 14 #[.pointer none, .slice a n cap] w fun e w' => e = .returned (.int .i64 2) ∧ Below w.heap.size w w' := by
  go_enter Tryz.func14, Tryz.ntmps14
  go_wp2_with (first | (refine Calls.mono set_nil ?_; rintro e w1 ⟨rfl, hb1⟩))
  go_ret
  exact ⟨rfl, hb1⟩
set_option maxRecDepth 100000 in
set_option maxHeartbeats 4000000 in
/-- All of a nil tree -/
theorem all_nil {w : World} :
    Calls Tryz.prog 10 #[.pointer none] w fun e w' => e = .returned (.tuple #[.slice none 0 0, .int .i64 2]) ∧ Below w.heap.size w w' := by
  have hB : Below w.heap.size w ((w.alloc (.cells #[.slice none 0 0] 29)).alloc (.cells #[.int .i64 2] 23)) := by go_grown
  go_enter_defers Tryz.func10, Tryz.ntmps10
  go_wp2
  simp [bodyPostD, Leaves, settle, results, Tryz.results10, go_sem]
  exact hB
set_option maxRecDepth 100000 in
set_option maxHeartbeats 4000000 in
/-- Root of a nil tree -/
theorem root_nil {w : World} :
    Calls Tryz.prog 11 #[.pointer none] w fun e w' => e = .returned (.tuple #[.agg z32, .slice none 0 0]) ∧ Below w.heap.size w w' := by
  go_enter Tryz.func11, Tryz.ntmps11
  go_wp2_with (first | (refine wpList_store_row rfl 33 _ _ rfl w.heap.size z32 rfl rfl 33 _ (heap_alloc_new _ _) (Kc.info29v _) rfl (Kc.one_byt _ _) ?_; rw [World.setRow_alloc_new]) | (refine wpList_build rfl 33 _ rfl (by kernel_rfl) ?_; generalize hG : (Program.built _ _ _).getD #[] = G; obtain rfl : G = z32 := by rw [← hG]; kernel_rfl))
  clear hG
  refine bodyPost_ret (results_cell_row2 rfl _ _ _ _ _ rfl rfl (load33 (heap_alloc_new _ _))) rfl ⟨rfl, by go_grown⟩
end Go.Proofs.YtboeokmaepchgaaGreatDoor
/- The chapter's examples: the permutation of noughts, the hashes of no bytes and of abc, reckoned by the kernel round by round. -/
namespace Go.Proofs.YtboeokmaepchgaaGreatDoor.Kc
open Go.RowKit
set_option maxRecDepth 100000

def lanesOf (l : List Nat) (j : Nat) : BitVec 64 := BitVec.ofNat 64 (l.getD j 0)
theorem same_of {S : Nat → BitVec 64} {l : List Nat} (h : (List.range 25).map (fun j => (S j).toNat) = l) : Same S (lanesOf l) := fun j hj => by
  unfold lanesOf
  have : l.getD j 0 = (S j).toNat := by
    rw [← h, List.getD, List.getElem?_map, List.getElem?_range hj]; rfl
  rw [this, BitVec.ofNat_toNat, BitVec.setWidth_eq]
theorem same_step {S : Nat → BitVec 64} {l m : List Nat} {k : Nat} (h : Same (permTo S k) (lanesOf l)) (e : (List.range 25).map (fun j => (round (lanesOf l) (RC k) j).toNat) = m) : Same (permTo S (k + 1)) (lanesOf m) :=
  (round_same h (RC k)).trans (same_of e)
def aL0 : List Nat := [1, 0, 0, 0, 0, 0, 0, 0, 0, 0, 0, 0, 0, 0, 0, 0, 9223372036854775808, 0, 0, 0, 0, 0, 0, 0, 0]
def aL1 : List Nat := [4398046511105, 17592186044416, 4398046543872, 0, 17592186077184, 8, 52776560230400, 1152921504606846984, 52776558133248, 1152921504608944128, 2, 544, 262144, 514, 262176, 268436480, 68719493120, 1024, 268451840, 68719476736, 2305844108725321728, 2199023255552, 1099511627780, 2305845208236949504, 4]
def aL2 : List Nat := [3904711243048682726, 1207872589841957126, 3184368193241127169, 12971028319727649889, 10286551402689075458, 1259783720018274, 12214679202016067586, 9224121225299901428, 2992272534782738451, 9800689182623078597, 4611726720294328428, 11685850236297012, 1495365005022904395, 15813382930697286, 6111808659584533265, 124981832595311936, 2684240834651972352, 4912301736543682948, 2488263262048755776, 4778390286886047620, 1163347847091065233, 16868443555924821730, 154580546982776916, 15564660919037354401, 2456770817776948750]
def aL3 : List Nat := [8289102824591434380, 2650440079073489379, 11459863657423534455, 3078203046191370419, 10243614441579508732, 6715684478468316285, 9021721613749738627, 16323907559936263589, 14712371453287876238, 13207516449244145029, 6716728777335539109, 2516792122779427716, 5461754274945430388, 3341045827627689583, 3296329752392194682, 14297203439033465259, 11493424483223189197, 10504499887245279853, 3308135633588744113, 5098721825536174192, 8664368315221462042, 11716894083276002874, 2098923162028634215, 7303567510403455548, 4883930803803657273]
def aS : Nat → BitVec 64 := absTo (stAfter (fun _ => 0) 0) (lastB (fun _ => 0) 0) 136
theorem a0 : Same (permTo aS 0) (lanesOf aL0) := same_of (by kernel_rfl)
theorem a1 : Same (permTo aS 1) (lanesOf aL1) := same_step a0 (by kernel_rfl)
theorem a2 : Same (permTo aS 2) (lanesOf aL2) := same_step a1 (by kernel_rfl)
theorem a3 : Same (permTo aS 3) (lanesOf aL3) := same_step a2 (by kernel_rfl)
end Go.Proofs.YtboeokmaepchgaaGreatDoor.Kc
/- A message by its bytes. -/
namespace Go.Proofs.YtboeokmaepchgaaGreatDoor.Kc
open Go.RowKit
/-- The message of a list of bytes. -/
def mB (bs : List Int) (j : Nat) : BitVec 8 := BitVec.ofInt 8 (bs.getD j 0)
theorem I8_mB {bs : List Int} {j : Nat} {x : Int} (h : bs[j]? = some x) (h0 : 0 ≤ x) (h1 : x < 256) : I8 (mB bs j) = x := by
  unfold I8 mB
  rw [List.getD_eq_getElem?_getD, h]
  simp only [Option.getD_some, BitVec.toNat_ofInt]
  omega
theorem perm24 (S : Nat → BitVec 64) : permTo S 24 = permute RCs S := rfl
theorem dig_at {msg : Nat → BitVec 8} {n : Nat} {S : Nat → BitVec 64} {l : List Nat} (hS : S = absTo (stAfter msg (n / 136)) (lastB msg n) 136) (h : Same (permute RCs S) (lanesOf l)) (i : Nat) (hi : i < 32) : digest msg n i = outb (lanesOf l) i := by
  unfold digest outb; rw [← hS, h (i / 8) (by omega)]
end Go.Proofs.YtboeokmaepchgaaGreatDoor.Kc
