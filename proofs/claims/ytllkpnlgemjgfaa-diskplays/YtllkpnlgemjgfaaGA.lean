/- DA, DB, DC, laid into one text. -/
import Derived.Test.YtllkpnlgemjgfaaIter
import Derived.Test.YtllkpnlgemjgfaaChecked
import Derived.WalkKit
import Derived.WalkSpells
import Derived.StillTactics
import Derived.Laws.Pointers
import Derived.Deep.RegionHeld3
import Derived.RowKit3
import Derived.Handy
import Derived.Maps.RangeWalk
import Derived.Maps.Ext
import Derived.BigQuiet
import Derived.Lib.SmallJoins
/- disk: which names files may have, in the program and in the document. -/
namespace Go.Proofs.Ytllkpnlgemjgfaa
open Go.RowKit Go.Maps
set_option linter.unusedSimpArgs false
set_option linter.unusedVariables false
/-- A byte that a name may have. -/
def okB (b : UInt8) : Bool := decide (33 ≤ b.toNat) && decide (b.toNat ≤ 126)
/-- A name that a file may have. -/
def nameB (s : ByteArray) : Bool := decide (1 ≤ s.size) && decide (s.size ≤ 32) && s.data.toList.all okB
theorem allTake_succ {s : ByteArray} {k : Nat} (hk : k < s.size) : (s.data.toList.take (k + 1)).all okB = ((s.data.toList.take k).all okB && okB s[k]) := by
  have hk' : k < s.data.toList.length := by simpa using hk
  rw [List.take_add_one, List.getElem?_eq_getElem hk', List.all_append]
  simp
  rfl
theorem nameB_of {s : ByteArray} (h1 : 1 ≤ s.size) (h2 : s.size ≤ 32) : nameB s = s.data.toList.all okB := by
  simp [nameB, h1, h2]
theorem nameB_false {s : ByteArray} {k : Nat} (hk : k < s.size) (h : okB s[k] = false) : nameB s = false := by
  have : s.data.toList.all okB = false := by
    rw [List.all_eq_false]
    refine ⟨s[k], ?_, by simp [h]⟩
    have hk' : k < s.data.toList.length := by simpa using hk
    exact List.getElem_mem hk'
  simp [nameB, this]
set_option maxHeartbeats 1000000 in
/-- disk.Name -/
theorem name_any (s : ByteArray) (hs : s.size ≤ 9223372036854775807) (w : World) :
    Calls Try.prog 21 #[.string s] w fun e w' => e = .returned (.bool (nameB s)) ∧ w' = w := by
  by_cases h1 : 1 ≤ s.size ∧ s.size ≤ 32
  · obtain ⟨h1, h2⟩ := h1
    have d1 : decide ((s.size : Int) < 1) = false := by simp; omega
    have d2 : decide ((32 : Int) < s.size) = false := by simp; omega
    go_enter Try.func21, Try.ntmps21
    go_wp2
    go_loop [14] (fun i => ∃ k : Nat, k ≤ s.size ∧ i = .int .i64 k ∧ (s.data.toList.take k).all okB = true) (fun i => s.size - (intOf i).toNat)
    case atStart => exact ⟨0, Nat.zero_le _, rfl, rfl⟩
    case round =>
      obtain ⟨k, hk, rfl, hall⟩ := hrel
      go_wp2
      · have hk : k < s.size := by assumption
        have hb : (s[k].toNat : Int) < 33 ∨ 126 < (s[k].toNat : Int) := by assumption
        go_ret
        exact ⟨by rw [nameB_false hk (by simp [okB]; omega)]; rfl, rfl⟩
      · have hk : k < s.size := by assumption
        have hb : 33 ≤ (s[k].toNat : Int) ∧ (s[k].toNat : Int) ≤ 126 := by assumption
        go_round
        case rel => exact ⟨k + 1, by omega, by go_num, by rw [allTake_succ hk, hall]; simp [okB]; omega⟩
        case measure => simp [intOf]; omega
      · have hk : k < s.size := by assumption
        have hb : (s[k].toNat : Int) < 33 := by assumption
        go_ret
        exact ⟨by rw [nameB_false hk (by simp [okB]; omega)]; rfl, rfl⟩
      · have hk' : ¬ k < s.size := by assumption
        obtain rfl : k = s.size := by omega
        go_ret
        refine ⟨?_, rfl⟩
        rw [nameB_of h1 h2]
        rw [List.take_of_length_le (by simp)] at hall
        rw [hall]
        rfl
  · have hf : nameB s = false := by
      simp only [nameB, Bool.and_eq_false_iff, decide_eq_false_iff_not]
      omega
    rw [hf]
    by_cases h0 : s.size < 1
    · have d1 : decide ((s.size : Int) < 1) = true := by simp; omega
      go_enter Try.func21, Try.ntmps21
      go_wp2
      go_ret
      exact ⟨rfl, rfl⟩
    · have d1 : decide ((s.size : Int) < 1) = false := by simp; omega
      have d2 : decide ((32 : Int) < s.size) = true := by simp; omega
      go_enter Try.func21, Try.ntmps21
      go_wp2
      go_ret
      exact ⟨rfl, rfl⟩
set_option maxHeartbeats 1000000 in
/-- the document's Name -/
theorem rname_any (s : ByteArray) (hs : s.size ≤ 9223372036854775807) (w : World) :
    Calls Try.prog 22 #[.string s] w fun e w' => e = .returned (.bool (nameB s)) ∧ w' = w := by
  by_cases h1 : 1 ≤ s.size ∧ s.size ≤ 32
  · obtain ⟨h1, h2⟩ := h1
    have d1 : decide ((s.size : Int) < 1) = false := by simp; omega
    have d2 : decide ((32 : Int) < s.size) = false := by simp; omega
    go_enter Try.func22, Try.ntmps22
    go_wp2
    go_loop [3] (fun i => ∃ k : Nat, k ≤ s.size ∧ i = .int .i64 k ∧ (s.data.toList.take k).all okB = true) (fun i => s.size - (intOf i).toNat)
    case atStart => exact ⟨0, Nat.zero_le _, rfl, rfl⟩
    case round =>
      obtain ⟨k, hk, rfl, hall⟩ := hrel
      go_wp2
      · have hk : k < s.size := by assumption
        have hb : (s[k].toNat : Int) < 33 ∨ 126 < (s[k].toNat : Int) := by assumption
        go_ret
        exact ⟨by rw [nameB_false hk (by simp [okB]; omega)]; rfl, rfl⟩
      · have hk : k < s.size := by assumption
        have hb : 33 ≤ (s[k].toNat : Int) ∧ (s[k].toNat : Int) ≤ 126 := by assumption
        go_round
        case rel => exact ⟨k + 1, by omega, by go_num, by rw [allTake_succ hk, hall]; simp [okB]; omega⟩
        case measure => simp [intOf]; omega
      · have hk : k < s.size := by assumption
        have hb : (s[k].toNat : Int) < 33 := by assumption
        go_ret
        exact ⟨by rw [nameB_false hk (by simp [okB]; omega)]; rfl, rfl⟩
      · have hk' : ¬ k < s.size := by assumption
        obtain rfl : k = s.size := by omega
        go_ret
        refine ⟨?_, rfl⟩
        rw [nameB_of h1 h2]
        rw [List.take_of_length_le (by simp)] at hall
        rw [hall]
        rfl
  · have hf : nameB s = false := by
      simp only [nameB, Bool.and_eq_false_iff, decide_eq_false_iff_not]
      omega
    rw [hf]
    by_cases h0 : s.size < 1
    · have d1 : decide ((s.size : Int) < 1) = true := by simp; omega
      go_enter Try.func22, Try.ntmps22
      go_wp2
      go_ret
      exact ⟨rfl, rfl⟩
    · have d1 : decide ((s.size : Int) < 1) = false := by simp; omega
      have d2 : decide ((32 : Int) < s.size) = true := by simp; omega
      go_enter Try.func22, Try.ntmps22
      go_wp2
      go_ret
      exact ⟨rfl, rfl⟩
end Go.Proofs.Ytllkpnlgemjgfaa
/- disk: what a nil disk says. -/
namespace Go.Proofs.Ytllkpnlgemjgfaa
open Go.RowKit Go.Maps
set_option linter.unusedSimpArgs false
set_option linter.unusedVariables false
set_option maxHeartbeats 1000000 in
theorem step_nil (v : Value) (w : World) : Calls Try.prog 37 #[.pointer none, v] w fun e w' => e = .returned (.int .i64 2) ∧ w' = w := by
  go_enter Try.func37, Try.ntmps37
  go_wp2
  go_ret
  exact ⟨rfl, rfl⟩
set_option maxHeartbeats 1000000 in
theorem find_nil (v : Value) (w : World) : Calls Try.prog 39 #[.pointer none, v] w fun e w' => e = .returned (.tuple #[.pointer none, .int .i64 2]) ∧ w' = w := by
  go_enter Try.func39, Try.ntmps39
  go_wp2_with (first
    | (go_at_call 37; refine (step_nil _ _).mono ?_; rintro e w' ⟨rfl, rfl⟩)
    | go_in)
  go_returns
  exact ⟨rfl, rfl⟩
set_option maxHeartbeats 1000000 in
theorem append_nil (s : ByteArray) (v : Value) (w : World) : Calls Try.prog 14 #[.pointer none, .string s, v] w fun e w' => e = .returned (.int .i64 2) ∧ Below w.heap.size w w' := by
  go_enter Try.func14, Try.ntmps14
  go_wp2_with (first
    | (go_at_call 37; refine (step_nil _ _).mono ?_; rintro e w' ⟨rfl, rfl⟩)
    | go_in)
  go_returns
  exact ⟨rfl, by go_grown⟩
set_option maxHeartbeats 1000000 in
theorem sync_nil (s : ByteArray) (w : World) : Calls Try.prog 15 #[.pointer none, .string s] w fun e w' => e = .returned (.int .i64 2) ∧ Below w.heap.size w w' := by
  go_enter Try.func15, Try.ntmps15
  go_wp2_with (first
    | (go_at_call 39; refine (find_nil _ _).mono ?_; rintro e w' ⟨rfl, rfl⟩)
    | go_in)
  go_returns
  exact ⟨rfl, by go_grown⟩
set_option maxHeartbeats 1000000 in
theorem read_nil (s : ByteArray) (w : World) : Calls Try.prog 19 #[.pointer none, .string s] w fun e w' => e = .returned (.tuple #[.slice none 0 0, .int .i64 2]) ∧ Below w.heap.size w w' := by
  go_enter Try.func19, Try.ntmps19
  go_wp2_with (first
    | (go_at_call 39; refine (find_nil _ _).mono ?_; rintro e w' ⟨rfl, rfl⟩)
    | go_in)
  go_returns
  exact ⟨rfl, by go_grown⟩
set_option maxHeartbeats 1000000 in
theorem truncate_nil (s : ByteArray) (n : Int) (w : World) : Calls Try.prog 23 #[.pointer none, .string s, .int .i64 n] w fun e w' => e = .returned (.int .i64 2) ∧ Below w.heap.size w w' := by
  go_enter Try.func23, Try.ntmps23
  go_wp2_with (first
    | (go_at_call 39; refine (find_nil _ _).mono ?_; rintro e w' ⟨rfl, rfl⟩)
    | go_in)
  go_returns
  exact ⟨rfl, by go_grown⟩
set_option maxHeartbeats 1000000 in
theorem rename_nil (s t : ByteArray) (w : World) : Calls Try.prog 24 #[.pointer none, .string s, .string t] w fun e w' => e = .returned (.int .i64 2) ∧ Below w.heap.size w w' := by
  go_enter Try.func24, Try.ntmps24
  go_wp2_with (first
    | (go_at_call 39; refine (find_nil _ _).mono ?_; rintro e w' ⟨rfl, rfl⟩)
    | go_in)
  go_returns
  exact ⟨rfl, by go_grown⟩
set_option maxHeartbeats 1000000 in
theorem remove_nil (s : ByteArray) (w : World) : Calls Try.prog 25 #[.pointer none, .string s] w fun e w' => e = .returned (.int .i64 2) ∧ Below w.heap.size w w' := by
  go_enter Try.func25, Try.ntmps25
  go_wp2_with (first
    | (go_at_call 39; refine (find_nil _ _).mono ?_; rintro e w' ⟨rfl, rfl⟩)
    | go_in)
  go_returns
  exact ⟨rfl, by go_grown⟩
set_option maxHeartbeats 1000000 in
theorem arm_nil (v : Value) (w : World) : Calls Try.prog 26 #[.pointer none, v] w fun e w' => e = .returned (.int .i64 2) ∧ Below w.heap.size w w' := by
  go_enter Try.func26, Try.ntmps26
  go_wp2
  go_returns
  exact ⟨rfl, by go_grown⟩
set_option maxHeartbeats 1000000 in
theorem spoil_nil (s : ByteArray) (n b : Int) (w : World) : Calls Try.prog 27 #[.pointer none, .string s, .int .i64 n, .int .u8 b] w fun e w' => e = .returned (.int .i64 2) ∧ Below w.heap.size w w' := by
  go_enter Try.func27, Try.ntmps27
  go_wp2
  go_returns
  exact ⟨rfl, by go_grown⟩
set_option maxHeartbeats 1000000 in
theorem list_nil (w : World) : Calls Try.prog 10 #[.pointer none] w fun e w' => e = .returned (.slice none 0 0) ∧ Below w.heap.size w w' := by
  go_enter Try.func10, Try.ntmps10
  go_wp2
  go_returns
  exact ⟨rfl, by go_grown⟩
set_option maxHeartbeats 1000000 in
theorem down_nil (w : World) : Calls Try.prog 12 #[.pointer none] w fun e w' => e = .returned (.bool false) ∧ Below w.heap.size w w' := by
  go_enter Try.func12, Try.ntmps12
  go_wp2
  go_returns
  exact ⟨rfl, by go_grown⟩
set_option maxHeartbeats 1000000 in
theorem steps_nil (w : World) : Calls Try.prog 13 #[.pointer none] w fun e w' => e = .returned (.int .i64 0) ∧ Below w.heap.size w w' := by
  go_enter Try.func13, Try.ntmps13
  go_wp2
  go_returns
  exact ⟨rfl, by go_grown⟩
set_option maxHeartbeats 1000000 in
theorem boot_nil (v : Value) (w : World) : Calls Try.prog 18 #[.pointer none, v] w fun e w' => e = .returned (.tuple #[]) ∧ Below w.heap.size w w' := by
  go_enter Try.func18, Try.ntmps18
  go_wp2
  go_returns
  exact ⟨rfl, by go_grown⟩
end Go.Proofs.Ytllkpnlgemjgfaa
/- disk: how a disk lies in memory. -/
namespace Go.Proofs.Ytllkpnlgemjgfaa
open Go.RowKit Go.Maps
set_option linter.unusedSimpArgs false
set_option linter.unusedVariables false
/-- How an element of the map of files reads: by its block. -/
def Rp (v : Value) : Option (DataW Unit × List MemPlace) :=
  match v with
  | .pointer none => some (.nil, [])
  | .pointer (some ⟨g, 0, none⟩) => some (.lit (.int .i64 (g : Int)), [])
  | _ => none
def pv : Option Nat → Value
  | none => .pointer none
  | some g => .pointer (some ⟨g, 0, none⟩)
theorem Rp_inv (v : Value) (y : DataW Unit × List MemPlace) (h : Rp v = some y) : ∃ c, v = pv c := by
  unfold Rp at h
  split at h
  · exact ⟨none, rfl⟩
  · exact ⟨some _, rfl⟩
  · cases h
theorem Rp_lit {v : Value} {g : Nat} {ps : List MemPlace} (h : Rp v = some (.lit (.int .i64 (g : Int)), ps)) : v = .pointer (some ⟨g, 0, none⟩) := by
  unfold Rp at h
  split at h
  · cases h
  · simp at h
    obtain ⟨h, _⟩ := h
    rw [Int.ofNat_inj.1 h]
  · cases h
theorem Rp_nil {v : Value} {ps : List MemPlace} (h : Rp v = some (.nil, ps)) : v = .pointer none := by
  unfold Rp at h
  split at h
  · rfl
  · simp at h
  · cases h
/-- The map of files, by their names and blocks. -/
def toE (p : List UInt8 × Nat) : Lit × DataW Unit := (.string p.1, .lit (.int .i64 (p.2 : Int)))
def toD (fs : List (List UInt8 × Nat)) : DataW Unit := .map (fs.map toE)
def look (fs : List (List UInt8 × Nat)) (n : List UInt8) : Option Nat := (fs.find? (fun p => p.1 == n)).map (·.2)
theorem has_toD (fs : List (List UInt8 × Nat)) (n : List UInt8) : Maps.has (toD fs) (.string n) = (look fs n).isSome := by
  unfold toD look
  rw [has_eq]
  induction fs with
  | nil => rfl
  | cons p r ih =>
    simp only [List.map_cons, List.any_cons, List.find?_cons, toE, Lit.sameKey]
    cases h : (p.1 == n)
    · simp only [Bool.false_or]
      exact ih
    · simp
theorem at_toD (fs : List (List UInt8 × Nat)) (n : List UInt8) (z : DataW Unit) : (toD fs).atKey (.string n) z = match look fs n with | some g => .lit (.int .i64 (g : Int)) | none => z := by
  unfold toD look DataW.atKey
  induction fs with
  | nil => rfl
  | cons p r ih =>
    simp only [List.map_cons, List.find?_cons, toE, Lit.sameKey]
    cases h : (p.1 == n)
    · exact ih
    · simp
theorem size_toD (fs : List (List UInt8 × Nat)) : Maps.size (toD fs) = fs.length := by simp [toD, size_eq]
theorem look_mem {fs : List (List UInt8 × Nat)} {n : List UInt8} {g : Nat} (h : look fs n = some g) : (n, g) ∈ fs := by
  unfold look at h
  obtain ⟨p, hp, rfl⟩ := Option.map_eq_some_iff.1 h
  have h1 := List.find?_some hp
  have h2 := List.mem_of_find?_eq_some hp
  simp at h1
  rw [← h1]
  exact h2
def insL (x : List UInt8 × Nat) : List (List UInt8 × Nat) → List (List UInt8 × Nat)
  | [] => [x]
  | y :: r => if bytesBefore x.1 y.1 then x :: y :: r else y :: insL x r
def delL (fs : List (List UInt8 × Nat)) (n : List UInt8) : List (List UInt8 × Nat) := fs.filter fun p => !(p.1 == n)
def putL (fs : List (List UInt8 × Nat)) (n : List UInt8) (g : Nat) : List (List UInt8 × Nat) := insL (n, g) (delL fs n)
theorem ins_toE (x : List UInt8 × Nat) : ∀ l : List (List UInt8 × Nat), DataW.insert (toE x) (l.map toE) = (insL x l).map toE
  | [] => rfl
  | y :: r => by
    simp only [List.map_cons, DataW.insert, insL]
    have e : (toE x).1.before (toE y).1 = bytesBefore x.1 y.1 := rfl
    rw [e]
    split
    · rfl
    · rw [ins_toE x r]; rfl
theorem del_map (n : List UInt8) : ∀ l : List (List UInt8 × Nat), (l.map toE).filter (fun p => !p.1.sameKey (.string n)) = (delL l n).map toE
  | [] => rfl
  | y :: r => by
    have e : (toE y).1.sameKey (.string n) = (y.1 == n) := rfl
    simp only [List.map_cons, List.filter_cons, delL, e]
    have := del_map n r
    unfold delL at this
    split
    · rw [this]; rfl
    · exact this
theorem put_toD (fs : List (List UInt8 × Nat)) (n : List UInt8) (g : Nat) : (toD fs).put (.string n) (.lit (.int .i64 (g : Int))) = toD (putL fs n g) := by
  unfold toD DataW.put
  show DataW.map _ = _
  rw [del_map]
  exact congrArg DataW.map (ins_toE (n, g) _)
theorem del_toD (fs : List (List UInt8 × Nat)) (n : List UInt8) : (toD fs).del (.string n) = toD (delL fs n) := by
  unfold toD DataW.del
  show DataW.map _ = _
  rw [del_map]
theorem keys_toD (fs : List (List UInt8 × Nat)) : strKeys (toD fs) = fs.map (·.1) := by
  simp [toD, strKeys, toE, strOf, Function.comp_def]
theorem law3 : Keyed Try.prog 3 := int_keyed Try.underlying3
theorem law9 : Keyed Try.prog 9 := string_keyed Try.underlying9
theorem zero3 (w : World) : (zeroValue 3).run Try.prog w = .ok (.int .i64 0) w := by kernel_rfl
theorem zero66 (w : World) : (zeroValue 66).run Try.prog w = .ok (.pointer none) w := by kernel_rfl
/-- The plan: the kinds of faults by steps. -/
def PlanIs (w : World) (pl : Option Nat) (f : Int → Int) : Prop :=
  match pl with
  | none => ∀ x, f x = 0
  | some b => ∃ n D, w.ownsMap (H := Unit) Try.prog 3 (plainElem Try.prog 3) b n D ∧ ∀ x, (Lit.int .i64 x).wf = true → D.atKey (.int .i64 x) (.lit (.int .i64 0)) = .lit (.int .i64 (f x))
theorem PlanIs.look {w : World} {pl : Option Nat} {f : Int → Int} (h : PlanIs w pl f) {x : Int} (hx : (Lit.int .i64 x).wf = true) :
    (Instr.lookup 57 (.map pl) (.int .i64 x) false).run Try.prog w = .ok (.int .i64 (f x)) w := by
  cases pl with
  | none =>
    have := look_nil (w := w) false law3 Try.underlying57 (zero3 _) (keyOf_int_mk Try.underlying3 hx)
    rw [show f x = 0 from h x]
    exact this
  | some b =>
    obtain ⟨n, D, hown, hf⟩ := h
    obtain ⟨c, hrun, hat, _⟩ := hown.lookup_int law3 Try.underlying57 Try.underlying3 (zero3 _) (keyOf_int_mk Try.underlying3 hx)
    rw [hf x hx] at hat
    simp at hat
    rw [hat]
    exact hrun
theorem PlanIs.kept {w w' : World} {pl : Option Nat} {f : Int → Int} (h : PlanIs w pl f) (hk : ∀ b, pl = some b → w'.heap[b]? = w.heap[b]?) : PlanIs w' pl f := by
  cases pl with
  | none => exact h
  | some b =>
    obtain ⟨n, D, ⟨es, clock, hb, F, hs, hD⟩, hf⟩ := h
    exact ⟨n, D, ⟨es, clock, (hk b rfl).trans hb, F, hs, hD⟩, hf⟩
theorem ownsMap_heap {w w' : World} {k : TypeId} {R : Value → Option (DataW Unit × List MemPlace)} {b n : Nat} {D : DataW Unit} (h : w.ownsMap Try.prog k R b n D) (hk : w'.heap[b]? = w.heap[b]?) : w'.ownsMap Try.prog k R b n D := by
  obtain ⟨es, clock, hb, F, hs, hD⟩ := h
  exact ⟨es, clock, hk.trans hb, F, hs, hD⟩
theorem ownsMap_size {w : World} {k : TypeId} {R : Value → Option (DataW Unit × List MemPlace)} {b n : Nat} {D : DataW Unit} (h : w.ownsMap Try.prog k R b n D) : w.ownsMap Try.prog k R b (Maps.size D) D := by
  obtain ⟨es, clock, hb, F, hs, rfl⟩ := h
  exact ⟨es, clock, hb, F, by simp [Maps.size, length_sorted], rfl⟩
theorem ownsRow_heap {w w' : World} {base size n : Nat} {e : TypeId} {v : Value} {xs : List Value} (h : w.ownsRow base e size v n xs) (hk : ∀ b, v.ownBlock = some b → w'.heap[b]? = w.heap[b]?) : w'.ownsRow base e size v n xs := by
  obtain ⟨h1, h2⟩ := h
  refine ⟨h1, ?_⟩
  rcases h2 with h2 | ⟨g, cap, cur, rfl, hb, hg, hr⟩
  · exact Or.inl h2
  · exact Or.inr ⟨g, cap, cur, rfl, hb, (hk g rfl).trans hg, hr⟩
inductive Role where
  | none | disk | map | plan
  | file (n : List UInt8)
  | bytes (n : List UInt8)
structure FileC where
  sl : Value
  bs : List Int
  safe : Int
structure DS where
  room : Int
  bm : Nat
  down : Bool
  steps : Int
  armed : Int
  pl : Option Nat
  plan : Int → Int
  fs : List (List UInt8 × Nat)
  fl : List UInt8 → FileC
  role : Nat → Role
def vB (bs : List Int) : List Value := bs.map (Value.int .u8)
def dC (S : DS) : Array Value := #[.int .i64 S.room, .map (some S.bm), .bool S.down, .int .i64 S.steps, .int .i64 S.armed, .map S.pl]
/-- Block bd is a disk. -/
structure DiskIs (w : World) (bd : Nat) (S : DS) : Prop where
  disk : w.heap[bd]? = some (.cells (dC S) 59)
  rd : S.role bd = .disk
  files : w.ownsMap Try.prog 9 Rp S.bm S.fs.length (toD S.fs)
  rm : S.role S.bm = .map
  plan : PlanIs w S.pl S.plan
  rp : ∀ b, S.pl = some b → S.role b = .plan
  file : ∀ p ∈ S.fs, w.heap[p.2]? = some (.cells #[(S.fl p.1).sl, .int .i64 (S.fl p.1).safe] 69)
  rf : ∀ p ∈ S.fs, S.role p.2 = .file p.1
  row : ∀ p ∈ S.fs, w.ownsRow 0 5 1 (S.fl p.1).sl (S.fl p.1).bs.length (vB (S.fl p.1).bs)
  rr : ∀ p ∈ S.fs, ∀ b, (S.fl p.1).sl.ownBlock = some b → S.role b = .bytes p.1
  fresh : ∀ b, w.heap.size ≤ b → S.role b = .none
theorem DiskIs.kept {w w' : World} {bd : Nat} {S : DS} (h : DiskIs w bd S) (hk : ∀ b, S.role b ≠ .none → w'.heap[b]? = w.heap[b]?) (hs : w.heap.size ≤ w'.heap.size) : DiskIs w' bd S where
  disk := (hk bd (by rw [h.rd]; simp)).trans h.disk
  rd := h.rd
  files := ownsMap_heap h.files (hk _ (by rw [h.rm]; simp))
  rm := h.rm
  plan := h.plan.kept (fun b hb => hk b (by rw [h.rp b hb]; simp))
  rp := h.rp
  file := fun p hp => (hk _ (by rw [h.rf p hp]; simp)).trans (h.file p hp)
  rf := h.rf
  row := fun p hp => ownsRow_heap (h.row p hp) (fun b hb => hk b (by rw [h.rr p hp b hb]; simp))
  rr := h.rr
  fresh := fun b hb => h.fresh b (by omega)
/-- Only the disk's own block has turned. -/
theorem DiskIs.setD {w w' : World} {bd : Nat} {S : DS} (h : DiskIs w bd S) (dn : Bool) (st : Int) (hk : ∀ b, b ≠ bd → w'.heap[b]? = w.heap[b]?) (hs : w.heap.size ≤ w'.heap.size)
    (hd : w'.heap[bd]? = some (.cells (dC { S with down := dn, steps := st }) 59)) : DiskIs w' bd { S with down := dn, steps := st } where
  disk := hd
  rd := h.rd
  files := ownsMap_heap h.files (hk _ (fun e => by have := h.rm; rw [e, h.rd] at this; cases this))
  rm := h.rm
  plan := h.plan.kept (fun b hb => hk b (fun e => by have := h.rp b hb; rw [e, h.rd] at this; cases this))
  rp := h.rp
  file := fun p hp => (hk _ (fun e => by have := h.rf p hp; rw [e, h.rd] at this; cases this)).trans (h.file p hp)
  rf := h.rf
  row := fun p hp => ownsRow_heap (h.row p hp) (fun b hb => hk b (fun e => by have := h.rr p hp b hb; rw [e, h.rd] at this; cases this))
  rr := h.rr
  fresh := fun b hb => h.fresh b (by omega)
theorem heap_lt {w : World} {b : Nat} {o : Obj} (h : w.heap[b]? = some o) : b < w.heap.size := (Array.getElem?_eq_some_iff.1 h).1
theorem DiskIs.lt {w : World} {bd : Nat} {S : DS} (h : DiskIs w bd S) : bd < w.heap.size := heap_lt h.disk
theorem DiskIs.role_lt {w : World} {bd b : Nat} {S : DS} (h : DiskIs w bd S) (hb : S.role b ≠ .none) : b < w.heap.size := by
  rcases Nat.lt_or_ge b w.heap.size with h1 | h1
  · exact h1
  · exact absurd (h.fresh b h1) hb
/-- What lies beside a disk stays. -/
structure Fr (w w' : World) (S S' : DS) : Prop where
  os : w'.os = w.os
  tape : w'.tape = w.tape
  output : w'.output = w.output
  size : w.heap.size ≤ w'.heap.size
  block : ∀ b, b < w.heap.size → S.role b = .none → w'.heap[b]? = w.heap[b]?
  role : ∀ b, b < w.heap.size → S.role b = .none → S'.role b = .none
theorem Fr.refl (w : World) (S : DS) : Fr w w S S := ⟨rfl, rfl, rfl, Nat.le_refl _, fun _ _ _ => rfl, fun _ _ h => h⟩
theorem Fr.trans {w w' w'' : World} {S S' S'' : DS} (h : Fr w w' S S') (k : Fr w' w'' S' S'') : Fr w w'' S S'' :=
  ⟨k.os.trans h.os, k.tape.trans h.tape, k.output.trans h.output, Nat.le_trans h.size k.size,
   fun b hb hr => (k.block b (Nat.lt_of_lt_of_le hb h.size) (h.role b hb hr)).trans (h.block b hb hr),
   fun b hb hr => k.role b (Nat.lt_of_lt_of_le hb h.size) (h.role b hb hr)⟩
theorem Fr.below {w w' : World} {S : DS} (h : Below w.heap.size w w') : Fr w w' S S :=
  ⟨h.os, h.tape, h.output, h.size, fun b hb _ => h.block b hb, fun _ _ hr => hr⟩
theorem DiskIs.below {w w' : World} {bd : Nat} {S : DS} (h : DiskIs w bd S) (hb : Below w.heap.size w w') : DiskIs w' bd S :=
  h.kept (fun b hr => hb.block b (h.role_lt hr)) hb.size
end Go.Proofs.Ytllkpnlgemjgfaa
