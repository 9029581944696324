/- DC, MN, DD -/
import Derived.Test.YtconkienlcegaaaGreatDoorGDA
import Derived.Test.YtconkienlcegaaaGreatDoorChecked
import Derived.WalkKit
import Derived.WalkSpells
import Derived.StillTactics
import Derived.Deep.RegionHeld3
import Derived.RowKit3
namespace Go.Proofs.YtconkienlcegaaaGreatDoor
open Go.RowKit Go.Maps
set_option linter.unusedSimpArgs false
set_option linter.unusedVariables false
/-- How an element of the map of files reads: by its block. -/
def Rp (v : Value) : Option (DataW Unit × List MemPlace) :=
 match v with
 | .pointer none => some (.nil, [])
 | .pointer (some ⟨g, 0, none⟩) => some (.lit (.int .i64 (g : Int)), [])
 | _ => none
def pv : Option Nat → Value
 | none => .pointer none
 | some g => .pointer (some ⟨g, 0, none⟩)
theorem Rp_inv (v : Value) (y : DataW Unit × List MemPlace) (h : Rp v = some y) : ∃ c, v = pv c := by
 unfold Rp at h; split at h
 · exact ⟨none, rfl⟩
 · exact ⟨some _, rfl⟩
 · cases h
theorem Rp_lit {v : Value} {g : Nat} {ps : List MemPlace} (h : Rp v = some (.lit (.int .i64 (g : Int)), ps)) : v = .pointer (some ⟨g, 0, none⟩) := by
 unfold Rp at h; split at h
 · cases h
 · simp at h
   obtain ⟨h, _⟩ := h; rw [Int.ofNat_inj.1 h]
 · cases h
theorem Rp_nil {v : Value} {ps : List MemPlace} (h : Rp v = some (.nil, ps)) : v = .pointer none := by
 unfold Rp at h; split at h
 · rfl
 · simp at h
 · cases h
/-- The map of files, by their names and blocks. -/
def toE (p : List UInt8 × Nat) : Lit × DataW Unit := (.string p.1, .lit (.int .i64 (p.2 : Int)))
def toD (fs : List (List UInt8 × Nat)) : DataW Unit := .map (fs.map toE)
def look (fs : List (List UInt8 × Nat)) (n : List UInt8) : Option Nat := (fs.find? (fun p => p.1 == n)).map (·.2)
theorem has_toD (fs : List (List UInt8 × Nat)) (n : List UInt8) : Maps.has (toD fs) (.string n) = (look fs n).isSome := by
 unfold toD look; rw [has_eq]; induction fs with
 | nil => rfl
 | cons p r ih =>
   simp only [List.map_cons, List.any_cons, List.find?_cons, toE, Lit.sameKey]; cases h : (p.1 == n)
   · simp only [Bool.false_or]
     exact ih
   · simp
theorem at_toD (fs : List (List UInt8 × Nat)) (n : List UInt8) (z : DataW Unit) : (toD fs).atKey (.string n) z = match look fs n with | some g => .lit (.int .i64 (g : Int)) | none => z := by
 unfold toD look DataW.atKey; induction fs with
 | nil => rfl
 | cons p r ih =>
   simp only [List.map_cons, List.find?_cons, toE, Lit.sameKey]; cases h : (p.1 == n)
   · exact ih
   · simp
theorem size_toD (fs : List (List UInt8 × Nat)) : Maps.size (toD fs) = fs.length := by simp [toD, size_eq]
theorem look_mem {fs : List (List UInt8 × Nat)} {n : List UInt8} {g : Nat} (h : look fs n = some g) : (n, g) ∈ fs := by
 unfold look at h; obtain ⟨p, hp, rfl⟩ := Option.map_eq_some_iff.1 h; have h1 := List.find?_some hp; have h2 := List.mem_of_find?_eq_some hp; simp at h1; rw [← h1]; exact h2
def insL (x : List UInt8 × Nat) : List (List UInt8 × Nat) → List (List UInt8 × Nat)
 | [] => [x]
 | y :: r => if bytesBefore x.1 y.1 then x :: y :: r else y :: insL x r
def delL (fs : List (List UInt8 × Nat)) (n : List UInt8) : List (List UInt8 × Nat) := fs.filter fun p => !(p.1 == n)
def putL (fs : List (List UInt8 × Nat)) (n : List UInt8) (g : Nat) : List (List UInt8 × Nat) := insL (n, g) (delL fs n)
theorem ins_toE (x : List UInt8 × Nat) : ∀ l : List (List UInt8 × Nat), DataW.insert (toE x) (l.map toE) = (insL x l).map toE
 | [] => rfl
 | y :: r => by
   simp only [List.map_cons, DataW.insert, insL]; have e : (toE x).1.before (toE y).1 = bytesBefore x.1 y.1 := rfl; rw [e]; split
   · rfl
   · rw [ins_toE x r]; rfl
theorem del_map (n : List UInt8) : ∀ l : List (List UInt8 × Nat), (l.map toE).filter (fun p => !p.1.sameKey (.string n)) = (delL l n).map toE
 | [] => rfl
 | y :: r => by
   have e : (toE y).1.sameKey (.string n) = (y.1 == n) := rfl; simp only [List.map_cons, List.filter_cons, delL, e]; have := del_map n r; unfold delL at this; split
   · rw [this]; rfl
   · exact this
theorem put_toD (fs : List (List UInt8 × Nat)) (n : List UInt8) (g : Nat) : (toD fs).put (.string n) (.lit (.int .i64 (g : Int))) = toD (putL fs n g) := by
 unfold toD DataW.put; show DataW.map _ = _; rw [del_map]; exact congrArg DataW.map (ins_toE (n, g) _)
theorem keys_toD (fs : List (List UInt8 × Nat)) : strKeys (toD fs) = fs.map (·.1) := by
 simp [toD, strKeys, toE, strOf, Function.comp_def]
theorem law3 : Keyed Tryz.prog 3 := int_keyed Tryz.underlying3
theorem law9 : Keyed Tryz.prog 9 := string_keyed Tryz.underlying9
theorem zero3 (w : World) : (zeroValue 3).run Tryz.prog w = .ok (.int .i64 0) w := by kernel_rfl
theorem zero66 (w : World) : (zeroValue 114).run Tryz.prog w = .ok (.pointer none) w := by kernel_rfl
/-- The plan: the kinds of faults by steps. -/
def PlanIs (w : World) (pl : Option Nat) (f : Int → Int) : Prop :=
 match pl with
 | none => ∀ x, f x = 0
 | some b => ∃ n D, w.ownsMap (H := Unit) Tryz.prog 3 (plainElem Tryz.prog 3) b n D ∧ ∀ x, (Lit.int .i64 x).wf = true → D.atKey (.int .i64 x) (.lit (.int .i64 0)) = .lit (.int .i64 (f x))
theorem PlanIs.look {w : World} {pl : Option Nat} {f : Int → Int} (h : PlanIs w pl f) {x : Int} (hx : (Lit.int .i64 x).wf = true) :
 (Instr.lookup 87 (.map pl) (.int .i64 x) false).run Tryz.prog w = .ok (.int .i64 (f x)) w := by
 cases pl with
 | none =>
   have := look_nil (w := w) false law3 Tryz.underlying87 (zero3 _) (keyOf_int_mk Tryz.underlying3 hx); rw [show f x = 0 from h x]; exact this
 | some b =>
   obtain ⟨n, D, hown, hf⟩ := h; obtain ⟨c, hrun, hat, _⟩ := hown.lookup_int law3 Tryz.underlying87 Tryz.underlying3 (zero3 _) (keyOf_int_mk Tryz.underlying3 hx); rw [hf x hx] at hat; simp at hat; rw [hat]; exact hrun
theorem PlanIs.kept {w w' : World} {pl : Option Nat} {f : Int → Int} (h : PlanIs w pl f) (hk : ∀ b, pl = some b → w'.heap[b]? = w.heap[b]?) : PlanIs w' pl f := by
 cases pl with
 | none => exact h
 | some b =>
   obtain ⟨n, D, ⟨es, clock, hb, F, hs, hD⟩, hf⟩ := h; exact ⟨n, D, ⟨es, clock, (hk b rfl).trans hb, F, hs, hD⟩, hf⟩
theorem ownsMap_heap {w w' : World} {k : TypeId} {R : Value → Option (DataW Unit × List MemPlace)} {b n : Nat} {D : DataW Unit} (h : w.ownsMap Tryz.prog k R b n D) (hk : w'.heap[b]? = w.heap[b]?) : w'.ownsMap Tryz.prog k R b n D := by
 obtain ⟨es, clock, hb, F, hs, hD⟩ := h; exact ⟨es, clock, hk.trans hb, F, hs, hD⟩
theorem ownsMap_size {w : World} {k : TypeId} {R : Value → Option (DataW Unit × List MemPlace)} {b n : Nat} {D : DataW Unit} (h : w.ownsMap Tryz.prog k R b n D) : w.ownsMap Tryz.prog k R b (Maps.size D) D := by
 obtain ⟨es, clock, hb, F, hs, rfl⟩ := h; exact ⟨es, clock, hb, F, by simp [Maps.size, length_sorted], rfl⟩
theorem ownsRow_heap {w w' : World} {base size n : Nat} {e : TypeId} {v : Value} {xs : List Value} (h : w.ownsRow base e size v n xs) (hk : ∀ b, v.ownBlock = some b → w'.heap[b]? = w.heap[b]?) : w'.ownsRow base e size v n xs := by
 obtain ⟨h1, h2⟩ := h; refine ⟨h1, ?_⟩; rcases h2 with h2 | ⟨g, cap, cur, rfl, hb, hg, hr⟩
 · exact Or.inl h2
 · exact Or.inr ⟨g, cap, cur, rfl, hb, (hk g rfl).trans hg, hr⟩
inductive Role where
 | none | disk | map | plan
 | file (n : List UInt8)
 | bytes (n : List UInt8)
structure FileC where
 sl : Value
 bs : List Int
 safe : Int
structure DS where
 room : Int
 bm : Nat
 down : Bool
 steps : Int
 armed : Int
 pl : Option Nat
 plan : Int → Int
 fs : List (List UInt8 × Nat)
 fl : List UInt8 → FileC
 role : Nat → Role
def vB (bs : List Int) : List Value := bs.map (Value.int .u8)
def dC (S : DS) : Array Value := #[.int .i64 S.room, .map (some S.bm), .bool S.down, .int .i64 S.steps, .int .i64 S.armed, .map S.pl]
/-- Block bd is a disk. -/
structure DiskIs (w : World) (bd : Nat) (S : DS) : Prop where
 disk : w.heap[bd]? = some (.cells (dC S) 89)
 rd : S.role bd = .disk
 files : w.ownsMap Tryz.prog 9 Rp S.bm S.fs.length (toD S.fs)
 rm : S.role S.bm = .map
 plan : PlanIs w S.pl S.plan
 rp : ∀ b, S.pl = some b → S.role b = .plan
 file : ∀ p ∈ S.fs, w.heap[p.2]? = some (.cells #[(S.fl p.1).sl, .int .i64 (S.fl p.1).safe] 116)
 rf : ∀ p ∈ S.fs, S.role p.2 = .file p.1
 row : ∀ p ∈ S.fs, w.ownsRow 0 5 1 (S.fl p.1).sl (S.fl p.1).bs.length (vB (S.fl p.1).bs)
 rr : ∀ p ∈ S.fs, ∀ b, (S.fl p.1).sl.ownBlock = some b → S.role b = .bytes p.1
 fresh : ∀ b, w.heap.size ≤ b → S.role b = .none
theorem DiskIs.kept {w w' : World} {bd : Nat} {S : DS} (h : DiskIs w bd S) (hk : ∀ b, S.role b ≠ .none → w'.heap[b]? = w.heap[b]?) (hs : w.heap.size ≤ w'.heap.size) : DiskIs w' bd S where
 disk := (hk bd (by rw [h.rd]; simp)).trans h.disk
 rd := h.rd
 files := ownsMap_heap h.files (hk _ (by rw [h.rm]; simp))
 rm := h.rm
 plan := h.plan.kept (fun b hb => hk b (by rw [h.rp b hb]; simp))
 rp := h.rp
 file := fun p hp => (hk _ (by rw [h.rf p hp]; simp)).trans (h.file p hp)
 rf := h.rf
 row := fun p hp => ownsRow_heap (h.row p hp) (fun b hb => hk b (by rw [h.rr p hp b hb]; simp))
 rr := h.rr
 fresh := fun b hb => h.fresh b (by omega)
/-- Only the disk's own block has turned. -/
theorem DiskIs.setD {w w' : World} {bd : Nat} {S : DS} (h : DiskIs w bd S) (dn : Bool) (st : Int) (hk : ∀ b, b ≠ bd → w'.heap[b]? = w.heap[b]?) (hs : w.heap.size ≤ w'.heap.size)
 (hd : w'.heap[bd]? = some (.cells (dC { S with down := dn, steps := st }) 89)) : DiskIs w' bd { S with down := dn, steps := st } where
 disk := hd
 rd := h.rd
 files := ownsMap_heap h.files (hk _ (fun e => by have := h.rm; rw [e, h.rd] at this; cases this))
 rm := h.rm
 plan := h.plan.kept (fun b hb => hk b (fun e => by have := h.rp b hb; rw [e, h.rd] at this; cases this))
 rp := h.rp
 file := fun p hp => (hk _ (fun e => by have := h.rf p hp; rw [e, h.rd] at this; cases this)).trans (h.file p hp)
 rf := h.rf
 row := fun p hp => ownsRow_heap (h.row p hp) (fun b hb => hk b (fun e => by have := h.rr p hp b hb; rw [e, h.rd] at this; cases this))
 rr := h.rr
 fresh := fun b hb => h.fresh b (by omega)
theorem heap_lt {w : World} {b : Nat} {o : Obj} (h : w.heap[b]? = some o) : b < w.heap.size := (Array.getElem?_eq_some_iff.1 h).1
theorem DiskIs.lt {w : World} {bd : Nat} {S : DS} (h : DiskIs w bd S) : bd < w.heap.size := heap_lt h.disk
theorem DiskIs.role_lt {w : World} {bd b : Nat} {S : DS} (h : DiskIs w bd S) (hb : S.role b ≠ .none) : b < w.heap.size := by
 rcases Nat.lt_or_ge b w.heap.size with h1 | h1
 · exact h1
 · exact absurd (h.fresh b h1) hb
/-- What lies beside a disk stays. -/
structure Fr (w w' : World) (S S' : DS) : Prop where
 os : w'.os = w.os
 tape : w'.tape = w.tape
 output : w'.output = w.output
 size : w.heap.size ≤ w'.heap.size
 block : ∀ b, b < w.heap.size → S.role b = .none → w'.heap[b]? = w.heap[b]?
 role : ∀ b, b < w.heap.size → S.role b = .none → S'.role b = .none
theorem Fr.refl (w : World) (S : DS) : Fr w w S S := ⟨rfl, rfl, rfl, Nat.le_refl _, fun _ _ _ => rfl, fun _ _ h => h⟩
theorem Fr.trans {w w' w'' : World} {S S' S'' : DS} (h : Fr w w' S S') (k : Fr w' w'' S' S'') : Fr w w'' S S'' :=
 ⟨k.os.trans h.os, k.tape.trans h.tape, k.output.trans h.output, Nat.le_trans h.size k.size,
  fun b hb hr => (k.block b (Nat.lt_of_lt_of_le hb h.size) (h.role b hb hr)).trans (h.block b hb hr),
  fun b hb hr => k.role b (Nat.lt_of_lt_of_le hb h.size) (h.role b hb hr)⟩
theorem Fr.below {w w' : World} {S : DS} (h : Below w.heap.size w w') : Fr w w' S S :=
 ⟨h.os, h.tape, h.output, h.size, fun b hb _ => h.block b hb, fun _ _ hr => hr⟩
theorem DiskIs.below {w w' : World} {bd : Nat} {S : DS} (h : DiskIs w bd S) (hb : Below w.heap.size w w') : DiskIs w' bd S :=
 h.kept (fun b hr => hb.block b (h.role_lt hr)) hb.size
end Go.Proofs.YtconkienlcegaaaGreatDoor
namespace Go.Proofs.YtconkienlcegaaaGreatDoor
open Go.RowKit
theorem sm : (∀ (xs : List Oper) (i : Nat) (h : i < xs.toArray.size), xs.toArray[i] = xs[i]'(by simpa using h)) ∧ (∀ (a : Oper) (ls : List Oper) (i : Nat) (h : i + 1 < (a :: ls).length), (a :: ls)[i + 1] = ls[i]'(by simpa using h)) ∧ (∀ (a : Oper) (ls : List Oper) (h : 0 < (a :: ls).length), (a :: ls)[0] = a) ∧
 (∀ (a : Act) (v : Value), a.put none v = a) ∧ (∀ (a : Act) (d : Tmp) (v : Value), a.put (some d) v = { tmps := a.tmps.setIfInBounds d v, defers := a.defers }) ∧ (∀ (xs : List Value) (i : Nat) (v : Value), xs.toArray.setIfInBounds i v = (xs.set i v).toArray) ∧ (∀ (a v : Value) (ls : List Value), (a :: ls).set 0 v = v :: ls) ∧ (∀ (a v : Value) (ls : List Value) (i : Nat), (a :: ls).set (i + 1) v = a :: ls.set i v) :=
 ⟨fun xs i h => by simp, fun a ls i h => by simp, fun a ls h => rfl, fun a v => rfl, fun a d v => rfl, fun xs i v => by simp, fun a v ls => rfl, fun a v ls i => rfl⟩
theorem tk {P : Program} {ops : Array Oper} {Q : Exit → Act → World → Prop} {md : Region.Mode} {S : World → Prop} {oi : Oper} {fuel : Nat} {listed : Array Bool} {a : Act} {w : World} (i : Nat) (v : Value)
 (hy : ∀ w, S w → (execOp a.eval oi).run P w = .ok (.value v) w) (hS : S w) (h : wpAnyH P md ops Q S fuel (listed.setIfInBounds i true) (a.put oi.dst v) w)
 (h1 : ops[i]? = some oi := by rfl) (h2 : Region.noSelect ops = true := by kernel_rfl) (h3 : Region.free md ops listed i = true := by kernel_rfl) (h4 : (Region.ready md ops listed).contains i = true := by kernel_rfl)
 (hq : ∀ (c : List PanicEntry) (a : Act) (w : World), Q (Exit.panic c) (a.put oi.dst v) w → Q (Exit.panic c) a w := by exact fun _ _ _ h => h) (hw : Region.wanted oi (yielded ops a.tmps) = true := by rfl) : wpAnyH P md ops Q S (fuel + 1) listed a w :=
 wpAnyH_take h1 h2 h3 h4 hq (Or.inl ⟨hw, hy⟩) hS h
theorem rd {P : Program} {ops : Array Oper} {Q : Exit → Act → World → Prop} {md : Region.Mode} {S : World → Prop} {o : Oper} {fuel : Nat} {listed : Array Bool} {a : Act} {w : World} (i : Nat)
 (h : ∀ (K' : Act → World → Prop), Shut (∀ (a : Act) (w : World), S w → (S w → wpAnyH P md ops Q S fuel (listed.setIfInBounds i true) a w) → K' a w) → if Region.wanted o (yielded ops a.tmps) = true then Oper.wp P o a w K' Q else K' (a.put o.dst undef) w)
 (ho : ops[i]? = some o := by rfl) (hr : Region.ready md ops listed = [i] := by kernel_rfl) : wpAnyH P md ops Q S (fuel + 1) listed a w :=
 wpAnyH_ready hr (by simp) (AllReadyH.cons ho h AllReadyH.nil)
end Go.Proofs.YtconkienlcegaaaGreatDoor
namespace Go.Proofs.YtconkienlcegaaaGreatDoor
open Go.RowKit Go.Maps Go.Joins
set_option linter.unusedSimpArgs false
set_option linter.unusedVariables false
set_option maxHeartbeats 1000000 in
theorem new_any (r : Int) (h0 : 0 ≤ r) (h1 : r ≤ 1073741824) (w : World) :
 Calls Tryz.prog 8 #[.int .i64 r] w fun e w' => ∃ bd S, e = .returned (.tuple #[.pointer (some ⟨bd, 0, none⟩), .int .i64 0]) ∧ DiskIs w' bd S ∧ Below w.heap.size w w' ∧ S = { room := r, bm := w.heap.size, down := false, steps := 0, armed := 0, pl := none, plan := fun _ => 0, fs := [], fl := S.fl, role := S.role } ∧ (∀ b, b < w.heap.size → S.role b = .none) := by
 have d1 : decide (r < 0) = false := by simp; omega
 have d2 : decide (1073741824 < r) = false := by simp; omega
 have hm := fun w => run_makeMap (P := Tryz.prog) 86 w
 go_enter Tryz.func8, Tryz.ntmps8
 go_wp2; go_returns
 refine ⟨w.heap.size + 1, { room := r, bm := w.heap.size, down := false, steps := 0, armed := 0, pl := none, plan := fun _ => 0, fs := [], fl := fun _ => ⟨.slice none 0 0, [], 0⟩, role := fun b => if b = w.heap.size then .map else if b = w.heap.size + 1 then .disk else .none }, rfl, ?_, by go_grown, rfl, ?_⟩
 · have hz : ((w.alloc (.map #[] 0)).alloc (.cells #[.int .i64 r, .map (some w.heap.size), .bool false, .int .i64 0, .int .i64 0, .map none] 89)).heap.size = w.heap.size + 2 := by simp
   refine ⟨?_, by simp, ?_, by simp, fun _ => rfl, fun b hb => (by cases hb), fun p hp => (by cases hp), fun p hp => (by cases hp), fun p hp => (by cases hp), fun p hp => (by cases hp), fun b hb => ?_⟩
   · have := heap_alloc_new (w.alloc (.map #[] 0)) (.cells #[.int .i64 r, .map (some w.heap.size), .bool false, .int .i64 0, .int .i64 0, .map none] 89)
     simpa [dC] using this
   · exact (World.ownsMap_made w Tryz.prog 9 Rp).alloc _
   · have : w.heap.size + 2 ≤ b := by simpa using hb
     simp
     rw [if_neg (by omega), if_neg (by omega)]
 · intro b hb
   simp
   rw [if_neg (by omega), if_neg (by omega)]
def faultE (k : Int) : Int := if k = 1 then 31 else if k = 2 then 30 else if k = 3 then 32 else 0
set_option maxHeartbeats 1000000 in
theorem fault_any {w : World} {bd : Nat} {cs : Array Value} (k : Int) (hb : w.heap[bd]? = some (.cells cs 89)) (hc : 2 < cs.size) :
 Calls Tryz.prog 100 #[.pointer (some ⟨bd, 0, none⟩), .int .i64 k] w fun e w' => e = .returned (.int .i64 (faultE k)) ∧ w' = if k = 3 then w.setCell ⟨bd, 2, none⟩ (.bool true) else w := by
 have c2 : w.cell? ⟨bd, 2, none⟩ = some cs[2] := by rw [cell_of_block hb, Array.getElem?_eq_getElem hc]
 have f2 : w.frozen? ⟨bd, 2, none⟩ = false := unfrozen_of_block hb 2; clear hb; by_cases k1 : k = 1
 · subst k1
   go_enter Tryz.func100, Tryz.ntmps100
   go_wp2; go_ret
   exact ⟨rfl, rfl⟩
 · by_cases k2 : k = 2
   · subst k2
     go_enter Tryz.func100, Tryz.ntmps100
     go_wp2; go_ret
     exact ⟨rfl, rfl⟩
   · by_cases k3 : k = 3
     · subst k3
       go_enter Tryz.func100, Tryz.ntmps100
       go_wp2; go_ret
       exact ⟨rfl, rfl⟩
     · have e1 : (k == 1) = false := by simpa using k1
       have e2 : (k == 2) = false := by simpa using k2
       have e3 : (k == 3) = false := by simpa using k3
       have ef : faultE k = 0 := by simp [faultE, k1, k2, k3]
       rw [if_neg k3, ef]; go_enter Tryz.func100, Tryz.ntmps100; go_wp2; go_ret; exact ⟨rfl, rfl⟩
theorem wf64 {x : Int} (h0 : -9223372036854775808 ≤ x) (h1 : x ≤ 9223372036854775807) : (Lit.int .i64 x).wf = true := by
 show (decide (IntKind.i64.min ≤ x) && decide (x ≤ IntKind.i64.max)) = true; rw [show IntKind.i64.min = -9223372036854775808 from rfl, show IntKind.i64.max = 9223372036854775807 from rfl, decide_eq_true h0, decide_eq_true h1]; rfl
def okN (ns : List ByteArray) : Bool := ns.all nameB
def stK (S : DS) : Int := S.plan (S.steps + 1 - S.armed)
def stepE (S : DS) (ns : List ByteArray) : Int := if S.down then 32 else if okN ns then faultE (stK S) else 1
def stepS (S : DS) (ns : List ByteArray) : DS := if S.down then S else if okN ns then { S with down := decide (stK S = 3), steps := S.steps + 1 } else S
def Names (w : World) (gn : Nat) (ns : List ByteArray) : Prop := ∀ k s, ns[k]? = some s → w.cell? ⟨gn, k, none⟩ = some (.string s) ∧ s.size ≤ 9223372036854775807
def Cnt (S : DS) : Prop := 0 ≤ S.armed ∧ S.armed ≤ S.steps ∧ S.steps < 4611686018427387904
set_option maxHeartbeats 4000000 in
theorem step_down {w : World} {bd : Nat} {S : DS} (h : DiskIs w bd S) (hd : S.down = true) (v : Value) :
 Calls Tryz.prog 63 #[.pointer (some ⟨bd, 0, none⟩), v] w fun e w' => e = .returned (.int .i64 32) ∧ w' = w := by
 have c2 : w.cell? ⟨bd, 2, none⟩ = some (.bool true) := by rw [cell_of_block h.disk]; simp [dC, hd]
 clear h; go_enter Tryz.func63, Tryz.ntmps63; go_wp2; go_ret; exact ⟨rfl, rfl⟩
set_option maxHeartbeats 4000000 in
theorem step_up {w : World} {bd : Nat} {S : DS} (h : DiskIs w bd S) (hd : S.down = false) (hc : Cnt S) (gn c : Nat) (ns : List ByteArray) (hn : Names w gn ns) (hl : ns.length ≤ 100) (hg : gn ≠ bd) :
 Calls Tryz.prog 63 #[.pointer (some ⟨bd, 0, none⟩), .slice (some ⟨gn, 0, none⟩) ns.length c] w fun e w' => e = .returned (.int .i64 (stepE S ns)) ∧ DiskIs w' bd (stepS S ns) ∧ w.grownBy w' (some bd) ∧ w'.heap.size = w.heap.size := by
 have c2 : w.cell? ⟨bd, 2, none⟩ = some (.bool false) := by rw [cell_of_block h.disk]; simp [dC, hd]
 have HN : Hid (Names w gn ns) := hn; clear hn; have HD : Hid (DiskIs w bd S ∧ Cnt S) := ⟨h, hc⟩
 clear h hc; go_enter Tryz.func63, Tryz.ntmps63; go_wp2; go_loop [15] (fun i => ∃ k : Nat, k ≤ ns.length ∧ i = .int .i64 k ∧ okN (ns.take k) = true) (fun i => ns.length - (intOf i).toNat)
 case atStart => exact ⟨0, Nat.zero_le _, rfl, rfl⟩
 case round =>
  obtain ⟨k, hk, rfl, hall⟩ := hrel; by_cases hkl : k < ns.length
  · have hcell := (HN.out k ns[k] (List.getElem?_eq_getElem hkl)).1
    have hsz := (HN.out k ns[k] (List.getElem?_eq_getElem hkl)).2; have hki : (k : Int) < ns.length := by omega
    generalize hs : ns[k] = s at hcell hsz; cases hb : nameB s
    · go_wp2_with (first
       | (go_at_call 99; refine (name_any s hsz _).mono ?_; rintro e w' ⟨rfl, rfl⟩; rw [hb])
       | go_in)
      go_ret; have hno : okN ns = false := by
       unfold okN; rw [List.all_eq_false]; exact ⟨ns[k], List.getElem_mem hkl, by rw [hs, hb]; simp⟩
      have hd' := HD.out.1; rw [show stepE S ns = 1 from by simp [stepE, hd, hno], show stepS S ns = S from by simp [stepS, hd, hno]]; exact ⟨rfl, hd', World.grownBy.refl _ _, rfl⟩
    · go_wp2_with (first
       | (go_at_call 99; refine (name_any s hsz _).mono ?_; rintro e w' ⟨rfl, rfl⟩; rw [hb])
       | go_in)
      go_round
      case rel =>
       refine ⟨k + 1, by omega, by go_num, ?_⟩; unfold okN at hall ⊢; rw [List.take_add_one, List.all_append, hall, List.getElem?_eq_getElem hkl, hs]; simp [hb]
      case measure => simp [intOf]; omega
  · have hki : decide ((k : Int) < ns.length) = false := by simp; omega
    have hyes : okN ns = true := by
     rw [List.take_of_length_le (by omega)] at hall; exact hall
    have c3 : w.cell? ⟨bd, 3, none⟩ = some (.int .i64 S.steps) := by rw [cell_of_block HD.out.1.disk]; simp [dC]
    have f3 : w.frozen? ⟨bd, 3, none⟩ = false := unfrozen_of_block HD.out.1.disk 3; have b3 : 0 ≤ S.steps ∧ S.steps < 4611686018427387904 := ⟨by have := HD.out.2; unfold Cnt at this; omega, HD.out.2.2.2⟩
    clear hall HN c2 hki; go_wp2; have D1 : DiskIs (w.setCell ⟨bd, 3, none⟩ (.int .i64 (S.steps + 1))) bd { S with down := false, steps := S.steps + 1 } := by
     have hb := HD.out.1; refine hb.setD false (S.steps + 1) (fun b hb' => Below.heap_setCell _ _ _ _ hb') (by simp) ?_; rw [block_setCell hb.disk]; simp [dC, hd]
    have G1 : w.grownBy (w.setCell ⟨bd, 3, none⟩ (.int .i64 (S.steps + 1))) (some bd) := ⟨rfl, rfl, rfl, by simp, fun k _ hk => Below.heap_setCell _ _ _ _ (fun e => hk (by rw [e]))⟩
    have Z1 : (w.setCell ⟨bd, 3, none⟩ (.int .i64 (S.steps + 1))).heap.size = w.heap.size := by simp
    have hA : 0 ≤ S.armed ∧ S.armed ≤ S.steps := ⟨HD.out.2.1, HD.out.2.2.1⟩
    have hwf : (Lit.int .i64 (S.steps + 1 - S.armed)).wf = true := wf64 (by omega) (by omega); clear HD c3 f3; generalize w.setCell ⟨bd, 3, none⟩ (.int .i64 (S.steps + 1)) = w1 at D1 G1 Z1 ⊢; refine wp_region_held_drew (S := fun w' => ∃ dn, DiskIs w' bd { S with down := dn, steps := S.steps + 1 } ∧ w.grownBy w' (some bd) ∧ w'.heap.size = w.heap.size) (by kernel_rfl) ⟨false, D1.kept (fun _ _ => rfl) (Nat.le_refl _), ⟨G1.os, G1.tape, G1.output, G1.size, G1.block⟩, Z1⟩ (fun hHeld => ?_); refine tk 0 (.pointer (some ⟨bd, 0, none⟩)) (fun w9 hSw => ?_) hHeld ?_
    · go_simp
    simp only [sm]; refine tk 1 (.pointer (some ⟨bd, 0, none⟩)) (fun w9 hSw => ?_) hHeld ?_
    · go_simp
    simp only [sm]; refine tk 2 (.pointer (some ⟨bd, 0, none⟩)) (fun w9 hSw => ?_) hHeld ?_
    · go_simp
    simp only [sm]; refine tk 3 (.pointer (some ⟨bd, 5, none⟩)) (fun w9 hSw => ?_) hHeld ?_
    · go_simp
    simp only [sm]; refine tk 4 (.map S.pl) (fun w9 hSw => ?_) hHeld ?_
    · have hc : w9.cell? ⟨bd, 5, none⟩ = some (.map S.pl) := (cell_of_block hSw.choose_spec.1.disk 5).trans rfl
      go_simp
    simp only [sm]; refine tk 5 (.pointer (some ⟨bd, 0, none⟩)) (fun w9 hSw => ?_) hHeld ?_
    · go_simp
    simp only [sm]; refine tk 6 (.pointer (some ⟨bd, 0, none⟩)) (fun w9 hSw => ?_) hHeld ?_
    · go_simp
    simp only [sm]; refine tk 7 (.pointer (some ⟨bd, 3, none⟩)) (fun w9 hSw => ?_) hHeld ?_
    · go_simp
    simp only [sm]; refine tk 8 (.int .i64 (S.steps + 1)) (fun w9 hSw => ?_) hHeld ?_
    · have hc : w9.cell? ⟨bd, 3, none⟩ = some (.int .i64 (S.steps + 1)) := (cell_of_block hSw.choose_spec.1.disk 3).trans rfl
      go_simp
    simp only [sm]; refine tk 9 (.pointer (some ⟨bd, 0, none⟩)) (fun w9 hSw => ?_) hHeld ?_
    · go_simp
    simp only [sm]; refine tk 10 (.pointer (some ⟨bd, 0, none⟩)) (fun w9 hSw => ?_) hHeld ?_
    · go_simp
    simp only [sm]; refine tk 11 (.pointer (some ⟨bd, 4, none⟩)) (fun w9 hSw => ?_) hHeld ?_
    · go_simp
    simp only [sm]; refine tk 12 (.int .i64 S.armed) (fun w9 hSw => ?_) hHeld ?_
    · have hc : w9.cell? ⟨bd, 4, none⟩ = some (.int .i64 S.armed) := (cell_of_block hSw.choose_spec.1.disk 4).trans rfl
      go_simp
    simp only [sm]; refine tk 13 (.int .i64 (S.steps + 1 - S.armed)) (fun w9 hSw => ?_) hHeld ?_
    · have hsub : IntKind.i64.wrap (S.steps + 1 - S.armed) = S.steps + 1 - S.armed := by rw [IntKind.wrap_i64]; omega
      go_simp
    simp only [sm]; refine tk 14 (.int .i64 (stK S)) (fun w9 hSw => ?_) hHeld ?_
    · have hl := hSw.choose_spec.1.plan.look hwf
      unfold stK; go_simp
    simp only [sm]; refine rd 15 (fun K hK => ?_); have D2 : DiskIs w1.drew bd { S with down := false, steps := S.steps + 1 } := D1.kept (fun _ _ => rfl) (Nat.le_refl _); have G2 : w.grownBy w1.drew (some bd) := ⟨G1.os, G1.tape, G1.output, G1.size, G1.block⟩
    have Z2 : w1.drew.heap.size = w.heap.size := Z1; generalize w1.drew = w2 at D2 G2 Z2 hHeld ⊢; go_simp; refine (fault_any (stK S) D2.disk (by simp [dC])).mono ?_; rintro e w3 ⟨rfl, hw3⟩; have D3 : DiskIs w3 bd { S with down := decide (stK S = 3), steps := S.steps + 1 } ∧ w.grownBy w3 (some bd) ∧ w3.heap.size = w.heap.size := by
     by_cases h3 : stK S = 3
     · rw [if_pos h3] at hw3
       subst hw3; refine ⟨?_, ?_, by simpa using Z2⟩
       · rw [decide_eq_true h3]
         refine D2.setD true (S.steps + 1) (fun b hb' => Below.heap_setCell _ _ _ _ hb') (by simp) ?_; rw [block_setCell D2.disk]; simp [dC]
       · exact ⟨G2.os, G2.tape, G2.output, by simpa using G2.size, fun k hk hk' => (Below.heap_setCell _ _ _ _ (fun e => hk' (by rw [e]))).trans (G2.block k hk hk')⟩
     · rw [if_neg h3] at hw3
       subst hw3; rw [decide_eq_false h3]; exact ⟨D2, G2, Z2⟩
    clear D1 D2 G1 G2 Z1 Z2 hw3; go_wp2_with fail; refine hK.out _ _ ⟨_, D3⟩ (fun hHeld => ?_); clear hK K; try simp only [sm]
    refine tk 16 (.int .i64 (faultE (stK S))) (fun w9 hSw => ?_) hHeld ?_
    · go_simp
    simp only [sm]; refine wpAnyH_done (by kernel_rfl) ?_ _; go_wp2; go_ret; rw [show stepE S ns = faultE (stK S) from by simp [stepE, hd, hyes], show stepS S ns = { S with down := decide (stK S = 3), steps := S.steps + 1 } from by simp [stepS, hd, hyes]]; exact ⟨rfl, D3⟩
end Go.Proofs.YtconkienlcegaaaGreatDoor
