/- KF, KK, KL, KG -/
import Derived.Test.YtconkienlcegaaaGreatDoorKE
import Derived.Laws.BytesString
import Derived.Laws.BytesArg
import Derived.Lib.Bytes
import Derived.Test.YtconkienlcegaaaGreatDoorGWN0
import Derived.Deep.AppendLies
import Derived.Maps.OwnIn
import Derived.Laws.AppendOwnNone
namespace Go.Proofs.YtconkienlcegaaaGreatDoor
open Go.RowKit Go.Maps Go.Joins Go.Shelf
set_option linter.unusedSimpArgs false
set_option linter.unusedVariables false
theorem kconv_any {w : World} {ad : Addr} {cap : Nat} {xs : List Int} (h : ∀ j u, (vB xs)[j]? = some u → w.cell? (ad.add j) = some u) : (convert 23 9 (.slice (some ad) xs.length cap)).run Tryz.prog w = .ok (.string (strOfNums xs)) w := by
 have hl : (loadCells ad xs.length).run Tryz.prog w = .ok (xs.map (Value.int .u8)).toArray w := by
  have := run_loadCells_list (P := Tryz.prog) w ad (vB xs) (fun j v hj => h j v hj)
  simpa [vB] using this
 rw [run_convert_bytes_string w 23 9 5 _ xs.length cap Tryz.underlying23 Tryz.underlying5 Tryz.underlying9, run_bytesToString w _ xs.length cap xs hl, foldl_push_bytes]; simp [strOfNums, ByteArray.empty, ByteArray.emptyWithCapacity]; rfl
theorem kconv_b {w : World} {v : Value} {xs : List Int} (hv : BytesV w v xs) : (convert 23 9 v).run Tryz.prog w = .ok (.string (strOfNums xs)) w := by
 rcases hv with ⟨rfl, rfl⟩ | ⟨ad, cap, rfl, hc⟩
 · exact run_convert_bytes_nil w 23 5 Tryz.underlying23 Tryz.underlying5 0 0 9 Tryz.underlying9
 · exact kconv_any hc
/-- The law's Same of the same bytes. -/
theorem klsame_t {w : World} {a b : Value} {xs : List Int} (ha : BytesV w a xs) (hb : BytesV w b xs) : Calls Tryz.prog 26 #[a, b] w fun e w' => e = .returned (.bool true) ∧ w' = w := by
 have h1 := kconv_b ha; have h2 := kconv_b hb; obtain ⟨_, _, rfl⟩ := ha.form'; obtain ⟨_, _, rfl⟩ := hb.form'; clear ha hb; go_enter Tryz.func26, Tryz.ntmps26; go_wp2; go_ret; exact ⟨by simp, rfl⟩
/-- How an element of the map of keys reads: by where it lies. -/
def sv : Value → DataW Unit
 | .slice (some a) n c => .agg [.lit (.int .i64 (a.block : Int)), .lit (.int .i64 (a.off : Int)), .lit (.int .i64 (n : Int)), .lit (.int .i64 (c : Int))]
 | _ => .nil
def okS : Value → Bool
 | .slice none 0 0 => true
 | .slice (some ⟨_, _, none⟩) _ _ => true
 | _ => false
def Rv (v : Value) : Option (DataW Unit × List MemPlace) := if okS v then some (sv v, []) else none
theorem Rv_ok {v : Value} (h : okS v = true) : Rv v = some (sv v, []) := by unfold Rv; rw [if_pos h]
theorem Rv_inv {v : Value} {y : DataW Unit × List MemPlace} (h : Rv v = some y) : okS v = true ∧ y = (sv v, []) := by
 unfold Rv at h; split at h
 · rename_i h1
   injection h with h
   exact ⟨h1, h.symm⟩
 · cases h
theorem okS_form {v : Value} (h : okS v = true) : v = .slice none 0 0 ∨ ∃ g o n c, v = .slice (some ⟨g, o, none⟩) n c := by
 unfold okS at h; split at h
 · exact Or.inl rfl
 · exact Or.inr ⟨_, _, _, _, rfl⟩
 · cases h
theorem sv_inj {v v' : Value} (h : okS v = true) (h' : okS v' = true) (e : sv v = sv v') : v = v' := by
 rcases okS_form h with rfl | ⟨g, o, n, c, rfl⟩ <;> rcases okS_form h' with rfl | ⟨g', o', n', c', rfl⟩
 · rfl
 · simp [sv] at e
 · simp [sv] at e
 · simp [sv] at e
   obtain ⟨e1, e2, e3, e4⟩ := e; rw [Int.ofNat_inj.1 e1, Int.ofNat_inj.1 e2, Int.ofNat_inj.1 e3, Int.ofNat_inj.1 e4]
/-- Lists by keys, rising. -/
def lookG {α : Type} (m : List (List UInt8 × α)) (n : List UInt8) : Option α := (m.find? (fun p => p.1 == n)).map (·.2)
def insG {α : Type} (x : List UInt8 × α) : List (List UInt8 × α) → List (List UInt8 × α)
 | [] => [x]
 | y :: r => if bytesBefore x.1 y.1 then x :: y :: r else y :: insG x r
def delG {α : Type} (m : List (List UInt8 × α)) (n : List UInt8) : List (List UInt8 × α) := m.filter fun p => !(p.1 == n)
def putG {α : Type} (m : List (List UInt8 × α)) (n : List UInt8) (a : α) : List (List UInt8 × α) := insG (n, a) (delG m n)
def mapG {α β : Type} (f : α → β) (m : List (List UInt8 × α)) : List (List UInt8 × β) := m.map fun p => (p.1, f p.2)
theorem ins_mapG {α β : Type} (f : α → β) (x : List UInt8 × α) : ∀ m, mapG f (insG x m) = insG (x.1, f x.2) (mapG f m)
 | [] => rfl
 | y :: r => by
   simp only [mapG, insG, List.map_cons]; split
   · rfl
   · have := ins_mapG f x r
     unfold mapG at this; rw [List.map_cons, this]
theorem del_mapG {α β : Type} (f : α → β) (n : List UInt8) : ∀ m : List (List UInt8 × α), mapG f (delG m n) = delG (mapG f m) n
 | [] => rfl
 | y :: r => by
   have := del_mapG f n r; simp only [mapG, delG, List.map_cons, List.filter_cons] at *; split
   · rw [List.map_cons, this]
   · exact this
theorem put_mapG {α β : Type} (f : α → β) (m : List (List UInt8 × α)) (n : List UInt8) (a : α) : mapG f (putG m n a) = putG (mapG f m) n (f a) := by
 unfold putG; rw [ins_mapG, del_mapG]
theorem ins_mem {α : Type} (x : List UInt8 × α) : ∀ (m : List (List UInt8 × α)) (p : List UInt8 × α), p ∈ insG x m → p = x ∨ p ∈ m
 | [], p, h => by simpa [insG] using h
 | y :: r, p, h => by
   unfold insG at h; split at h
   · rcases List.mem_cons.1 h with h | h
     · exact Or.inl h
     · exact Or.inr h
   · rcases List.mem_cons.1 h with h | h
     · exact Or.inr (by rw [h]; simp)
     · rcases ins_mem x r p h with h | h
       · exact Or.inl h
       · exact Or.inr (List.mem_cons_of_mem _ h)
theorem put_mem {α : Type} {m : List (List UInt8 × α)} {n : List UInt8} {a : α} {p : List UInt8 × α} (h : p ∈ putG m n a) : p = (n, a) ∨ p ∈ m := by
 rcases ins_mem _ _ _ h with h | h
 · exact Or.inl h
 · exact Or.inr (List.mem_filter.1 h).1
theorem look_mem' {α : Type} {m : List (List UInt8 × α)} {n : List UInt8} {a : α} (h : lookG m n = some a) : (n, a) ∈ m := by
 unfold lookG at h; obtain ⟨p, hp, rfl⟩ := Option.map_eq_some_iff.1 h; have h1 := List.find?_some hp; have h2 := List.mem_of_find?_eq_some hp; simp at h1; rw [← h1]; exact h2
/-- The map of keys as data. -/
def toEk (p : List UInt8 × Value × List Int) : Lit × DataW Unit := (.string p.1, sv p.2.1)
def toDk (m : List (List UInt8 × Value × List Int)) : DataW Unit := .map (m.map toEk)
theorem has_toDk (m : List (List UInt8 × Value × List Int)) (n : List UInt8) : Maps.has (toDk m) (.string n) = (lookG m n).isSome := by
 unfold toDk lookG; rw [has_eq]; induction m with
 | nil => rfl
 | cons p r ih =>
   simp only [List.map_cons, List.any_cons, List.find?_cons, toEk, Lit.sameKey]; cases h : (p.1 == n)
   · simp only [Bool.false_or]
     exact ih
   · simp
theorem at_toDk (m : List (List UInt8 × Value × List Int)) (n : List UInt8) (z : DataW Unit) : (toDk m).atKey (.string n) z = match lookG m n with | some g => sv g.1 | none => z := by
 unfold toDk lookG DataW.atKey; induction m with
 | nil => rfl
 | cons p r ih =>
   simp only [List.map_cons, List.find?_cons, toEk, Lit.sameKey]; cases h : (p.1 == n)
   · exact ih
   · simp
theorem size_toDk (m : List (List UInt8 × Value × List Int)) : Maps.size (toDk m) = m.length := by simp [toDk, size_eq]
theorem ins_toEk (x : List UInt8 × Value × List Int) : ∀ l : List (List UInt8 × Value × List Int), DataW.insert (toEk x) (l.map toEk) = (insG x l).map toEk
 | [] => rfl
 | y :: r => by
   simp only [List.map_cons, DataW.insert, insG]; have e : (toEk x).1.before (toEk y).1 = bytesBefore x.1 y.1 := rfl; rw [e]; split
   · rfl
   · rw [ins_toEk x r]; rfl
theorem del_mapk (n : List UInt8) : ∀ l : List (List UInt8 × Value × List Int), (l.map toEk).filter (fun p => !p.1.sameKey (.string n)) = (delG l n).map toEk
 | [] => rfl
 | y :: r => by
   have e : (toEk y).1.sameKey (.string n) = (y.1 == n) := rfl; simp only [List.map_cons, List.filter_cons, delG, e]; have := del_mapk n r; unfold delG at this; split
   · rw [this]; rfl
   · exact this
theorem put_toDk (m : List (List UInt8 × Value × List Int)) (n : List UInt8) (v : Value) (bs : List Int) : (toDk m).put (.string n) (sv v) = toDk (putG m n (v, bs)) := by
 unfold toDk DataW.put; show DataW.map _ = _; rw [del_mapk]; exact congrArg DataW.map (ins_toEk (n, v, bs) _)
theorem del_toDk (m : List (List UInt8 × Value × List Int)) (n : List UInt8) : (toDk m).del (.string n) = toDk (delG m n) := by
 unfold toDk DataW.del; show DataW.map _ = _; rw [del_mapk]
/-- A key as the map has it. -/
def kS (key : List Int) : List UInt8 := (strOfNums key).data.toList
theorem kS_key {key : List Int} (h : key.length ≤ 140737488355328) : keyOf Tryz.prog 9 (.string (strOfNums key)) = some (.string (kS key)) := WideMaps.keyOf_string_mk Tryz.underlying9 (by unfold maxLen; have := strOfNums_size key; omega)
/-- A store in memory; D: where its blocks may lie. -/
structure KS (w : World) (D : Nat → Prop) (b bl : Nat) (br : Bool) (bm : Nat) (m : List (List UInt8 × Value × List Int)) : Prop where
 st : w.heap[b]? = some (.cells #[.pointer (some ⟨bl, 0, none⟩), .map (some bm), .bool br] 96)
 mp : w.ownsMap Tryz.prog 9 Rv bm m.length (toDk m)
 vals : ∀ p ∈ m, okS p.2.1 = true ∧ KBD w D p.2.1 p.2.2
 db : D b
 dm : D bm
theorem KS.ne {w : World} {D : Nat → Prop} {b bl : Nat} {br : Bool} {bm : Nat} {m : List (List UInt8 × Value × List Int)} (h : KS w D b bl br bm m) : b ≠ bm := fun e => by
 obtain ⟨es, clock, hb, _⟩ := h.mp; have := h.st; rw [e, hb] at this; cases this
theorem KS.mono {w w' : World} {D D' : Nat → Prop} {b bl : Nat} {br : Bool} {bm : Nat} {m : List (List UInt8 × Value × List Int)} (h : KS w D b bl br bm m) (hk : ∀ x, D x → w'.heap[x]? = w.heap[x]?) (hd : ∀ x, D x → D' x) : KS w' D' b bl br bm m :=
 ⟨(hk b h.db).trans h.st, ownsMap_heap h.mp (hk bm h.dm), fun p hp => ⟨(h.vals p hp).1, (h.vals p hp).2.mono hk hd⟩, hd b h.db, hd bm h.dm⟩
/-- How a body may be left: off its end. -/
def offEnd (R : World → Prop) : Exit → Act → World → Prop
 | .normal, _, W => R W
 | _, _, _ => False
theorem round_with {P : Program} {m l : Nat} {args : Array Value} {W : World} {r : Loop} {R : World → Prop} (hl : W.heap[l]? = some (.loop r)) (hst : r.state = .ready) (hpe : r.pending = none) (hs : args.size = r.params.size)
 (h : ∀ rb : Loop, Hid (rb = { r with state := .busy }) → r.assign.wpIn (Fence.wide.inRound l) m P (Exit.then (fun a1 W1 => W1.heap[l]? = some (.loop r) ∧
   r.body.wpIn (Fence.wide.inRound l) m P (offEnd fun W3 => W3.heap[l]? = some (.loop rb) ∧ R (W3.putObj l (.loop r))) a1 (W1.putObj l (.loop rb))) (fun _ _ _ => False))
   { tmps := (r.params.zip args).foldl (fun t (p, v) => t.setIfInBounds p v) r.tmps, defers := [] } W) :
 YieldAt Fence.wide m P l args W fun e W' => e = .returned (.bool true) ∧ R W' := by
 refine ⟨r.fn, _, r.assign, r.body, run_yield hl hs, roundIn_of_wpIn trivial (wpIn_mono (h _ rfl) ?_)⟩; rintro e a1 W1 hp; cases e with
 | normal =>
   obtain ⟨hl1, hb⟩ := hp; refine ⟨_, run_beginRound hl1 hst, wpIn_mono hb ?_⟩; rintro e a3 W3 hq; cases e with
   | normal =>
     obtain ⟨hl3, hR⟩ := hq; refine ⟨_, _, run_endRound none hl3, rfl, ?_⟩; have e1 : ({ ({ r with state := .busy } : Loop) with state := if (none : Option Code).isNone then .ready else .done, pending := none } : Loop) = r := by
      cases r; simp only at hst hpe; subst hst hpe; rfl
     rw [e1]; exact hR
   | ret => exact hq.elim
   | exit id => exact hq.elim
   | goto t => exact hq.elim
   | panic ch => exact hq.elim
   | outgrown => exact hq.elim
 | ret => exact hp.elim
 | exit id => exact hp.elim
 | goto t => exact hp.elim
 | panic ch => exact hp.elim
 | outgrown => exact hp.elim
theorem wpIn_of_wp_op {P : Program} {n l : Nat} {o : Oper} {a : Act} {w : World} {K : Act → World → Prop} {Q : Exit → Act → World → Prop} (hd : ∀ c, o.op ≠ .defer c) (h : o.wp P a w K Q) : o.wpIn (Fence.wide.inRound l) n P a w K Q := by
 refine ⟨fun _ _ => trivial, ?_⟩; rw [Oper.semAt_eq _ _ _ hd]; unfold Oper.wp at h; generalize (execOp a.eval o).run P w = r at h ⊢; have hdep : (Fence.wide.inRound l).depth.isSome = true → 1 ≤ n := fun h => by simp [Fence.wide] at h
 rcases r with ⟨nx, w'⟩ | ⟨hl, w'⟩
 · cases nx with
   | value v => exact h
   | skip => exact h
   | defer d => exact h
   | enter f args => exact ⟨hdep, CallsIn.inRound l (callsIn_wide.2 h)⟩
   | row row args =>
     refine ⟨hdep, ?_⟩; intro c cs _; obtain ⟨v, w'', hr, hs⟩ := h c cs; exact ⟨v, w'', hr, stepsIn_wide.2 hs⟩
   | _ => exact h.elim
 · cases hl <;> first | exact h | exact h.elim
theorem wpAnyIn_of_wpAny {P : Program} {n l : Nat} {md : Region.Mode} {ops : Array Oper} {Q : Exit → Act → World → Prop} (hd : ∀ (i : Nat) (o : Oper), ops[i]? = some o → ∀ c, o.op ≠ .defer c) (hlo : ¬ LetsOut Q) :
 ∀ (fuel : Nat) (listed : Array Bool) (a : Act) (w : World), wpAny P md ops Q fuel listed a w → wpAnyIn (Fence.wide.inRound l) n P md ops Q fuel listed a w
 | 0, _, _, _, h => h
 | fuel + 1, listed, a, w, h => ⟨h.1, fun i hi => by
    have h2 := h.2 i hi; unfold wpOp at h2; unfold wpOpIn; split
    · rename_i he
      simp only [he] at h2; exact wpAnyIn_of_wpAny hd hlo fuel _ a w h2
    · rename_i o he
      simp only [he] at h2; split
      · rename_i hw
        rw [if_pos hw] at h2; rcases h2 with h2 | h2
        · exact wpIn_of_wp_op (hd i o he) (Oper.wp_mono (fun a' w' h' => wpAnyIn_of_wpAny hd hlo fuel _ a' w' h') h2)
        · exact absurd h2.2 hlo
      · rename_i hw
        rw [if_neg hw] at h2; exact ⟨fun _ _ => trivial, wpAnyIn_of_wpAny hd hlo fuel _ _ w h2⟩⟩
theorem region_round {P : Program} {n l id : Nat} {ops : Array Oper} {Q : Exit → Act → World → Prop} {S : World → Prop} {a : Act} {w : World} (hm : P.follows .mixedOrders = true) (hd : ∀ (i : Nat) (o : Oper), ops[i]? = some o → ∀ c, o.op ≠ .defer c) (hlo : ¬ LetsOut Q) (hS : S w.drew)
 (h : S w.drew → wpAnyH P .any ops Q S ops.size (Array.replicate ops.size false) a w.drew) : (Code.region id ops true).wpIn (Fence.wide.inRound l) n P Q a w :=
 wpIn_region_any hm (wpAnyIn_of_wpAny hd hlo _ _ _ _ (wpAny_of_held _ _ _ _ (h hS)))
def noDefer (ops : Array Oper) : Bool := ops.all fun o => match o.op with | .defer _ => false | _ => true
theorem noDefer_spec {ops : Array Oper} (h : noDefer ops = true) (i : Nat) (o : Oper) (ho : ops[i]? = some o) (c : Call) : o.op ≠ .defer c := by
 unfold noDefer at h; rw [Array.all_eq_true] at h; obtain ⟨hi, e⟩ := Array.getElem?_eq_some_iff.1 ho; have := h i hi; rw [e] at this; intro e2; rw [e2] at this; cases this
/-- delete, as a step of a region. -/
theorem step_delete_k {w : World} {ops : Array Oper} {o : Oper} {a : Act} {K : Act → World → Prop} {Q : Exit → Act → World → Prop} {E : Prop} (hgd : o.guard = none) (x y : Operand)
 (ho : o.op = .call { callee := .builtin .delete, args := #[x, y], argTypes := #[94, 9] }) {bm n : Nat} {m : List (List UInt8 × Value × List Int)} (hx : a.eval x = .map (some bm)) (hown : w.ownsMap Tryz.prog 9 Rv bm n (toDk m)) {key : List Int} (hy : a.eval y = .string (strOfNums key)) (hl : key.length ≤ 140737488355328)
 (h : ∀ w', w'.ownsMap Tryz.prog 9 Rv bm (delG m (kS key)).length (toDk (delG m (kS key))) → w.mapTurned w' bm → K (a.put o.dst (.tuple #[])) w') :
 if Region.wanted o (yielded ops a.tmps) = true then Oper.wp Tryz.prog o a w K Q else E := by
 have hw : Region.wanted o (yielded ops a.tmps) = true := by simp [Region.wanted, hgd]
 rw [if_pos hw]; obtain ⟨w', hrun, r1, r2⟩ := hown.drop law9 Tryz.underlying94 (kS_key hl) o.type; unfold Oper.wp; simp [execOp, ho, resolve, invoke, builtin, hx, hy, hrun, Result.andThen]; rw [del_toDk] at r1; have r3 := ownsMap_size r1; rw [size_toDk] at r3; exact h w' r3 r2
/-- A store into the map, as a step of a region. -/
theorem step_put_k {w : World} {ops : Array Oper} {o : Oper} {a : Act} {K : Act → World → Prop} {Q : Exit → Act → World → Prop} {E : Prop} (hgd : o.guard = none) (x y z : Operand)
 (ho : o.op = .mapUpdate 94 x y z) {bm n : Nat} {m : List (List UInt8 × Value × List Int)} (hx : a.eval x = .map (some bm)) (hown : w.ownsMap Tryz.prog 9 Rv bm n (toDk m)) (hn : n < 9223372036854775807) {key : List Int} (hy : a.eval y = .string (strOfNums key)) (hl : key.length ≤ 140737488355328) {v : Value} (hz : a.eval z = v) (hv : okS v = true) (bs : List Int)
 (h : ∀ w', w'.ownsMap Tryz.prog 9 Rv bm (putG m (kS key) (v, bs)).length (toDk (putG m (kS key) (v, bs))) → w.mapTurned w' bm → K (a.put o.dst undef) w') :
 if Region.wanted o (yielded ops a.tmps) = true then Oper.wp Tryz.prog o a w K Q else E := by
 have hw : Region.wanted o (yielded ops a.tmps) = true := by simp [Region.wanted, hgd]
 rw [if_pos hw]; obtain ⟨w', hrun, r1, r2⟩ := hown.store law9 Tryz.underlying94 (by unfold maxLen; omega) (kS_key hl) (Rv_ok hv); unfold Oper.wp; simp [execOp, ho, hx, hy, hz, hrun, Result.andThen]; rw [put_toDk m (kS key) v bs] at r1; have r3 := ownsMap_size r1; rw [size_toDk] at r3; exact h w' r3 r2
theorem wpListIn_append_b {F : Fence} {nF : Nat} {w : World} {ops : Array Oper} {rest : List Oper} {o : Oper} {a : Act} {Q : Exit → Act → World → Prop} (hgd : o.guard = none) (s x : Operand)
 (ho : o.op = .call { callee := .builtin .append, args := #[s, x], argTypes := #[23, 23] }) (base : Nat)
 (v u : Value) (bs news : List Int) (hs : a.eval s = v) (hown : w.ownsRow base 5 1 v bs.length (vB bs)) (hx : a.eval x = u) (hn : BytesV w u news)
 (hbytes : bs.length + news.length ≤ 140737488355328) (hbase : base ≤ w.heap.size)
 (h : ∀ v' w', w'.ownsRow base 5 1 v' (bs ++ news).length (vB (bs ++ news)) → w.grownBy w' v.ownBlock → (v'.ownBlock = v.ownBlock ∨ v'.ownBlock = some w.heap.size) → wpListIn F nF Tryz.prog ops Q rest (a.put o.dst v') w') : wpListIn F nF Tryz.prog ops Q (o :: rest) a w := by
 obtain ⟨i0, hi, hz0, hz1, hz2⟩ := info5c; rcases hn with ⟨rfl, rfl⟩ | ⟨ad, cap, rfl, hc⟩
 · refine wpListIn_plain hgd fun K hK => ?_
   have hrun := run_append_owned_none (P := Tryz.prog) (w := w) base 23 o.type 5 i0 1 Tryz.underlying23 hi v bs.length (vB bs) hown; unfold Oper.wpIn; refine ⟨by simp [Oper.about, ho, resolve, Target.leads, Sem.run_pure], ?_⟩; rw [Oper.semAt_plain F _ _ (by rw [ho]; intro c hc'; cases hc')]; simp [execOp, ho, resolve, invoke, builtin, hs, hx, hrun, Result.andThen]; exact hK _ _ (h v w (by simpa using hown) (World.grownBy.refl _ _) (Or.inl rfl))
 · refine wpListIn_append_own_at w hgd s x 23 ho base 5 i0 (.int .u8 0) 1 1 Tryz.underlying23 hi hz0 hz1 hz2 rfl (by decide) v bs.length (vB bs) hs hown ad news.length cap (vB news) hx (by rw [vB_length, Nat.mul_one]) hc (vB_one news) (by unfold maxLen; omega) (by omega) hbase (fun v' w' a b _ d => h v' w' ?_ b d)
   rw [List.length_append, vB_append]; exact a
/-- Within the rounds of write: the result's two variables, the bytes so far, the loop. -/
structure WrJ (w W : World) (rc : Loop) (v : Value) (out : List Int) : Prop where
 b0 : W.heap[w.heap.size]? = some (.cells #[.slice none 0 0] 23)
 b1 : W.heap[w.heap.size + 1]? = some (.cells #[.int .i64 0] 25)
 b2 : W.heap[w.heap.size + 2]? = some (.cells #[v] 23)
 b3 : W.heap[w.heap.size + 3]? = some (.deferred (some []))
 b4 : W.heap[w.heap.size + 4]? = some (.loop rc)
 row : W.ownsRow (w.heap.size + 5) 5 1 v out.length (vB out)
 bl : Below w.heap.size w W
theorem WrJ.size {w W : World} {rc : Loop} {v : Value} {out : List Int} (h : WrJ w W rc v out) : w.heap.size + 5 ≤ W.heap.size := by
 have := heap_lt h.b4; omega
theorem WrJ.below {w W W2 : World} {rc : Loop} {v : Value} {out : List Int} (h : WrJ w W rc v out) (hb : Below W.heap.size W W2) : WrJ w W2 rc v out := by
 have hs := h.size; exact ⟨(hb.block _ (by omega)).trans h.b0, (hb.block _ (by omega)).trans h.b1, (hb.block _ (by omega)).trans h.b2, (hb.block _ (by omega)).trans h.b3, (hb.block _ (by omega)).trans h.b4, ownsRow_heap h.row (fun b hb' => hb.block b (h.row.lt b hb').2), h.bl.trans (hb.mono h.bl.size)⟩
theorem WrJ.put {w W : World} {rc : Loop} {v : Value} {out : List Int} (h : WrJ w W rc v out) (r2 : Loop) : WrJ w (W.putObj (w.heap.size + 4) (.loop r2)) r2 v out := by
 have hs := h.size; have ho : ∀ b, b ≠ w.heap.size + 4 → (W.putObj (w.heap.size + 4) (.loop r2)).heap[b]? = W.heap[b]? := fun b hb => World.putObj_heap_other hb
 refine ⟨(ho _ (by omega)).trans h.b0, (ho _ (by omega)).trans h.b1, (ho _ (by omega)).trans h.b2, (ho _ (by omega)).trans h.b3, World.putObj_heap_same (by omega), ownsRow_heap h.row (fun b hb => ho b (by have := (h.row.lt b hb).1; omega)), ?_⟩; exact ⟨h.bl.os, h.bl.tape, h.bl.output, by simpa [World.putObj] using h.bl.size, fun b hb => (ho b (by omega)).trans (h.bl.block b hb)⟩
/-- More bytes: they were appended, then the variable is stored. -/
theorem WrJ.step {w V V2 : World} {rc : Loop} {v v' : Value} {out out' : List Int} (h : WrJ w V rc v out) (hg : V.grownBy V2 v.ownBlock) (hrow : V2.ownsRow (w.heap.size + 5) 5 1 v' out'.length (vB out')) : WrJ w (V2.setCell ⟨w.heap.size + 2, 0, none⟩ v') rc v' out' := by
 have hs := h.size; have hlow : ∀ b, b < w.heap.size + 5 → V2.heap[b]? = V.heap[b]? := fun b hb => hg.block b (by omega) (fun e => by have := (h.row.lt b e.symm).1; omega)
 have k4 : ∀ b, b ≠ w.heap.size + 2 → (V2.setCell ⟨w.heap.size + 2, 0, none⟩ v').heap[b]? = V2.heap[b]? := fun b hb => Below.heap_setCell _ _ _ _ hb
 refine ⟨(k4 _ (by omega)).trans ((hlow _ (by omega)).trans h.b0), (k4 _ (by omega)).trans ((hlow _ (by omega)).trans h.b1), ?_, (k4 _ (by omega)).trans ((hlow _ (by omega)).trans h.b3), (k4 _ (by omega)).trans ((hlow _ (by omega)).trans h.b4), ownsRow_heap hrow (fun b hb => k4 b (by have := (hrow.lt b hb).1; omega)), ?_⟩
 · exact heap_setCell_same _ _ 0 _ 23 v' ((hlow _ (by omega)).trans h.b2)
 · exact (h.bl.grown hg (by omega) (fun b hb => by have := (h.row.lt b hb).1; omega)).setCell (p := ⟨w.heap.size + 2, 0, none⟩) (by show w.heap.size ≤ w.heap.size + 2; omega) _
end Go.Proofs.YtconkienlcegaaaGreatDoor
