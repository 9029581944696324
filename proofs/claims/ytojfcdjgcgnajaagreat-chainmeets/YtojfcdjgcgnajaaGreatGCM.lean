/- Shelf, Base, MN, GV, CM -/
import Derived.Shelf.Small.Bits
import Derived.Shelf.Strconv.Itoa0
import Derived.Shelf.Bits.Mul64
import Derived.Test.YtojfcdjgcgnajaaGreatProg
import Derived.Test.YtojfcdjgcgnajaaGreatChecked
import Derived.Shelf.Spec.BitsCarry
import Derived.WalkKit
import Derived.WalkSpells
import Derived.StillTactics
import Derived.Laws.Pointers
import Derived.Laws.Externs
import Derived.Deep.RegionHeld3
import Derived.RowKit3
import Derived.Handy
import Derived.Lib.Mul64
import Derived.Laws.Bits64b
import Derived.BigQuiet
import Derived.Deep.QuietTactic
import Derived.Deep.DeepCutAuto
import Derived.Deep.DeepFit
import Derived.Deep.OwnRows
import Derived.Laws.Rows
import Derived.Laws.Tables
import Derived.Deep.WholeRow
import Derived.RangeFuncNested
import Derived.Maps.Own
namespace Go.Proofs
open Go.Shelf
def Tryz.lays134_ren : Go.Shelf.Ren := ⟨fun | 134 => 98 | 129 => 129 | n => n, fun | 53 => 22 | 3 => 3 | 4 => 4 | 46 => 155 | 5 => 5 | 9 => 9 | n => n, fun | n => n⟩
theorem Tryz.lays134 : Go.Proofs.Lays.n134 Tryz.prog Tryz.lays134_ren := {
 mixed := by kernel_rfl
 f129 := Tryz.func129.trans (congrArg some (by kernel_rfl))
 f134 := Tryz.func98.trans (congrArg some (by kernel_rfl))
 t3 := Tryz.underlying3
 a3 := Tryz.isAgg3
 z3 := Tryz.sizeOf3
 v3 := Tryz.zeroValue3
 t4 := Tryz.underlying4
 a4 := Tryz.isAgg4
 z4 := Tryz.sizeOf4
 v4 := Tryz.zeroValue4
 t5 := Tryz.underlying5
 a5 := Tryz.isAgg5
 z5 := Tryz.sizeOf5
 v5 := Tryz.zeroValue5
 t9 := Tryz.underlying9
 a9 := Tryz.isAgg9
 z9 := Tryz.sizeOf9
 v9 := Tryz.zeroValue9
 t46 := Tryz.underlying155
 a46 := Tryz.isAgg155
 z46 := Tryz.sizeOf155
 v46 := Tryz.zeroValue155
 t53 := Tryz.underlying22
 a53 := Tryz.isAgg22
 z53 := Tryz.sizeOf22
 v53 := Tryz.zeroValue22 }
theorem Tryz.bits_LeadingZeros64 (x : Int) (w : World) (h0 : 0 ≤ x) (h1 : x ≤ 18446744073709551615) :
 Calls Tryz.prog 98 #[.int .u64 x] w fun e w' => e = .returned (.int .i64 (64 - (Lib.bitLen x.toNat : Int))) ∧ w' = w := Any.bits_LeadingZeros64 Tryz.lays134 x w h0 h1
def Tryz.lays129_ren : Go.Shelf.Ren := ⟨fun | 129 => 129 | n => n, fun | 53 => 22 | 3 => 3 | 4 => 4 | 46 => 155 | 5 => 5 | 9 => 9 | n => n, fun | n => n⟩
theorem Tryz.lays129 : Go.Proofs.Lays.n129 Tryz.prog Tryz.lays129_ren := {
 mixed := by kernel_rfl
 f129 := Tryz.func129.trans (congrArg some (by kernel_rfl))
 t3 := Tryz.underlying3
 a3 := Tryz.isAgg3
 z3 := Tryz.sizeOf3
 v3 := Tryz.zeroValue3
 t4 := Tryz.underlying4
 a4 := Tryz.isAgg4
 z4 := Tryz.sizeOf4
 v4 := Tryz.zeroValue4
 t5 := Tryz.underlying5
 a5 := Tryz.isAgg5
 z5 := Tryz.sizeOf5
 v5 := Tryz.zeroValue5
 t9 := Tryz.underlying9
 a9 := Tryz.isAgg9
 z9 := Tryz.sizeOf9
 v9 := Tryz.zeroValue9
 t46 := Tryz.underlying155
 a46 := Tryz.isAgg155
 z46 := Tryz.sizeOf155
 v46 := Tryz.zeroValue155
 t53 := Tryz.underlying22
 a53 := Tryz.isAgg22
 z53 := Tryz.sizeOf22
 v53 := Tryz.zeroValue22 }
theorem Tryz.bits_Len64 (x : Int) (w : World) (h0 : 0 ≤ x) (h1 : x ≤ 18446744073709551615) :
 Calls Tryz.prog 129 #[.int .u64 x] w fun e w' => e = .returned (.int .i64 (Lib.bitLen x.toNat)) ∧ w' = w := Any.bits_Len64 Tryz.lays129 x w h0 h1
def Tryz.lays264_ren : Go.Shelf.Ren := ⟨fun | 264 => 134 | n => n, fun | 53 => 22 | 46 => 155 | n => n, fun | n => n⟩
theorem Tryz.lays264 : Go.Proofs.Lays.n264 Tryz.prog Tryz.lays264_ren := {
 mixed := by kernel_rfl
 f264 := Tryz.func134.trans (congrArg some (by kernel_rfl))
 t46 := Tryz.underlying155
 a46 := Tryz.isAgg155
 z46 := Tryz.sizeOf155
 v46 := Tryz.zeroValue155
 t53 := Tryz.underlying22
 a53 := Tryz.isAgg22
 z53 := Tryz.sizeOf22
 v53 := Tryz.zeroValue22 }
open Go.RowKit Go.Lib in
theorem Tryz.bits_Mul64 (x y : Nat) (hx : x < 18446744073709551616) (hy : y < 18446744073709551616) (w : World) :
 Calls Tryz.prog 134 #[.int .u64 x, .int .u64 y] w fun e w' => e = .returned (.tuple #[.int .u64 ((x * y / 18446744073709551616 : Nat) : Int), .int .u64 ((x * y % 18446744073709551616 : Nat) : Int)]) ∧ w' = w := Any.bits_Mul64 Tryz.lays264 x y hx hy w
end Go.Proofs
namespace Go.Proofs.YtojfcdjgcgnajaaGreat
open Go.RowKit
theorem add64 (x y c : Int) (hx : 0 ≤ x) (hy : 0 ≤ y) (hc0 : 0 ≤ c) (hc : c ≤ 1) (w : World) : (callFunc 95 #[.int .u64 x, .int .u64 y, .int .u64 c]).run Tryz.prog w =
 .ok (.value (.tuple #[.int .u64 ((x + y + c) % 18446744073709551616), .int .u64 ((x + y + c) / 18446744073709551616)])) w := by
 obtain ⟨x, rfl⟩ := Int.eq_ofNat_of_zero_le hx; obtain ⟨y, rfl⟩ := Int.eq_ofNat_of_zero_le hy; obtain ⟨c, rfl⟩ := Int.eq_ofNat_of_zero_le hc0; rw [run_callFunc_extern Tryz.func95 (by kernel_rfl) (by kernel_rfl) (by kernel_rfl) (e := add64Entry) (by kernel_rfl), run_add64 x y c (by omega) (by omega) (by omega) (by omega)]; simp only [Result.andThen]
theorem sub64 (x y b : Int) (hx : 0 ≤ x) (hy : 0 ≤ y) (hb0 : 0 ≤ b) (hb : b ≤ 1) (hy' : y < 18446744073709551616) (w : World) : (callFunc 123 #[.int .u64 x, .int .u64 y, .int .u64 b]).run Tryz.prog w =
 .ok (.value (.tuple #[.int .u64 ((x - y - b) % 18446744073709551616), .int .u64 (if x < y + b then 1 else 0)])) w := by
 obtain ⟨x, rfl⟩ := Int.eq_ofNat_of_zero_le hx; obtain ⟨y, rfl⟩ := Int.eq_ofNat_of_zero_le hy; obtain ⟨b, rfl⟩ := Int.eq_ofNat_of_zero_le hb0; have e1 : (((x + 18446744073709551616 - y - b) % 18446744073709551616 : Nat) : Int) = ((x : Int) - y - b) % 18446744073709551616 := by omega
 have e2 : ((if x < y + b then 1 else 0 : Nat) : Int) = if (x : Int) < y + b then 1 else 0 := by split <;> split <;> omega
 rw [← e1, ← e2, run_callFunc_extern Tryz.func123 (by kernel_rfl) (by kernel_rfl) (by kernel_rfl) (e := sub64Entry) (by kernel_rfl), run_sub64 x y b (by omega)]; rfl
def Limb (x : Int) : Prop := 0 ≤ x ∧ x < 18446744073709551616
def L4 (a0 a1 a2 a3 : Int) : Prop := Limb a0 ∧ Limb a1 ∧ Limb a2 ∧ Limb a3
def num (a0 a1 a2 a3 : Int) : Int := a0 + 18446744073709551616 * a1 + 340282366920938463463374607431768211456 * a2 + 6277101735386680763835789423207666416102355444464034512896 * a3
abbrev W4 (a0 a1 a2 a3 : Int) : Value := .agg #[.int .u64 a0, .int .u64 a1, .int .u64 a2, .int .u64 a3]
def T256 : Int := 115792089237316195423570985008687907853269984665640564039457584007913129639936
theorem num_bd {a0 a1 a2 a3 : Int} (h : L4 a0 a1 a2 a3) : 0 ≤ num a0 a1 a2 a3 ∧ num a0 a1 a2 a3 < T256 := by
 obtain ⟨⟨_, _⟩, ⟨_, _⟩, ⟨_, _⟩, ⟨_, _⟩⟩ := h; unfold num T256; omega
theorem num_inj {a0 a1 a2 a3 b0 b1 b2 b3 : Int} (h : L4 a0 a1 a2 a3) (k : L4 b0 b1 b2 b3) (e : num a0 a1 a2 a3 = num b0 b1 b2 b3) : a0 = b0 ∧ a1 = b1 ∧ a2 = b2 ∧ a3 = b3 := by
 obtain ⟨⟨_, _⟩, ⟨_, _⟩, ⟨_, _⟩, ⟨_, _⟩⟩ := h; obtain ⟨⟨_, _⟩, ⟨_, _⟩, ⟨_, _⟩, ⟨_, _⟩⟩ := k; unfold num at e; omega
theorem bcell {W w1 : World} (hb : Below W.heap.size W w1) : (∀ b o, b < W.heap.size → w1.cell? ⟨b, o, none⟩ = W.cell? ⟨b, o, none⟩) ∧ (∀ b o, b < W.heap.size → w1.frozen? ⟨b, o, none⟩ = W.frozen? ⟨b, o, none⟩) :=
 ⟨fun b o h => hb.cell (p := ⟨b, o, none⟩) h, fun b o h => hb.frozen (p := ⟨b, o, none⟩) h⟩
theorem add64_ex (x y c : Int) (hx : Limb x) (hy : Limb y) (hc0 : 0 ≤ c) (hc : c ≤ 1) : ∃ s d : Int,
 (∀ w, (callFunc 95 #[.int .u64 x, .int .u64 y, .int .u64 c]).run Tryz.prog w = .ok (.value (.tuple #[.int .u64 s, .int .u64 d])) w) ∧ Limb s ∧ 0 ≤ d ∧ d ≤ 1 ∧ Hid (x + y + c = s + 18446744073709551616 * d) :=
 ⟨_, _, add64 x y c hx.1 hy.1 hc0 hc, ⟨by omega, by omega⟩, by have := hx.1; have := hy.1; omega, by have := hx.2; have := hy.2; omega, by show x + y + c = _; omega⟩
theorem sub64_ex (x y c : Int) (hx : Limb x) (hy : Limb y) (hc0 : 0 ≤ c) (hc : c ≤ 1) : ∃ s d : Int,
 (∀ w, (callFunc 123 #[.int .u64 x, .int .u64 y, .int .u64 c]).run Tryz.prog w = .ok (.value (.tuple #[.int .u64 s, .int .u64 d])) w) ∧ Limb s ∧ 0 ≤ d ∧ d ≤ 1 ∧ Hid (x - y - c = s - 18446744073709551616 * d) := by
 obtain ⟨hx0, hx1⟩ := hx; obtain ⟨hy0, hy1⟩ := hy; refine ⟨_, _, sub64 x y c hx0 hy0 hc0 hc hy1, ⟨by omega, by omega⟩, by split <;> omega, by split <;> omega, ?_⟩; show x - y - c = _; split <;> omega
theorem mul64_any (x y : Int) (hx : Limb x) (hy : Limb y) (w : World) :
 Calls Tryz.prog 134 #[.int .u64 x, .int .u64 y] w fun e w' => ∃ h l : Int, e = .returned (.tuple #[.int .u64 h, .int .u64 l]) ∧ Limb l ∧ (0 ≤ h ∧ h ≤ 18446744073709551614) ∧ Hid (x * y = l + 18446744073709551616 * h) ∧ w' = w := by
 obtain ⟨hx0, hx1⟩ := hx; obtain ⟨hy0, hy1⟩ := hy; obtain ⟨x, rfl⟩ := Int.eq_ofNat_of_zero_le hx0; obtain ⟨y, rfl⟩ := Int.eq_ofNat_of_zero_le hy0; refine (Tryz.bits_Mul64 x y (by omega) (by omega) w).mono ?_; rintro e w' ⟨rfl, rfl⟩; have hb : x * y ≤ 18446744073709551615 * 18446744073709551615 := Nat.mul_le_mul (by omega) (by omega); refine ⟨_, _, rfl, ⟨by omega, by omega⟩, ⟨by omega, by omega⟩, ?_, rfl⟩; show (x : Int) * (y : Int) = _; rw [← Int.natCast_mul]; omega
end Go.Proofs.YtojfcdjgcgnajaaGreat
namespace Go.Proofs.YtojfcdjgcgnajaaGreat
open Go.RowKit
theorem sm : (∀ (xs : List Oper) (i : Nat) (h : i < xs.toArray.size), xs.toArray[i] = xs[i]'(by simpa using h)) ∧ (∀ (a : Oper) (ls : List Oper) (i : Nat) (h : i + 1 < (a :: ls).length), (a :: ls)[i + 1] = ls[i]'(by simpa using h)) ∧ (∀ (a : Oper) (ls : List Oper) (h : 0 < (a :: ls).length), (a :: ls)[0] = a) ∧
 (∀ (a : Act) (v : Value), a.put none v = a) ∧ (∀ (a : Act) (d : Tmp) (v : Value), a.put (some d) v = { tmps := a.tmps.setIfInBounds d v, defers := a.defers }) ∧ (∀ (xs : List Value) (i : Nat) (v : Value), xs.toArray.setIfInBounds i v = (xs.set i v).toArray) ∧ (∀ (a v : Value) (ls : List Value), (a :: ls).set 0 v = v :: ls) ∧ (∀ (a v : Value) (ls : List Value) (i : Nat), (a :: ls).set (i + 1) v = a :: ls.set i v) :=
 ⟨fun xs i h => by simp, fun a ls i h => by simp, fun a ls h => rfl, fun a v => rfl, fun a d v => rfl, fun xs i v => by simp, fun a v ls => rfl, fun a v ls i => rfl⟩
theorem tk {P : Program} {ops : Array Oper} {Q : Exit → Act → World → Prop} {md : Region.Mode} {S : World → Prop} {oi : Oper} {fuel : Nat} {listed : Array Bool} {a : Act} {w : World} (i : Nat) (v : Value)
 (hy : ∀ w, S w → (execOp a.eval oi).run P w = .ok (.value v) w) (hS : S w) (h : wpAnyH P md ops Q S fuel (listed.setIfInBounds i true) (a.put oi.dst v) w)
 (h1 : ops[i]? = some oi := by rfl) (h2 : Region.noSelect ops = true := by kernel_rfl) (h3 : Region.free md ops listed i = true := by kernel_rfl) (h4 : (Region.ready md ops listed).contains i = true := by kernel_rfl)
 (hq : ∀ (c : List PanicEntry) (a : Act) (w : World), Q (Exit.panic c) (a.put oi.dst v) w → Q (Exit.panic c) a w := by exact fun _ _ _ h => h) (hw : Region.wanted oi (yielded ops a.tmps) = true := by rfl) : wpAnyH P md ops Q S (fuel + 1) listed a w :=
 wpAnyH_take h1 h2 h3 h4 hq (Or.inl ⟨hw, hy⟩) hS h
theorem rd {P : Program} {ops : Array Oper} {Q : Exit → Act → World → Prop} {md : Region.Mode} {S : World → Prop} {o : Oper} {fuel : Nat} {listed : Array Bool} {a : Act} {w : World} (i : Nat)
 (h : ∀ (K' : Act → World → Prop), Shut (∀ (a : Act) (w : World), S w → (S w → wpAnyH P md ops Q S fuel (listed.setIfInBounds i true) a w) → K' a w) → if Region.wanted o (yielded ops a.tmps) = true then Oper.wp P o a w K' Q else K' (a.put o.dst undef) w)
 (ho : ops[i]? = some o := by rfl) (hr : Region.ready md ops listed = [i] := by kernel_rfl) : wpAnyH P md ops Q S (fuel + 1) listed a w :=
 wpAnyH_ready hr (by simp) (AllReadyH.cons ho h AllReadyH.nil)
theorem ws {P : Program} {ops : Array Oper} {Q : Exit → Act → World → Prop} {i : Nat} {o : Oper} {K : Act → World → Prop} {a : Act} {w : World}
 (h : ∀ K' : Act → World → Prop, Hid (∀ a w, K a w → K' a w) → if Region.wanted o (yielded ops a.tmps) = true then Oper.wp P o a w K' Q else K' (a.put o.dst undef) w) (ho : ops[i]? = some o := by rfl) : wpOp P ops Q i K a w :=
 wpOp_step ho h
end Go.Proofs.YtojfcdjgcgnajaaGreat
namespace Go.Proofs.YtojfcdjgcgnajaaGreat
open Go.RowKit
set_option linter.unusedSimpArgs false
set_option linter.unusedVariables false
def vec (n : Nat) (f : Nat → Value) : Array Value := ((List.range n).map f).toArray
@[simp] theorem size_vec (n : Nat) (f : Nat → Value) : (vec n f).size = n := by simp [vec]
theorem get_vec (n : Nat) (f : Nat → Value) (i : Nat) (h : i < n) : (vec n f)[i]? = some (f i) := by
 simp [vec, h]
theorem vec_eq {n : Nat} {f : Nat → Value} {c : Array Value} (hs : c.size = n) (h : ∀ i, i < n → c[i]? = some (f i)) : c = vec n f := by
 apply Array.ext
 · simp [hs]
 · intro i h1 h2
   have a := h i (by omega); have b := get_vec n f i (by omega); rw [Array.getElem?_eq_getElem h1] at a; rw [Array.getElem?_eq_getElem h2] at b; exact Option.some.inj (a.trans b.symm)
theorem vec_congr {n : Nat} {f g : Nat → Value} (h : ∀ i, i < n → f i = g i) : vec n f = vec n g :=
 vec_eq (by simp) (fun i hi => by rw [get_vec n f i hi, h i hi])
theorem row_heap {w : World} {b : Nat} {t : TypeId} {n : Nat} {f : Nat → Value} (h : w.rowIs b t n f) : w.heap[b]? = some (.cells (vec n f) t (0, 0)) := by
 obtain ⟨cs, h1, h2, h3⟩ := h; rw [h1, vec_eq h2 h3]
theorem heap_row {w : World} {b : Nat} {t : TypeId} {n : Nat} {f : Nat → Value} (h : w.heap[b]? = some (.cells (vec n f) t (0, 0))) : w.rowIs b t n f :=
 ⟨_, h, by simp, fun i hi => get_vec n f i hi⟩
end Go.Proofs.YtojfcdjgcgnajaaGreat
namespace Go.Proofs.YtojfcdjgcgnajaaGreat
open Go.RowKit Go.Maps
set_option linter.unusedSimpArgs false
set_option linter.unusedVariables false
abbrev arV (n : Nat) (k : IntKind) (x : Nat → Int) : Value := .agg (vec n fun j => .int k (x j))
theorem check_arr {P : Program} (em : Bool) (K e n : Nat) (k : IntKind) (ht : P.underlying K = some (.array n e)) (hs : ∀ w, (sizeOf e).run P w = .ok 1 w) (ha : ∀ w, (isAgg e).run P w = .ok false w) (he : P.underlying e = some (.int k)) (x : Nat → Int) (w : World) :
 (Instr.checkKey em 10000 K (arV n k x)).run P w = .ok () w := by
 have h1 : ∀ (d : Nat) (i : Nat) (w : World), (Instr.checkKey em (d + 1) e (.int k (x i))).run P w = .ok () w := fun d i w => by
  rw [Instr.checkKey]; simp [Sem.run_bind, run_underlying he]
 rw [Instr.checkKey]; simp only [Sem.run_bind, run_underlying ht, Result.andThen_ok, hs, Std.Legacy.Range.forIn_eq_forIn_range']; have hl : ∀ l : List Nat, (∀ i ∈ l, i < n) → (forIn (m := Sem) l PUnit.unit fun i __s => do
           let __do_lift ← sizeOf e
           let __do_lift ← part e (vec n fun j => .int k (x j)) (i * __do_lift)
           Instr.checkKey em 9999 e __do_lift
           pure (ForInStep.yield PUnit.unit)).run P w = .ok PUnit.unit w := by
  intro l; induction l with
  | nil => intro _; simp
  | cons i l ih =>
    intro hi; have hin : i < n := hi i (by simp); have h2 := ih (fun j hj => hi j (by simp [hj])); have hp : (part e (vec n fun j => .int k (x j)) (i * 1)).run P w = .ok (.int k (x i)) w := by
     simp [part, Sem.run_bind, ha, get_vec n (fun j => .int k (x j)) i hin]
    rw [List.forIn_cons]; simp only [Sem.run_bind, hs, Result.andThen_ok, hp, h1 9998, Sem.run_pure]; exact h2
 rw [hl _ (fun i hi => by simp at hi; omega)]; simp
theorem eq_arr {P : Program} (K e n : Nat) (k : IntKind) (ht : P.underlying K = some (.array n e)) (hs : ∀ w, (sizeOf e).run P w = .ok 1 w) (ha : ∀ w, (isAgg e).run P w = .ok false w) (he : P.underlying e = some (.int k)) (x y : Nat → Int) (w : World) :
 (Op.equalIn 10000 K (arV n k x) (arV n k y)).run P w = .ok (decide (∀ j, j < n → x j = y j)) w := by
 rw [Op.equalIn]; simp only [Sem.run_bind, run_underlying ht, Result.andThen_ok, hs, Std.Legacy.Range.forIn_eq_forIn_range']; have hl : ∀ l : List Nat, (∀ i ∈ l, i < n) → (forIn (m := Sem) l ((none : Option Bool), ()) fun i __s => do
           let __do_lift ← part e (vec n fun j => .int k (x j)) (i * 1)
           let __do_lift_1 ← part e (vec n fun j => .int k (y j)) (i * 1)
           let __do_lift ← Op.equalIn 9999 e __do_lift __do_lift_1
           if (!__do_lift) = true then pure (ForInStep.done (some false, ())) else pure (ForInStep.yield ((none : Option Bool), ()))).run P w = .ok (if ∀ i ∈ l, x i = y i then (none, ()) else (some false, ())) w := by
  intro l; induction l with
  | nil => intro _; simp
  | cons i l ih =>
    intro hi; have hin : i < n := hi i (by simp); have h2 := ih (fun j hj => hi j (by simp [hj])); have hp : ∀ z : Nat → Int, (part e (vec n fun j => .int k (z j)) (i * 1)).run P w = .ok (.int k (z i)) w := fun z => by
     simp [part, Sem.run_bind, ha, get_vec n (fun j => .int k (z j)) i hin]
    rw [List.forIn_cons]; have hq : (Op.equalIn 9999 e (.int k (x i)) (.int k (y i))).run P w = .ok (x i == y i) w := by rw [run_equalIn_int w 9998 e k k _ _ he]
    simp only [Sem.run_bind, hp, Result.andThen_ok, hq]; by_cases hxy : x i = y i
    · simp only [hxy, BEq.rfl, Bool.not_true, Bool.false_eq_true, if_false, Sem.run_pure, Result.andThen_ok]
      rw [h2]; simp [hxy]
    · have hb : (x i == y i) = false := by simpa using hxy
      simp only [hb, Bool.not_false, if_true, Sem.run_pure, Result.andThen_ok]; simp [hxy]
 rw [hl _ (fun i hi => by simp at hi; omega)]; by_cases h : ∀ j, j < n → x j = y j
 · rw [if_pos (fun i hi => h i (by simp at hi; omega))]
   simp
   exact h
 · rw [if_neg (fun hc => h (fun j hj => hc j (by simp; omega)))]
   rw [decide_eq_false h]; simp
def findA (n : Nat) (x : Nat → Int) : List ((Nat → Int) × Value × Nat) → Nat → Option (Nat × Value)
 | [], _ => none
 | (y, v, _) :: r, i => if (∀ j, j < n → x j = y j) then some (i, v) else findA n x r (i + 1)
def entA (n : Nat) (k : IntKind) (l : List ((Nat → Int) × Value × Nat)) : List MapEntry := l.map fun (y, v, b) => { key := arV n k y, val := v, born := b }
theorem find_arr {P : Program} (K e n : Nat) (k : IntKind) (ht : P.underlying K = some (.array n e)) (hs : ∀ w, (sizeOf e).run P w = .ok 1 w) (ha : ∀ w, (isAgg e).run P w = .ok false w) (he : P.underlying e = some (.int k)) (x : Nat → Int) (l : List ((Nat → Int) × Value × Nat)) (w : World) :
 (Instr.findKey K (arV n k x) (entA n k l)).run P w = .ok (findA n x l 0) w := by
 have hg : ∀ (l : List ((Nat → Int) × Value × Nat)) (i : Nat), (Instr.findAsking K (arV n k x) (entA n k l) i).run P w = .ok (findA n x l i) w := by
  intro l; induction l with
  | nil => intro i; simp [entA, Instr.findAsking, findA]
  | cons q l ih =>
    intro i; obtain ⟨y, v, b⟩ := q; show (Instr.findAsking K (arV n k x) ({ key := arV n k y, val := v, born := b } :: entA n k l) i).run P w = _; rw [Instr.findAsking]; have hq : (Op.equal K (arV n k x) (arV n k y)).run P w = .ok (decide (∀ j, j < n → x j = y j)) w := eq_arr K e n k ht hs ha he x y w; simp only [Sem.run_bind, hq, Result.andThen_ok, findA]; by_cases h : ∀ j, j < n → x j = y j
    · rw [decide_eq_true h, if_pos h]
      simp
    · rw [decide_eq_false h, if_neg h]
      exact ih (i + 1)
 unfold Instr.findKey; simp only [Sem.run_bind, run_underlying ht, Result.andThen_ok]; cases l with
 | nil => simp [entA, Instr.findNow, findA]
 | cons q l =>
   obtain ⟨y, v, b⟩ := q; have : Instr.findNow (.array n e) (arV n k x) (entA n k ((y, v, b) :: l)) 0 = none := rfl; rw [this]; exact hg _ 0
def lookA (n : Nat) (x : Nat → Int) (l : List ((Nat → Int) × Value × Nat)) (z : Value) : Value :=
 match findA n x l 0 with
 | some (_, v) => .tuple #[v, .bool true]
 | none => .tuple #[z, .bool false]
theorem run_lookup_arr {P : Program} {w : World} (T K V e n : Nat) (k : IntKind) (hT : P.underlying T = some (.map K V)) (ht : P.underlying K = some (.array n e)) (hs : ∀ w, (sizeOf e).run P w = .ok 1 w) (ha : ∀ w, (isAgg e).run P w = .ok false w) (he : P.underlying e = some (.int k)) (z : Value) (hz : ∀ w, (zeroValue V).run P w = .ok z w)
 {m clock : Nat} (l : List ((Nat → Int) × Value × Nat)) (hm : w.heap[m]? = some (.map (entA n k l).toArray clock)) (x : Nat → Int) :
 (Instr.lookup T (.map (some m)) (arV n k x) true).run P w = .ok (lookA n x l z) w := by
 have hf := find_arr K e n k ht hs ha he x l w; have hgo : (getObj m).run P w = .ok (.map (entA n k l).toArray clock) w := by simp [getObj, Sem.run, hm]
 unfold Instr.lookup; simp only [Sem.run_bind, run_underlying hT, Result.andThen_ok, hgo, Sem.run_pure, check_arr _ K e n k ht hs ha he x w, hf, List.toList_toArray]; unfold lookA; cases h : findA n x l 0 with
 | none => simp [h, hz]
 | some q => obtain ⟨i, v⟩ := q; simp [h]
theorem run_update_new {P : Program} {w : World} (T K V e n : Nat) (k : IntKind) (hT : P.underlying T = some (.map K V)) (ht : P.underlying K = some (.array n e)) (hs : ∀ w, (sizeOf e).run P w = .ok 1 w) (ha : ∀ w, (isAgg e).run P w = .ok false w) (he : P.underlying e = some (.int k))
 {m clock : Nat} (l : List ((Nat → Int) × Value × Nat)) (hm : w.heap[m]? = some (.map (entA n k l).toArray clock)) (x : Nat → Int) (v : Value) (hx : findA n x l 0 = none) :
 (Instr.mapUpdate T (.map (some m)) (arV n k x) v).run P w = .ok () (w.putObj m (.map (entA n k (l ++ [(x, v, clock)])).toArray (clock + 1))) := by
 have hf := find_arr K e n k ht hs ha he x l w; have hgo : (getObj m).run P w = .ok (.map (entA n k l).toArray clock) w := by simp [getObj, Sem.run, hm]
 have hso : ∀ o : Obj, (setObj m o).run P w = .ok () (w.putObj m o) := fun o => by simp [setObj, Sem.run, hm, World.putObj]
 unfold Instr.mapUpdate; simp only [Sem.run_bind, run_underlying hT, Result.andThen_ok, hgo, Sem.run_pure, check_arr _ K e n k ht hs ha he x w, hf, List.toList_toArray, hx]; rw [hso]; simp [entA]
end Go.Proofs.YtojfcdjgcgnajaaGreat
