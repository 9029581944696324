/- ShSM, ShK0, ShH1, ShG0 -/
import Derived.Test.YtojfcdjgcgnajaaGreatProg
import Derived.Test.YtojfcdjgcgnajaaGreatChecked
import Derived.WalkKit
import Derived.WalkSpells
import Derived.StillTactics
import Derived.Laws.Pointers
import Derived.Deep.RegionHeld3
import Derived.RowKit3
import Derived.Handy
import Derived.BigQuiet
import Derived.Deep.QuietTactic
import Derived.Deep.DeepCutAuto
import Derived.Deep.DeepFit
import Derived.Deep.OwnRows
import Derived.Laws.Rows
import Derived.Laws.Tables
import Derived.Test.YtojfcdjgcgnajaaGreatGCM
import Derived.Deep.WholeRow
import Derived.Laws.CopyOwn
import Derived.Shelf.RegionOpen
namespace Go.Proofs.YtojfcdjgcgnajaaGreat.Sha
set_option linter.unusedVariables false
theorem choose_eq (x y z : BitVec 64) : (x &&& y ||| z &&& ~~~ x) = (x &&& y) ^^^ (~~~ x &&& z) := by
 apply BitVec.eq_of_getElem_eq
 intro i hi; simp only [BitVec.getElem_or, BitVec.getElem_and, BitVec.getElem_xor, BitVec.getElem_not]; cases x[i] <;> cases y[i] <;> cases z[i] <;> rfl
theorem majority_eq (x y z : BitVec 64) : (x &&& y ||| x &&& z ||| y &&& z) = (x &&& y) ^^^ (x &&& z) ^^^ (y &&& z) := by
 apply BitVec.eq_of_getElem_eq
 intro i hi; simp only [BitVec.getElem_or, BitVec.getElem_and, BitVec.getElem_xor]; cases x[i] <;> cases y[i] <;> cases z[i] <;> rfl
def rr (x : BitVec 64) (n : Nat) : BitVec 64 := x >>> n ||| x <<< (64 - n)
theorem rr_left (x : BitVec 64) (n : Nat) (h0 : 0 < n) (h : n < 64) : x.rotateLeft (64 - n) = rr x n := by
 rw [BitVec.rotateLeft_def, Nat.mod_eq_of_lt (by omega), show 64 - (64 - n) = n from by omega]; unfold rr; exact BitVec.or_comm _ _
def sg0 (x : BitVec 64) : BitVec 64 := rr x 1 ^^^ rr x 8 ^^^ x >>> 7
def sg1 (x : BitVec 64) : BitVec 64 := rr x 19 ^^^ rr x 61 ^^^ x >>> 6
def bg0 (x : BitVec 64) : BitVec 64 := rr x 28 ^^^ rr x 34 ^^^ rr x 39
def bg1 (x : BitVec 64) : BitVec 64 := rr x 14 ^^^ rr x 18 ^^^ rr x 41
def schTo (w : Nat → BitVec 64) : Nat → Nat → BitVec 64
 | 0 => w
 | t + 1 => fun j => if j = t + 16 then sg1 (schTo w t (t + 14)) + schTo w t (t + 9) + sg0 (schTo w t (t + 1)) + schTo w t t else schTo w t j
def wdTo (b : Nat → BitVec 8) : Nat → Nat → BitVec 64
 | 0 => fun _ => 0#64
 | k + 1 => fun j => if j = k / 8 then wdTo b k j <<< 8 ||| (b k).setWidth 64 else wdTo b k j
def stp (c x : BitVec 64) (v : Nat → BitVec 64) : Nat → BitVec 64 :=
 let t1 := v 7 + bg1 (v 4) + ((v 4 &&& v 5) ^^^ (~~~ (v 4) &&& v 6)) + c + x
 let t2 := bg0 (v 0) + ((v 0 &&& v 1) ^^^ (v 0 &&& v 2) ^^^ (v 1 &&& v 2))
 fun i => if i = 0 then t1 + t2 else if i = 4 then v 3 + t1 else v (i - 1)
def stpTo (K x : Nat → BitVec 64) (v : Nat → BitVec 64) : Nat → Nat → BitVec 64
 | 0 => v
 | t + 1 => stp (K t) (x t) (stpTo K x v t)
def beh (K : Nat → BitVec 64) (s : Nat → BitVec 64) (b : Nat → BitVec 8) : Nat → BitVec 64 :=
 fun i => s i + stpTo K (schTo (wdTo b 128) 64) s 80 i
end Go.Proofs.YtojfcdjgcgnajaaGreat.Sha
namespace Go.Proofs.YtojfcdjgcgnajaaGreat.Sha
open Go.RowKit
def I (x : BitVec 64) : Int := (x.toNat : Int)
theorem I_bd (x : BitVec 64) : 0 ≤ I x ∧ I x < 18446744073709551616 := by
 unfold I; have := x.isLt; omega
theorem I_wrap (x : BitVec 64) : IntKind.u64.wrap (I x) = I x := by
 rw [IntKind.wrap_u64]; have := I_bd x; omega
theorem ofInt_I (x : BitVec 64) : BitVec.ofInt 64 (I x) = x := by
 unfold I; rw [BitVec.ofInt_natCast, BitVec.ofNat_toNat, BitVec.setWidth_eq]
theorem bx (a b : BitVec 64) : bits .xor .u64 (I a) (I b) = I (a ^^^ b) := by
 have h : bits .xor .u64 (I a) (I b) = IntKind.u64.wrap (((BitVec.ofInt 64 (I a)) ^^^ (BitVec.ofInt 64 (I b))).toNat : Int) := rfl; rw [h, ofInt_I, ofInt_I]; exact I_wrap _
theorem ba (a b : BitVec 64) : bits .and .u64 (I a) (I b) = I (a &&& b) := by
 have h : bits .and .u64 (I a) (I b) = IntKind.u64.wrap (((BitVec.ofInt 64 (I a)) &&& (BitVec.ofInt 64 (I b))).toNat : Int) := rfl; rw [h, ofInt_I, ofInt_I]; exact I_wrap _
theorem bo (a b : BitVec 64) : bits .or .u64 (I a) (I b) = I (a ||| b) := by
 have h : bits .or .u64 (I a) (I b) = IntKind.u64.wrap (((BitVec.ofInt 64 (I a)) ||| (BitVec.ofInt 64 (I b))).toNat : Int) := rfl; rw [h, ofInt_I, ofInt_I]; exact I_wrap _
theorem bn (a b : BitVec 64) : bits .andNot .u64 (I a) (I b) = I (a &&& ~~~b) := by
 have h : bits .andNot .u64 (I a) (I b) = IntKind.u64.wrap (((BitVec.ofInt 64 (I a)) &&& ~~~(BitVec.ofInt 64 (I b))).toNat : Int) := rfl; rw [h, ofInt_I, ofInt_I]; exact I_wrap _
theorem I_shl (x : BitVec 64) (r : Nat) : IntKind.u64.wrap (I x * 2 ^ r) = I (x <<< r) := by
 rw [IntKind.wrap_u64]; unfold I; rw [BitVec.toNat_shiftLeft, Nat.shiftLeft_eq]; have : ((x.toNat : Int) * 2 ^ r) = ((x.toNat * 2 ^ r : Nat) : Int) := by simp
 rw [this]; have e : (2 : Nat) ^ 64 = 18446744073709551616 := by decide
 rw [e]; omega
theorem I_shr (x : BitVec 64) (r : Nat) : I x / 2 ^ r = I (x >>> r) := by
 unfold I; rw [BitVec.toNat_ushiftRight, Nat.shiftRight_eq_div_pow]; simp
theorem I_rot (x : BitVec 64) (r : Int) (h0 : 0 ≤ r) (h1 : r < 64) :
 bits .or .u64 (IntKind.u64.wrap (I x * 2 ^ r.toNat)) (I x / 2 ^ (64 - r).toNat) = I (x.rotateLeft r.toNat) := by
 rw [I_shl, I_shr, bo, BitVec.rotateLeft_def, show r.toNat % 64 = r.toNat from by omega, show (64 - r).toNat = 64 - r.toNat from by omega]
theorem low6 (k : Int) : bits .and .u64 (IntKind.u64.wrap k) 63 = k % 64 := by
 rw [IntKind.wrap_u64]; have h := u64_and (k % 18446744073709551616) 63 (by omega) (by omega) (by decide) (by decide); rw [h]; have e : (63 : Int).toNat = 63 := rfl; rw [e, nat_mask6]; omega
abbrev lan (S : Nat → BitVec 64) : Nat → Value := fun j => .int .u64 (I (S j))
theorem one_lan (n : Nat) (S : Nat → BitVec 64) : (vec n (lan S)).all (·.oneCell') = true := by
 rw [Array.all_eq_true]; intro i hi; simp [vec, Value.oneCell']
end Go.Proofs.YtojfcdjgcgnajaaGreat.Sha
namespace Go.Proofs.YtojfcdjgcgnajaaGreat.Sha
open Go.RowKit
set_option linter.unusedSimpArgs false
set_option linter.unusedVariables false
set_option maxHeartbeats 400000 in
theorem rotl_any (x : BitVec 64) (k : Int) (w : World) :
 Calls Tryz.prog 150 #[.int .u64 (I x), .int .i64 k] w fun e w' => e = .returned (.int .u64 (I (x.rotateLeft (k % 64).toNat))) ∧ w' = w := by
 obtain ⟨r, hr⟩ : ∃ r, r = k % 64 := ⟨_, rfl⟩
 have h0 : 0 ≤ r := by omega
 have h1 : r < 64 := by omega
 have hl := low6 k; rw [← hr] at hl ⊢; have HR := I_rot x r h0 h1; have H : Hid _ := HR; clear HR hr; go_enter Tryz.func150, Tryz.ntmps150; go_wp2; go_ret; rw [H.out]; exact ⟨rfl, rfl⟩
set_option maxHeartbeats 400000 in
theorem turn_any (x : BitVec 64) (n : Nat) (h0 : 0 < n) (h : n < 64) (w : World) :
 Calls Tryz.prog 145 #[.int .u64 (I x), .int .i64 (n : Int)] w fun e w' => e = .returned (.int .u64 (I (rr x n))) ∧ w' = w := by
 have he : x.rotateLeft ((-(n : Int)) % 64).toNat = rr x n := by
  rw [show ((-(n : Int)) % 64).toNat = 64 - n from by omega, rr_left x n h0 h]
 have HE : Hid _ := he; clear he; go_enter Tryz.func145, Tryz.ntmps145; go_wp2_with (go_at_call 150; refine (rotl_any _ _ _).mono ?_; rintro e w' ⟨rfl, rfl⟩); go_ret; rw [HE.out]; exact ⟨rfl, rfl⟩
set_option maxHeartbeats 800000 in
theorem sg0_any (x : BitVec 64) (w : World) :
 Calls Tryz.prog 144 #[.int .u64 (I x)] w fun e w' => e = .returned (.int .u64 (I (sg0 x))) ∧ w' = w := by
 have e1 := bx (rr x 1) (rr x 8); have e3 : I x / (128 : Int) = I (x >>> 7) := by rw [← I_shr]; rfl
 have e2 := bx (rr x 1 ^^^ rr x 8) (x >>> 7); go_enter Tryz.func144, Tryz.ntmps144; go_wp2_with fail; refine (turn_any x 1 (by decide) (by decide) _).mono ?_; rintro e w' ⟨rfl, hw⟩; obtain rfl := hw.symm; go_wp2_with fail; refine (turn_any x 8 (by decide) (by decide) _).mono ?_; rintro e w' ⟨rfl, hw⟩; obtain rfl := hw.symm; go_wp2; go_ret; exact ⟨rfl, rfl⟩
set_option maxHeartbeats 800000 in
theorem sg1_any (x : BitVec 64) (w : World) :
 Calls Tryz.prog 143 #[.int .u64 (I x)] w fun e w' => e = .returned (.int .u64 (I (sg1 x))) ∧ w' = w := by
 have e1 := bx (rr x 19) (rr x 61); have e3 : I x / (64 : Int) = I (x >>> 6) := by rw [← I_shr]; rfl
 have e2 := bx (rr x 19 ^^^ rr x 61) (x >>> 6); go_enter Tryz.func143, Tryz.ntmps143; go_wp2_with fail; refine (turn_any x 19 (by decide) (by decide) _).mono ?_; rintro e w' ⟨rfl, hw⟩; obtain rfl := hw.symm; go_wp2_with fail; refine (turn_any x 61 (by decide) (by decide) _).mono ?_; rintro e w' ⟨rfl, hw⟩; obtain rfl := hw.symm; go_wp2; go_ret; exact ⟨rfl, rfl⟩
set_option maxHeartbeats 800000 in
theorem bg0_any (x : BitVec 64) (w : World) :
 Calls Tryz.prog 119 #[.int .u64 (I x)] w fun e w' => e = .returned (.int .u64 (I (bg0 x))) ∧ w' = w := by
 have e1 := bx (rr x 28) (rr x 34); have e2 := bx (rr x 28 ^^^ rr x 34) (rr x 39); go_enter Tryz.func119, Tryz.ntmps119; go_wp2_with fail; refine (turn_any x 28 (by decide) (by decide) _).mono ?_; rintro e w' ⟨rfl, hw⟩; obtain rfl := hw.symm; go_wp2_with fail; refine (turn_any x 34 (by decide) (by decide) _).mono ?_; rintro e w' ⟨rfl, hw⟩; obtain rfl := hw.symm; go_wp2_with fail; refine (turn_any x 39 (by decide) (by decide) _).mono ?_; rintro e w' ⟨rfl, hw⟩; obtain rfl := hw.symm; go_wp2; go_ret; exact ⟨rfl, rfl⟩
set_option maxHeartbeats 800000 in
theorem bg1_any (x : BitVec 64) (w : World) :
 Calls Tryz.prog 117 #[.int .u64 (I x)] w fun e w' => e = .returned (.int .u64 (I (bg1 x))) ∧ w' = w := by
 have e1 := bx (rr x 14) (rr x 18); have e2 := bx (rr x 14 ^^^ rr x 18) (rr x 41); go_enter Tryz.func117, Tryz.ntmps117; go_wp2_with fail; refine (turn_any x 14 (by decide) (by decide) _).mono ?_; rintro e w' ⟨rfl, hw⟩; obtain rfl := hw.symm; go_wp2_with fail; refine (turn_any x 18 (by decide) (by decide) _).mono ?_; rintro e w' ⟨rfl, hw⟩; obtain rfl := hw.symm; go_wp2_with fail; refine (turn_any x 41 (by decide) (by decide) _).mono ?_; rintro e w' ⟨rfl, hw⟩; obtain rfl := hw.symm; go_wp2; go_ret; exact ⟨rfl, rfl⟩
set_option maxHeartbeats 400000 in
theorem choose_any (x y z : BitVec 64) (w : World) :
 Calls Tryz.prog 118 #[.int .u64 (I x), .int .u64 (I y), .int .u64 (I z)] w fun e w' => e = .returned (.int .u64 (I ((x &&& y) ^^^ (~~~ x &&& z)))) ∧ w' = w := by
 go_enter Tryz.func118, Tryz.ntmps118
 go_wp2; go_ret
 rw [ba, bn, bo, choose_eq]; exact ⟨rfl, rfl⟩
set_option maxHeartbeats 400000 in
theorem majority_any (x y z : BitVec 64) (w : World) :
 Calls Tryz.prog 120 #[.int .u64 (I x), .int .u64 (I y), .int .u64 (I z)] w fun e w' => e = .returned (.int .u64 (I ((x &&& y) ^^^ (x &&& z) ^^^ (y &&& z)))) ∧ w' = w := by
 go_enter Tryz.func120, Tryz.ntmps120
 go_wp2; go_ret
 rw [ba, ba, ba, bo, bo, majority_eq]; exact ⟨rfl, rfl⟩
end Go.Proofs.YtojfcdjgcgnajaaGreat.Sha
namespace Go.Proofs.YtojfcdjgcgnajaaGreat.Sha
open Go.RowKit Go.Shelf
set_option linter.unusedSimpArgs false
set_option linter.unusedVariables false
attribute [local go_sem] Oper.semAt_some
structure Only (b : Nat) (w w' : World) : Prop where
 os : w'.os = w.os
 tape : w'.tape = w.tape
 output : w'.output = w.output
 size : w'.heap.size = w.heap.size
 block : ∀ k, k ≠ b → w'.heap[k]? = w.heap[k]?
theorem Only.refl (b : Nat) (w : World) : Only b w w := ⟨rfl, rfl, rfl, rfl, fun _ _ => rfl⟩
theorem Only.trans {b : Nat} {u v w : World} (h : Only b u v) (k : Only b v w) : Only b u w :=
 ⟨k.os.trans h.os, k.tape.trans h.tape, k.output.trans h.output, k.size.trans h.size, fun i hi => (k.block i hi).trans (h.block i hi)⟩
theorem Only.drew {b : Nat} {u v : World} (h : Only b u v) : Only b u v.drew := ⟨h.os, h.tape, h.output, h.size, h.block⟩
theorem Only.setCell {b : Nat} {u v : World} (h : Only b u v) (o : Nat) (x : Value) : Only b u (v.setCell ⟨b, o, none⟩ x) :=
 h.trans ⟨rfl, rfl, rfl, by simp, fun k hk => Go.Deep.blk_setCell_other _ _ _ _ hk⟩
theorem Only.setRow {b : Nat} {u v : World} (h : Only b u v) (c : Array Value) : Only b u (v.setRow b c) :=
 h.trans ⟨rfl, rfl, rfl, by simp, fun k hk => setRow_other _ _ _ _ hk⟩
theorem Only.row {b b' : Nat} {u v : World} (h : Only b u v) (hb : b' ≠ b) {t : TypeId} {n : Nat} {f : Nat → Value} (hr : u.rowIs b' t n f) : v.rowIs b' t n f := hr.of_block (h.block _ hb)
theorem Only.below {b B : Nat} {a u v : World} (h : Only b u v) (k : Below B a u) (hb : B ≤ b) : Below B a v :=
 k.trans ⟨h.os, h.tape, h.output, by rw [h.size]; exact Nat.le_refl _, fun i hi => h.block i (by omega)⟩
def I8 (x : BitVec 8) : Int := (x.toNat : Int)
theorem I8_bd (x : BitVec 8) : 0 ≤ I8 x ∧ I8 x < 256 := by
 unfold I8; have := x.isLt; omega
abbrev byt (p : Nat → BitVec 8) : Nat → Value := fun j => .int .u8 (I8 (p j))
theorem one_byt (n : Nat) (p : Nat → BitVec 8) : (vec n (byt p)).all (·.oneCell') = true := by
 rw [Array.all_eq_true]; intro i hi; simp [vec, Value.oneCell']
theorem I_byte (x : BitVec 8) : I8 x = I (x.setWidth 64) := by
 unfold I8 I; rw [BitVec.toNat_setWidth]; have := x.isLt; congr 1; omega
theorem heap2 (w : World) (A B C : Obj) : (((w.alloc A).alloc B).alloc C).heap[w.heap.size + 1]? = some B := by
 have h : (((w.alloc A).alloc B).alloc C).heap[w.heap.size + 1]? = ((w.alloc A).alloc B).heap[w.heap.size + 1]? := heap_alloc_old _ _ (by simp); rw [h]; exact heap_alloc2_new w A B
theorem run_index_vec {P : Program} (t e n : Nat) (ht : ∀ w, (underlying t).run P w = .ok (.array n e) w) (hs : ∀ w, (sizeOf e).run P w = .ok 1 w) (ha : ∀ w, (isAgg e).run P w = .ok false w) (f : Nat → Value) (i : Nat) (hi : i < n) (w : World) :
 (Instr.index t (.agg (vec n f)) (.int .i64 (i : Int))).run P w = .ok (f i) w := by
 have h1 : (0 : Int) ≤ (i : Int) ∧ (i : Int) < (n : Int) := by omega
 simp only [Instr.index, asIntOf, Sem.run_bind, Sem.run_pure, Result.andThen_ok, ht, hs, part, ha, h1, and_self, if_true, Int.toNat_natCast, Nat.mul_one, get_vec n f i hi]; simp
theorem splice_vec (n off c : Nat) (f src : Nat → Value) (hfit : off + c ≤ n) :
 ((vec n f).toList.take off ++ (List.range c).map src ++ (vec n f).toList.drop (off + c)).toArray = vec n (fun j => if off ≤ j ∧ j < off + c then src (j - off) else f j) := by
 have hl : (vec n f).toList = (List.range n).map f := rfl; rw [hl]; apply vec_eq
 · simp; omega
 · intro i hi
   rw [List.getElem?_toArray]; by_cases h1 : i < off
   · rw [List.append_assoc, List.getElem?_append_left (by simp; omega), List.getElem?_take_of_lt h1, List.getElem?_map, List.getElem?_range (by omega), if_neg (by omega)]
     rfl
   · by_cases h2 : i < off + c
     · rw [List.append_assoc, List.getElem?_append_right (by simp; omega), List.getElem?_append_left (by simp; omega), List.getElem?_map, List.length_take, List.length_map, List.length_range, show min off n = off from by omega, List.getElem?_range (by omega), if_pos ⟨by omega, h2⟩]
       rfl
     · rw [List.getElem?_append_right (by simp; omega), List.getElem?_drop, List.length_append, List.length_take, List.length_map, List.length_range, List.length_map, List.length_range, show min off n = off from by omega, show off + c + (i - (off + c)) = i from by omega, List.getElem?_map, List.getElem?_range hi, if_neg (by omega)]
       rfl
theorem step_copy_vec {P : Program} {ops : Array Oper} {o : Oper} {a : Act} {w : World} {K : Act → World → Prop} {Q : Exit → Act → World → Prop} {E : Prop} (hgd : o.guard = none) (d s : Operand) (dT sT : TypeId)
 (ho : o.op = .call { callee := .builtin .copy, args := #[d, s], argTypes := #[dT, sT] }) (elem : TypeId) (hu : P.underlying dT = some (.slice elem)) (hsz : (P.info? elem).map (·.size) = some 1)
 (g off n : Nat) (t : TypeId) (f : Nat → Value) (hg : w.rowIs g t n f) (c dLen dCap sLen sCap : Nat) (ad : Addr) (hd : a.eval d = .slice (some ⟨g, off, none⟩) dLen dCap) (hs : a.eval s = .slice (some ad) sLen sCap)
 (hc : c = Nat.min sLen dLen) (src : Nat → Value) (hsrc : ∀ j, j < c → w.cell? (ad.add j) = some (src j)) (h1 : ∀ j, j < c → (src j).oneCell' = true) (hfit : off + c ≤ n)
 (h : ∀ w', w'.rowIs g t n (fun j => if off ≤ j ∧ j < off + c then src (j - off) else f j) → Only g w w' → K (a.put o.dst (.int .i64 (c : Int))) w') :
 if Region.wanted o (yielded ops a.tmps) = true then Oper.wp P o a w K Q else E := by
 have hw : Region.wanted o (yielded ops a.tmps) = true := by simp [Region.wanted, hgd]
 rw [if_pos hw]; have hrun := run_copy_row (P := P) w dT sT o.type elem g off dLen dCap ad sLen sCap (vec n f) t ((List.range c).map src) hu hsz (row_heap hg) (by simpa using hc) (fun j v hv => by
  rw [List.getElem?_map] at hv; by_cases hj : j < c
  · rw [List.getElem?_range hj] at hv; simp at hv; subst hv; exact hsrc j hj
  · rw [List.getElem?_eq_none (by simpa using hj)] at hv; cases hv) (by simpa using hfit) (fun v hv => by
  obtain ⟨j, hj, rfl⟩ := List.mem_map.1 hv; exact h1 j (by simpa using hj))
 unfold Oper.wp; simp only [List.length_map, List.length_range] at hrun; simp [execOp, ho, resolve, invoke, builtin, hd, hs, hrun, Result.andThen]; refine h _ (heap_row ?_) ((Only.refl _ _).setRow _); rw [setRow_heap w g _ _ t _ (row_heap hg)]; congr 2
 simpa using splice_vec n off c f src hfit
theorem gb_refl (w : World) (row : Option Nat) : w.grownBy w row := ⟨rfl, rfl, rfl, Nat.le_refl _, fun _ _ _ => rfl⟩
theorem gb_trans {u v w : World} {row : Option Nat} (h : u.grownBy v row) (k : v.grownBy w row) : u.grownBy w row :=
 ⟨k.os.trans h.os, k.tape.trans h.tape, k.output.trans h.output, Nat.le_trans h.size k.size, fun i hi hr => (k.block i (Nat.lt_of_lt_of_le hi h.size) hr).trans (h.block i hi hr)⟩
theorem Only.gb {b : Nat} {w w' : World} (h : Only b w w') : w.grownBy w' (some b) :=
 ⟨h.os, h.tape, h.output, Nat.le_of_eq h.size.symm, fun i _ hr => h.block i (fun e => hr (by rw [e]))⟩
def slen : Value → Nat
 | .slice _ n _ => n
 | _ => 0
theorem run_loadVar_mid {P : Program} (w : World) (g off N : Nat) (ty e : TypeId) (f : Nat → Value) (hc : ∀ j, j < N → w.cell? ⟨g, off + j, none⟩ = some (f j)) (hu : P.underlying ty = some (.array N e)) (hi : (P.info? ty).map (·.size) = some N) :
 (loadVar ty ⟨g, off, none⟩).run P w = .ok (.agg (vec N f)) w := by
 have hl : (loadCells ⟨g, off, none⟩ (vec N f).toList.length).run P w = .ok (vec N f).toList.toArray w :=
  run_loadCells_list (P := P) w ⟨g, off, none⟩ (vec N f).toList (fun j v hv => by
   have hadd : (⟨g, off, none⟩ : Addr).add j = ⟨g, off + j, none⟩ := by unfold Addr.add; split <;> simp_all
   rw [hadd]; have hv' : (vec N f)[j]? = some v := by simpa using hv
   by_cases hj : j < N
   · rw [get_vec N f j hj] at hv'; cases hv'; exact hc j hj
   · rw [Array.getElem?_eq_none (by simp; omega)] at hv'; cases hv')
 cases hq : P.info? ty with
 | none => simp [hq] at hi
 | some i =>
   have hs : i.size = N := by simpa [hq] using hi
   have hagg : (isAgg ty).run P w = .ok true w := by
    unfold isAgg; rw [Sem.run_bind, run_underlying hu w]; simp
   simp only [Array.length_toList, Array.toArray_toList, size_vec] at hl; simp [loadVar, Sem.run_bind, hagg, sizeOf, typeInfo, hq, hs, hl]
theorem rest_from (bb o L cp c : Nat) (hc : c ≤ L) (hL : L ≤ cp) : ∃ a2 : Option Addr, (c < L → a2 = some ⟨bb, o + c, none⟩) ∧ (∀ w, (Instr.sliceAt 28 (.slice (some ⟨bb, o, none⟩) L cp) (some (.int .i64 (c : Int))) none none).run Tryz.prog w = .ok (.slice a2 (L - c) (cp - c)) w) ∧ (∀ w, (Instr.slice 28 (.slice (some ⟨bb, o, none⟩) L cp) (some (.int .i64 (c : Int))) none none).run Tryz.prog w = .ok (.slice a2 (L - c) (cp - c)) w) := by
 have he : Tryz.prog.elem 28 = 5 := by kernel_rfl
 have h2 : ∀ w, (Instr.slice 28 (.slice (some ⟨bb, o, none⟩) L cp) (some (.int .i64 (c : Int))) none none).run Tryz.prog w = .ok (.slice (if cp = c then some ⟨bb, o, none⟩ else some ⟨bb, o + c, none⟩) (L - c) (cp - c)) w := fun w => by
  rw [run_slice_l w 28 _ L cp (by kernel_rfl) .i64 (c : Int) (by omega) (by omega), he, Tryz.sizeOf5]; simp only [Result.andThen, sliced, Int.toNat_natCast]; by_cases h0 : c = 0
  · subst h0; simp [Addr.add]
  · simp [Addr.add, h0]
 refine ⟨_, fun h => if_neg (by omega), fun w => ?_, h2⟩; rw [run_sliceAt_slice w 28 _ _ _ _ (by kernel_rfl)]; exact h2 w
theorem run_storeVar_vec {P : Program} (w : World) (g off N M : Nat) (t ty : TypeId) (f src : Nat → Value) (hg : w.rowIs g t M f) (hfit : off + N ≤ M) (hi : (P.info? ty).map (·.size) = some N) (h1 : ∀ j, j < N → (src j).oneCell' = true) :
 (storeVar ty ⟨g, off, none⟩ (.agg (vec N src))).run P w = .ok () (w.setRow g (vec M (fun j => if off ≤ j ∧ j < off + N then src (j - off) else f j))) := by
 have hst := run_storeCells_at P g off t ((List.range N).map src) 0 (vec M f) w (row_heap hg) (by simpa using hfit) (fun v hv => by
  obtain ⟨j, hj, rfl⟩ := List.mem_map.1 hv; exact h1 j (by simpa using hj))
 simp only [Nat.add_zero, List.length_map, List.length_range, splice_vec M off N f src hfit] at hst; cases hq : P.info? ty with
 | none => simp [hq] at hi
 | some i =>
   have hs : i.size = N := by simpa [hq] using hi
   have hv : (vec N src).toList = (List.range N).map src := rfl; simp [storeVar, sizeOf, typeInfo, hq, Value.cells, hs, hv, hst]
theorem run_load_exec {P : Program} {a : Act} {o : Oper} {w : World} {v : Value} (ty : TypeId) (x : Operand) (ho : o.op = .load ty x) (g : Addr) (hx : a.eval x = .pointer (some g)) (h : (loadVar ty g).run P w = .ok v w) : (execOp a.eval o).run P w = .ok (.value v) w := by
 unfold execOp; simp only [ho, hx, Instr.loadAt, Instr.sureAddr, Sem.run_bind, Sem.run_pure, Result.andThen_ok, h]
theorem step_load_mid {P : Program} {ops : Array Oper} {o : Oper} {a : Act} {w : World} {K : Act → World → Prop} {Q : Exit → Act → World → Prop} {E : Prop} (hw : Region.wanted o (yielded ops a.tmps) = true) (ty : TypeId) (x : Operand) (ho : o.op = .load ty x)
 (g off N : Nat) (hx : a.eval x = .pointer (some ⟨g, off, none⟩)) (f : Nat → Value) (hc : ∀ j, j < N → w.cell? ⟨g, off + j, none⟩ = some (f j)) (e : TypeId) (hu : P.underlying ty = some (.array N e)) (hi : (P.info? ty).map (·.size) = some N)
 (h : K (a.put o.dst (.agg (vec N f))) w) : if Region.wanted o (yielded ops a.tmps) = true then Oper.wp P o a w K Q else E := by
 rw [if_pos hw]; unfold Oper.wp; rw [run_load_exec ty x ho _ hx (run_loadVar_mid w g off N ty e f hc hu hi)]; exact h
theorem step_store_vec {P : Program} {ops : Array Oper} {o : Oper} {a : Act} {w : World} {K : Act → World → Prop} {Q : Exit → Act → World → Prop} {E : Prop} (hw : Region.wanted o (yielded ops a.tmps) = true) (ty : TypeId) (x y : Operand) (ho : o.op = .store ty x y)
 (g off N M : Nat) (src f : Nat → Value) (t : TypeId) (hx : a.eval x = .pointer (some ⟨g, off, none⟩)) (hy : a.eval y = .agg (vec N src)) (hg : w.rowIs g t M f) (hfit : off + N ≤ M) (hi : (P.info? ty).map (·.size) = some N) (h1 : ∀ j, j < N → (src j).oneCell' = true)
 (h : K (a.put o.dst undef) (w.setRow g (vec M (fun j => if off ≤ j ∧ j < off + N then src (j - off) else f j)))) : if Region.wanted o (yielded ops a.tmps) = true then Oper.wp P o a w K Q else E := by
 rw [if_pos hw]; unfold Oper.wp execOp; simp only [ho, hx, hy, Instr.storeAt, Instr.sureAddr, Sem.run_bind, Sem.run_pure, Result.andThen_ok, run_storeVar_vec w g off N M t ty f src hg hfit hi h1]; exact h
theorem heap_n (w : World) (o : Obj) (n : Nat) (h : w.heap.size = n) : (w.alloc o).heap[n]? = some o := by subst h; exact heap_alloc_new w o
theorem heap1of2 (w : World) (A B : Obj) : ((w.alloc A).alloc B).heap[w.heap.size]? = some A := (heap_alloc_old _ _ (by simp)).trans (heap_alloc_new _ _)
theorem heap2of2 (w : World) (A B : Obj) : ((w.alloc A).alloc B).heap[w.heap.size + 1]? = some B := heap_n _ _ _ (by simp)
theorem heap1of3 (w : World) (A B C : Obj) : (((w.alloc A).alloc B).alloc C).heap[w.heap.size]? = some A := (heap_alloc_old _ _ (by simp; omega)).trans (heap1of2 _ _ _)
theorem heap2of3 (w : World) (A B C : Obj) : (((w.alloc A).alloc B).alloc C).heap[w.heap.size + 1]? = some B := heap2 _ _ _ _
theorem heap3of3 (w : World) (A B C : Obj) : (((w.alloc A).alloc B).alloc C).heap[w.heap.size + 2]? = some C := heap_n _ _ _ (by simp)
end Go.Proofs.YtojfcdjgcgnajaaGreat.Sha
