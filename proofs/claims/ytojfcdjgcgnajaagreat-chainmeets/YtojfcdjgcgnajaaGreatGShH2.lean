/- EU, EY0, ShH2 -/
import Derived.Test.YtojfcdjgcgnajaaGreatGEO
import Derived.Test.YtojfcdjgcgnajaaGreatGFH
import Derived.Test.YtojfcdjgcgnajaaGreatGRB
import Derived.Test.YtojfcdjgcgnajaaGreatBL
import Derived.Test.YtojfcdjgcgnajaaGreatGShG0
import Derived.Test.YtojfcdjgcgnajaaGreatGCM
namespace Go.Proofs.YtojfcdjgcgnajaaGreat
open Go.RowKit
set_option linter.unusedSimpArgs false
set_option linter.unusedVariables false
def kb (n : Int) : Nat → Value := fun j => .int .u8 (n / 256 ^ j % 256)
def keyV (n : Int) : Value := .agg (vec 32 (kb n))
theorem u8_all {f g : Int → Int} (h : ∀ b : Fin 256, f (b.val : Int) = g (b.val : Int)) (b : Int) (h0 : 0 ≤ b) (h1 : b < 256) : f b = g b := by
 have := h ⟨b.toNat, by omega⟩
 rwa [show (((⟨b.toNat, by omega⟩ : Fin 256).val : Nat) : Int) = b from by show ((b.toNat : Nat) : Int) = b; omega] at this
theorem u8_and128 (b : Int) (h0 : 0 ≤ b) (h1 : b < 256) : bits .and .u8 b 128 = 128 * (b / 128) := u8_all (f := fun b => bits .and .u8 b 128) (g := fun b => 128 * (b / 128)) (by decide +kernel) b h0 h1
theorem u8_andNot128 (b : Int) (h0 : 0 ≤ b) (h1 : b < 256) : bits .andNot .u8 b 128 = b % 128 := u8_all (f := fun b => bits .andNot .u8 b 128) (g := fun b => b % 128) (by decide +kernel) b h0 h1
theorem u8_or128 (b : Int) (h0 : 0 ≤ b) (h1 : b < 256) : bits .or .u8 b 128 = b % 128 + 128 := u8_all (f := fun b => bits .or .u8 b 128) (g := fun b => b % 128 + 128) (by decide +kernel) b h0 h1
theorem u8_and1 (b : Int) (h0 : 0 ≤ b) (h1 : b < 256) : bits .and .u8 b 1 = b % 2 := u8_all (f := fun b => bits .and .u8 b 1) (g := fun b => b % 2) (by decide +kernel) b h0 h1
theorem u8_andNot7 (b : Int) (h0 : 0 ≤ b) (h1 : b < 256) : bits .andNot .u8 b 7 = b - b % 8 := u8_all (f := fun b => bits .andNot .u8 b 7) (g := fun b => b - b % 8) (by decide +kernel) b h0 h1
theorem u8_clamp (b : Int) (h0 : 0 ≤ b) (h1 : b < 256) : bits .or .u8 (bits .and .u8 b 127) 64 = b % 64 + 64 := u8_all (f := fun b => bits .or .u8 (bits .and .u8 b 127) 64) (g := fun b => b % 64 + 64) (by decide +kernel) b h0 h1
def H255 : Int := 57896044618658097711785492504343953926634992332820282019728792003956564819968
theorem H255_pow (j : Nat) (hj : j < 31) : (57896044618658097711785492504343953926634992332820282019728792003956564819968 : Nat) = 256 ^ j * (256 * 2 ^ (247 - 8 * j)) := by
 rw [show (256 : Nat) = 2 ^ 8 from rfl, ← Nat.pow_mul, ← Nat.pow_add, ← Nat.pow_add, show 8 * j + (8 + (247 - 8 * j)) = 255 from by omega]
theorem kb_low {m : Int} (h0 : 0 ≤ m) (j : Nat) (hj : j < 31) : kb (m + H255) j = kb m j := by
 obtain ⟨k, rfl⟩ := Int.eq_ofNat_of_zero_le h0; unfold kb; congr 1; have e : (k + 57896044618658097711785492504343953926634992332820282019728792003956564819968) / 256 ^ j % 256 = k / 256 ^ j % 256 := by
  rw [H255_pow j hj, Nat.add_mul_div_left _ _ (Nat.pow_pos (by decide)), Nat.add_mul_mod_self_left]
 unfold H255; have e2 := congrArg (fun x : Nat => (x : Int)) e; simp only [Int.natCast_emod, Int.natCast_ediv, Int.natCast_add, Int.natCast_pow] at e2; exact e2
theorem kb_top {m : Int} (h0 : 0 ≤ m) (h1 : m < H255) : kb m 31 = .int .u8 (m / 256 ^ 31) ∧ kb (m + H255) 31 = .int .u8 (m / 256 ^ 31 + 128) ∧ 0 ≤ m / 256 ^ 31 ∧ m / 256 ^ 31 < 128 := by
 unfold kb; unfold H255 at *; rw [show ((256 : Int) ^ 31) = 452312848583266388373324160190187140051835877600158453279131187530910662656 from by decide]; refine ⟨?_, ?_, by omega, by omega⟩ <;> congr 1 <;> omega
theorem kb_set {w : World} {b : Nat} {t : TypeId} {m : Int} (h0 : 0 ≤ m) (h1 : m < H255) (h : w.rowIs b t 32 (kb m)) : (w.setCell ⟨b, 31, none⟩ (.int .u8 (m / 256 ^ 31 + 128))).rowIs b t 32 (kb (m + H255)) :=
 World.rowIs.congr (World.rowIs.set h 31 _) (fun i hi => by
  by_cases e : i = 31
  · subst e; rw [(kb_top h0 h1).2.1]; simp
  · rw [if_neg e, kb_low h0 i (by omega)])
theorem dL_kb (n : Int) (j : Nat) (hj : j < 32) : Value.int .u8 ((dL n).getD j 0) = kb n j := by rw [dL_get n j hj]; rfl
theorem isD_kb {w : World} {b : Nat} {t : TypeId} {n : Int} (h : w.rowIs b t 32 (kb n)) : IsD w (.slice (some ⟨b, 0, none⟩) 32 32) (dL n) := by
 refine ⟨some ⟨b, 0, none⟩, 32, by rw [dL_len], by rw [dL_len]; omega, fun k hk => ⟨b, 0, rfl, h.lt, ?_⟩⟩; rw [dL_len] at hk; rw [Nat.zero_add, dL_kb n k hk]; exact h.cell hk
def encN (x y : K) : Int := (y.val : Int) + (if (x.val : Int) % 2 = 1 then H255 else 0)
def sqx (y : K) : K := (y * y - 1) * invK (toF DD * (y * y) + 1)
def rootX (y : Int) : Int := sqrtR ((sqx (toF y)).val : Int)
def decY (y : Int) (odd : Bool) : Option (K × K) :=
 if PP ≤ y then none else if sqrtB ((sqx (toF y)).val : Int) = false then none else if odd = true then (if rootX y = 0 then none else some (0 - toF (rootX y), toF y)) else some (toF (rootX y), toF y)
def decK (n : Int) : Option (K × K) := decY (n % H255) (decide (n / H255 = 1))
def decE : Option (K × K) → Int
 | none => 20
 | some _ => 0
def decV : Option (K × K) → K × K
 | none => (0, 0)
 | some p => p
theorem sqrtR_bd (x : Int) : 0 ≤ sqrtR x ∧ sqrtR x < PP := by
 have hp : PP = 57896044618658097711785492504343953926634992332820282019728792003956564819949 := rfl; have ev : ∀ r : Int, 0 ≤ r → r < PP → 0 ≤ evenR r ∧ evenR r < PP := fun r h0 h1 => by
  unfold evenR; split
  · omega
  · omega
 have m1 : 0 ≤ rt1 x ∧ rt1 x < PP := mod_PP _; have m2 : 0 ≤ rt2 x ∧ rt2 x < PP := mod_PP _; unfold sqrtR; split
 · exact ev _ m1.1 m1.2
 · split
   · exact ev _ m2.1 m2.2
   · rw [hp]; decide
end Go.Proofs.YtojfcdjgcgnajaaGreat
namespace Go.Proofs.YtojfcdjgcgnajaaGreat
open Go.RowKit
set_option linter.unusedSimpArgs false
set_option linter.unusedVariables false
def bI (f : Nat → Int) : Nat → Value := fun j => .int .u8 (f j)
def lsI (f : Nat → Int) (n : Nat) : List Int := (List.range n).map f
theorem lsI_len (f : Nat → Int) (n : Nat) : (lsI f n).length = n := by simp [lsI]
theorem lsI_get (f : Nat → Int) (n k : Nat) (hk : k < n) : (lsI f n).getD k 0 = f k := by simp [lsI, List.getD, hk]
theorem lsI_byt {f : Nat → Int} {n : Nat} (h : ∀ j, j < n → 0 ≤ f j ∧ f j < 256) : Byt (lsI f n) := fun k => by
 by_cases hk : k < n
 · rw [lsI_get f n k hk]; exact h k hk
 · rw [List.getD_eq_getElem?_getD, List.getElem?_eq_none (by rw [lsI_len]; omega)]; decide
theorem lsI_congr {f g : Nat → Int} {n : Nat} (h : ∀ j, j < n → f j = g j) : lsI f n = lsI g n := List.map_congr_left fun j hj => h j (by simpa using hj)
theorem isD_bI {w : World} {b N : Nat} {t : TypeId} {f : Nat → Int} (h : w.rowIs b t N (bI f)) (off n cap : Nat) (hf : off + n ≤ N) (hc : n ≤ cap) : IsD w (.slice (some ⟨b, off, none⟩) n cap) (lsI (fun j => f (off + j)) n) := by
 refine ⟨some ⟨b, off, none⟩, cap, by rw [lsI_len], by rw [lsI_len]; exact hc, fun k hk => ⟨b, off, rfl, h.lt, ?_⟩⟩; rw [lsI_len] at hk; rw [lsI_get _ n k hk]; exact h.cell (by omega)
theorem one_bI (n : Nat) (f : Nat → Int) : (vec n (bI f)).all (·.oneCell') = true := by
 rw [Array.all_eq_true]; intro i hi; simp [vec, bI, Value.oneCell']
theorem arr41 (b : Nat) (w : World) : (Instr.sliceAt 30 (.pointer (some ⟨b, 0, none⟩)) none none none).run Tryz.prog w = .ok (.slice (some ⟨b, 0, none⟩) 32 32) w := by
 have ha : Tryz.prog.arrayLen 30 = 32 := by kernel_rfl
 have he : Tryz.prog.elem 30 = 5 := by kernel_rfl
 rw [run_sliceAt_array_all w 30 ⟨b, 0, none⟩ (by kernel_rfl), he, Tryz.sizeOf5, ha]; simp [Result.andThen, slicedAt, Addr.add]
theorem arr40 (b : Nat) (w : World) : (Instr.sliceAt 29 (.pointer (some ⟨b, 0, none⟩)) none none none).run Tryz.prog w = .ok (.slice (some ⟨b, 0, none⟩) 32 32) w := by
 have ha : Tryz.prog.arrayLen 29 = 32 := by kernel_rfl
 have he : Tryz.prog.elem 29 = 5 := by kernel_rfl
 rw [run_sliceAt_array_all w 29 ⟨b, 0, none⟩ (by kernel_rfl), he, Tryz.sizeOf5, ha]; simp [Result.andThen, slicedAt, Addr.add]
theorem arr53 (b : Nat) (w : World) : (Instr.sliceAt 39 (.pointer (some ⟨b, 0, none⟩)) none none none).run Tryz.prog w = .ok (.slice (some ⟨b, 0, none⟩) 64 64) w := by
 have ha : Tryz.prog.arrayLen 39 = 64 := by kernel_rfl
 have he : Tryz.prog.elem 39 = 5 := by kernel_rfl
 rw [run_sliceAt_array_all w 39 ⟨b, 0, none⟩ (by kernel_rfl), he, Tryz.sizeOf5, ha]; simp [Result.andThen, slicedAt, Addr.add]
theorem upto53 (b r : Nat) (hr : r < 64) (w : World) : (Instr.sliceAt 39 (.pointer (some ⟨b, 0, none⟩)) none (some (.int .i64 (r : Int))) none).run Tryz.prog w = .ok (.slice (some ⟨b, 0, none⟩) r 64) w := by
 have ha : Tryz.prog.arrayLen 39 = 64 := by kernel_rfl
 have he : Tryz.prog.elem 39 = 5 := by kernel_rfl
 rw [run_sliceAt_array_h w 39 ⟨b, 0, none⟩ (by kernel_rfl) .i64 (r : Int) (by omega) (by rw [ha]; omega), he, Tryz.sizeOf5, ha]; simp only [Result.andThen, slicedAt, Int.toNat_natCast]; simp [Addr.add]
theorem from53 (b r : Nat) (hr : r < 64) (w : World) : (Instr.sliceAt 39 (.pointer (some ⟨b, 0, none⟩)) (some (.int .i64 (r : Int))) none none).run Tryz.prog w = .ok (.slice (some ⟨b, r, none⟩) (64 - r) (64 - r)) w := by
 have ha : Tryz.prog.arrayLen 39 = 64 := by kernel_rfl
 have he : Tryz.prog.elem 39 = 5 := by kernel_rfl
 rw [run_sliceAt_array_l w 39 ⟨b, 0, none⟩ (by kernel_rfl) .i64 (r : Int) (by omega) (by rw [ha]; omega), he, Tryz.sizeOf5, ha]; simp only [Result.andThen, slicedAt, Int.toNat_natCast, if_neg (show ¬ 64 = r by omega)]; simp [Addr.add]; omega
theorem upto54 (b r : Nat) (hr : r < 64) (w : World) : (Instr.sliceAt 40 (.pointer (some ⟨b, 0, none⟩)) none (some (.int .i64 (r : Int))) none).run Tryz.prog w = .ok (.slice (some ⟨b, 0, none⟩) r 64) w := by
 have ha : Tryz.prog.arrayLen 40 = 64 := by kernel_rfl
 have he : Tryz.prog.elem 40 = 5 := by kernel_rfl
 rw [run_sliceAt_array_h w 40 ⟨b, 0, none⟩ (by kernel_rfl) .i64 (r : Int) (by omega) (by rw [ha]; omega), he, Tryz.sizeOf5, ha]; simp only [Result.andThen, slicedAt, Int.toNat_natCast]; simp [Addr.add]
theorem from54 (b r : Nat) (hr : r < 64) (w : World) : (Instr.sliceAt 40 (.pointer (some ⟨b, 0, none⟩)) (some (.int .i64 (r : Int))) none none).run Tryz.prog w = .ok (.slice (some ⟨b, r, none⟩) (64 - r) (64 - r)) w := by
 have ha : Tryz.prog.arrayLen 40 = 64 := by kernel_rfl
 have he : Tryz.prog.elem 40 = 5 := by kernel_rfl
 rw [run_sliceAt_array_l w 40 ⟨b, 0, none⟩ (by kernel_rfl) .i64 (r : Int) (by omega) (by rw [ha]; omega), he, Tryz.sizeOf5, ha]; simp only [Result.andThen, slicedAt, Int.toNat_natCast, if_neg (show ¬ 64 = r by omega)]; simp [Addr.add]; omega
def bv (x : Int) : BitVec 8 := BitVec.ofInt 8 x
theorem I8_bv (x : Int) (h0 : 0 ≤ x) (h1 : x < 256) : Sha.I8 (bv x) = x := by
 unfold Sha.I8 bv; rw [BitVec.toNat_ofInt]; omega
end Go.Proofs.YtojfcdjgcgnajaaGreat
namespace Go.Proofs.YtojfcdjgcgnajaaGreat.Sha
open Go.RowKit Go.Shelf
set_option linter.unusedSimpArgs false
set_option linter.unusedVariables false
theorem info41v (f : Nat → Value) : (Tryz.prog.info? 172).map (·.size) = some (vec 80 f).size := by rw [size_vec]; kernel_rfl
theorem info50v (f : Nat → Value) : (Tryz.prog.info? 132).map (·.size) = some (vec 128 f).size := by rw [size_vec]; kernel_rfl
theorem info38v (f : Nat → Value) : (Tryz.prog.info? 111).map (·.size) = some (vec 8 f).size := by rw [size_vec]; kernel_rfl
theorem info23v (f : Nat → Value) : (Tryz.prog.info? 39).map (·.size) = some (vec 64 f).size := by rw [size_vec]; kernel_rfl
theorem zero41 : (Tryz.prog.info? 172).map (fun i => (i.zero, i.size)) = some (some (.agg (vec 80 (lan fun _ => 0#64))), 80) := by kernel_rfl
theorem zero50 : (Tryz.prog.info? 132).map (fun i => (i.zero, i.size)) = some (some (.agg (vec 128 (byt fun _ => 0#8))), 128) := by kernel_rfl
theorem zero23 : (Tryz.prog.info? 39).map (fun i => (i.zero, i.size)) = some (some (.agg (vec 64 (byt fun _ => 0#8))), 64) := by kernel_rfl
theorem zero38 : (Tryz.prog.info? 111).map (fun i => (i.zero, i.size)) = some (some (.agg (vec 8 (lan fun _ => 0#64))), 8) := by kernel_rfl
theorem wd_val (a : BitVec 64) (x : BitVec 8) : bits .or .u64 (IntKind.u64.wrap (I a * 256)) (I8 x) = I (a <<< 8 ||| x.setWidth 64) := by
 have h : I a * 256 = I a * 2 ^ 8 := by congr 1
 rw [h, I_byte, I_shl, bo]
theorem wd_row {b : Nat → BitVec 8} {k g t : Nat} {w : World} (h : w.rowIs g t 80 (lan (wdTo b k))) {v : Value} (hv : v = .int .u64 (I (wdTo b k (k / 8) <<< 8 ||| (b k).setWidth 64))) :
 (w.setCell ⟨g, k / 8, none⟩ v).rowIs g t 80 (lan (wdTo b (k + 1))) := by
 refine (h.set _ _).congr ?_; intro i hi; subst hv; simp only [lan, wdTo]; by_cases e : i = k / 8
 · subst e; rw [if_pos rfl, if_pos rfl]
 · rw [if_neg e, if_neg e]
theorem sch_row {x : Nat → BitVec 64} {k g t : Nat} {w : World} (h : w.rowIs g t 80 (lan (schTo x k))) {v : Value} (hv : v = .int .u64 (I (sg1 (schTo x k (k + 14)) + schTo x k (k + 9) + sg0 (schTo x k (k + 1)) + schTo x k k))) :
 (w.setCell ⟨g, k + 16, none⟩ v).rowIs g t 80 (lan (schTo x (k + 1))) := by
 refine (h.set _ _).congr ?_; intro i hi; subst hv; simp only [lan, schTo]; by_cases e : i = k + 16
 · subst e; rw [if_pos rfl, if_pos rfl]
 · rw [if_neg e, if_neg e]
theorem I_add (a b : BitVec 64) : IntKind.u64.wrap (I a + I b) = I (a + b) := by
 rw [IntKind.wrap_u64]; unfold I; rw [BitVec.toNat_add]; omega
def ScIn (R : Nat → BitVec 64) (w wr : World) : Prop :=
 wr.rowIs (w.heap.size + 1) 172 80 (lan fun _ => 0#64) ∧ wr.rowIs (w.heap.size + 2) 172 80 (lan R) ∧ Below w.heap.size w wr
theorem sc_start (b : Nat → BitVec 8) (w : World) : ScIn (wdTo b 0) w (((w.alloc (.cells (vec 128 (byt b)) 132)).alloc (.cells (vec 80 (lan fun _ => 0#64)) 172)).alloc (.cells (vec 80 (lan fun _ => 0#64)) 172)) := by
 exact ⟨heap_row (heap2of3 _ _ _ _), heap_row (heap3of3 _ _ _ _), by go_grown⟩
theorem ScIn.step {R R' : Nat → BitVec 64} {w w1 w2 : World} (h : ScIn R w w1) (hr : w2.rowIs (w.heap.size + 2) 172 80 (lan R')) (o : Only (w.heap.size + 2) w1 w2) : ScIn R' w w2 :=
 ⟨o.row (by omega) h.1, hr, o.below h.2.2 (by omega)⟩
theorem ScIn.more {R : Nat → BitVec 64} {w w1 w2 : World} (h : ScIn R w w1) (o : Below w1.heap.size w1 w2) : ScIn R w w2 :=
 ⟨h.1.of_block (o.block _ h.1.lt), h.2.1.of_block (o.block _ h.2.1.lt), h.2.2.trans (o.mono h.2.2.size)⟩
set_option maxRecDepth 20000 in
set_option maxHeartbeats 2000000 in
theorem schedule_any (b : Nat → BitVec 8) (w : World) :
 Calls Tryz.prog 115 #[.agg (vec 128 (byt b))] w fun e w' => e = .returned (.agg (vec 80 (lan (schTo (wdTo b 128) 64)))) ∧ Below w.heap.size w w' := by
 have hix := run_index_vec (P := Tryz.prog) 132 5 128 (fun w => run_underlying Tryz.underlying132 w) Tryz.sizeOf5 Tryz.isAgg5 (byt b); have HS : Hid _ := sc_start b w; have hz := (zero_of_info zero41).1; go_enter Tryz.func115, Tryz.ntmps115; go_wp2_with (first | (refine wpList_load_row rfl 132 _ rfl w.heap.size rfl 132 _ (0, 0) _ (heap1of3 _ _ _ _) Tryz.underlying132 rfl (info50v _) ?_)); go_loopw [8] (fun i wr => ∃ k : Nat, k ≤ 128 ∧ i = .int .i64 (k : Int) ∧ ScIn (wdTo b k) w wr) (fun i _ => 128 - (intOf i).toNat)
 case atStart => exact ⟨0, by omega, rfl, HS.out⟩
 case round =>
  obtain ⟨k, hk, rfl, hin⟩ := hrel; clear HS hz; by_cases hlt : k < 128
  · have hik := hix k hlt
    have hbd := I8_bd (b k); have c0 : wr.cell? ⟨w.heap.size + 2, k / 8, none⟩ = some (.int .u64 (I (wdTo b k (k / 8)))) := hin.2.1.cell (by omega); have f0 : wr.frozen? ⟨w.heap.size + 2, k / 8, none⟩ = false := hin.2.1.frozen _; have H1 : Hid (ScIn (wdTo b k) w wr) := hin; clear hix hin; obtain ⟨hb0, hb1⟩ := hbd; go_wp2; go_roundw
    case rel => exact ⟨k + 1, by omega, by go_num, (H1.out.step (wd_row H1.out.2.1 (by rw [wd_val])) ((Only.refl _ _).setCell _ _))⟩
    case measure => simp [intOf]; omega
  · have hk2 : k = 128 := by omega
    clear hix; have H1 : Hid (ScIn (wdTo b 128) w wr) := hk2 ▸ hin; have hd : ¬ (k : Int) < 128 := by omega
    clear hin hk2; go_wp2; obtain ⟨x, hx⟩ : ∃ x, x = wdTo b 128 := ⟨_, rfl⟩
    rw [← hx] at H1; have HX : Hid (x = wdTo b 128) := hx; clear hx; go_loopw [6] (fun i wr => ∃ k : Nat, k ≤ 64 ∧ i = .int .i64 ((k : Int) + 16) ∧ ScIn (schTo x k) w wr) (fun i _ => 80 - (intOf i).toNat)
    case atStart => exact ⟨0, by omega, rfl, H1.out⟩
    case round =>
     clear hlt hk hd; obtain ⟨k, hk, rfl, hin⟩ := hrel; clear H1; by_cases hlt : k < 64
     · have c0 : wr.cell? ⟨w.heap.size + 2, k + 14, none⟩ = some (.int .u64 (I (schTo x k (k + 14)))) := hin.2.1.cell (by omega)
       have c1 : wr.cell? ⟨w.heap.size + 2, k + 9, none⟩ = some (.int .u64 (I (schTo x k (k + 9)))) := hin.2.1.cell (by omega); have c2 : wr.cell? ⟨w.heap.size + 2, k + 1, none⟩ = some (.int .u64 (I (schTo x k (k + 1)))) := hin.2.1.cell (by omega); have c3 : wr.cell? ⟨w.heap.size + 2, k, none⟩ = some (.int .u64 (I (schTo x k k))) := hin.2.1.cell (by omega); obtain ⟨u, cu⟩ : ∃ u, wr.cell? ⟨w.heap.size + 2, k + 16, none⟩ = some u := ⟨_, hin.2.1.cell (by omega)⟩
       have f0 := hin.2.1.frozen; have H1 : Hid (ScIn (schTo x k) w wr) := hin; clear hin; go_wp2; refine wp_region_held_drew (S := fun w' => w'.cell? ⟨w.heap.size + 2, k + 14, none⟩ = some (.int .u64 (I (schTo x k (k + 14)))) ∧ w'.cell? ⟨w.heap.size + 2, k + 9, none⟩ = some (.int .u64 (I (schTo x k (k + 9)))) ∧ w'.cell? ⟨w.heap.size + 2, k + 1, none⟩ = some (.int .u64 (I (schTo x k (k + 1)))) ∧ w'.cell? ⟨w.heap.size + 2, k, none⟩ = some (.int .u64 (I (schTo x k k)))) (by kernel_rfl) ⟨c0, c1, c2, c3⟩ (fun hHeld => ?_); refine tk 0 (.int .i64 ((k : Int) + 16)) (fun w hSw => ?_) hHeld ?_
       · obtain ⟨h1, h2, h3, h4⟩ := hSw; go_simp
       simp only [sm]; refine tk 1 (.int .i64 ((k : Int) + 16)) (fun w hSw => ?_) hHeld ?_
       · obtain ⟨h1, h2, h3, h4⟩ := hSw; go_simp
       simp only [sm]; refine tk 2 (.int .i64 ((k + 14 : Nat) : Int)) (fun w hSw => ?_) hHeld ?_
       · have a : IntKind.i64.wrap ((k : Int) + 16 - 2) = (k : Int) + 14 := by rw [IntKind.wrap_i64]; omega
         go_simp
       simp only [sm]; refine tk 3 (.pointer (some ⟨w.heap.size + 2, k + 14, none⟩)) (fun w hSw => ?_) hHeld ?_
       · have a1 : (0 : Int) ≤ (k : Int) + 14 := (by omega)
         have a2 : (k : Int) + 14 < 80 := (by omega)
         have a3 : ((k : Int) + 14).toNat = k + 14 := (by omega)
         go_simp
       simp only [sm]; refine tk 4 (.int .u64 (I (schTo x k (k + 14)))) (fun w hSw => ?_) hHeld ?_
       · obtain ⟨h1, h2, h3, h4⟩ := hSw; go_simp
       simp only [sm]; refine tk 6 (.int .i64 ((k : Int) + 16)) (fun w hSw => ?_) hHeld ?_
       · obtain ⟨h1, h2, h3, h4⟩ := hSw; go_simp
       simp only [sm]; refine tk 7 (.int .i64 ((k + 9 : Nat) : Int)) (fun w hSw => ?_) hHeld ?_
       · have a : IntKind.i64.wrap ((k : Int) + 16 - 7) = (k : Int) + 9 := by rw [IntKind.wrap_i64]; omega
         go_simp
       simp only [sm]; refine tk 8 (.pointer (some ⟨w.heap.size + 2, k + 9, none⟩)) (fun w hSw => ?_) hHeld ?_
       · have a1 : (0 : Int) ≤ (k : Int) + 9 := (by omega)
         have a2 : (k : Int) + 9 < 80 := (by omega)
         have a3 : ((k : Int) + 9).toNat = k + 9 := (by omega)
         go_simp
       simp only [sm]; refine tk 9 (.int .u64 (I (schTo x k (k + 9)))) (fun w hSw => ?_) hHeld ?_
       · obtain ⟨h1, h2, h3, h4⟩ := hSw; go_simp
       simp only [sm]; refine tk 11 (.int .i64 ((k : Int) + 16)) (fun w hSw => ?_) hHeld ?_
       · obtain ⟨h1, h2, h3, h4⟩ := hSw; go_simp
       simp only [sm]; refine tk 12 (.int .i64 ((k + 1 : Nat) : Int)) (fun w hSw => ?_) hHeld ?_
       · have a : IntKind.i64.wrap ((k : Int) + 16 - 15) = (k : Int) + 1 := by rw [IntKind.wrap_i64]; omega
         go_simp
       simp only [sm]; refine tk 13 (.pointer (some ⟨w.heap.size + 2, k + 1, none⟩)) (fun w hSw => ?_) hHeld ?_
       · have a1 : (0 : Int) ≤ (k : Int) + 1 := (by omega)
         have a2 : (k : Int) + 1 < 80 := (by omega)
         have a3 : ((k : Int) + 1).toNat = k + 1 := (by omega)
         go_simp
       simp only [sm]; refine tk 14 (.int .u64 (I (schTo x k (k + 1)))) (fun w hSw => ?_) hHeld ?_
       · obtain ⟨h1, h2, h3, h4⟩ := hSw; go_simp
       simp only [sm]; refine tk 17 (.int .i64 ((k : Int) + 16)) (fun w hSw => ?_) hHeld ?_
       · obtain ⟨h1, h2, h3, h4⟩ := hSw; go_simp
       simp only [sm]; refine tk 18 (.int .i64 ((k : Nat) : Int)) (fun w hSw => ?_) hHeld ?_
       · have a : IntKind.i64.wrap ((k : Int) + 16 - 16) = (k : Int) := (by rw [IntKind.wrap_i64]; omega)
         have a4 : (k : Int) + 16 - 16 = (k : Int) := (by omega)
         rw [a4] at a; go_simp
       simp only [sm]; refine tk 19 (.pointer (some ⟨w.heap.size + 2, k, none⟩)) (fun w hSw => ?_) hHeld ?_
       · have a1 : (0 : Int) ≤ (k : Int) := (by omega)
         have a2 : (k : Int) < 80 := (by omega)
         have a3 : ((k : Int)).toNat = k := (by omega)
         go_simp
       simp only [sm]; refine tk 20 (.int .u64 (I (schTo x k k))) (fun w hSw => ?_) hHeld ?_
       · obtain ⟨h1, h2, h3, h4⟩ := hSw; go_simp
       simp only [sm]; refine rd 5 (fun K hK => ?_); go_simp; refine (sg1_any _ _).mono ?_; rintro e w' ⟨rfl, hs⟩; obtain rfl := hs.symm; go_wp2_with fail; refine hK.out _ _ ?_ (fun hHeld => ?_)
       · exact hHeld
       clear hK K; try simp only [sm]
       refine tk 10 (.int .u64 (I (sg1 (schTo x k (k + 14)) + schTo x k (k + 9)))) (fun w hSw => ?_) hHeld ?_
       · have a := I_add (sg1 (schTo x k (k + 14))) (schTo x k (k + 9)); go_simp
       simp only [sm]; refine rd 15 (fun K hK => ?_); go_simp; refine (sg0_any _ _).mono ?_; rintro e w' ⟨rfl, hs⟩; obtain rfl := hs.symm; go_wp2_with fail; refine hK.out _ _ ?_ (fun hHeld => ?_)
       · exact hHeld
       clear hK K; try simp only [sm]
       refine tk 16 (.int .u64 (I (sg1 (schTo x k (k + 14)) + schTo x k (k + 9) + sg0 (schTo x k (k + 1))))) (fun w hSw => ?_) hHeld ?_
       · have a := I_add (sg1 (schTo x k (k + 14)) + schTo x k (k + 9)) (sg0 (schTo x k (k + 1))); go_simp
       simp only [sm]; refine tk 21 (.int .u64 (I (sg1 (schTo x k (k + 14)) + schTo x k (k + 9) + sg0 (schTo x k (k + 1)) + schTo x k k))) (fun w hSw => ?_) hHeld ?_
       · have a := I_add (sg1 (schTo x k (k + 14)) + schTo x k (k + 9) + sg0 (schTo x k (k + 1))) (schTo x k k); go_simp
       simp only [sm]; refine tk 22 (.pointer (some ⟨w.heap.size + 2, k + 16, none⟩)) (fun w hSw => ?_) hHeld ?_
       · have a1 : (0 : Int) ≤ (k : Int) + 16 := (by omega)
         have a2 : (k : Int) + 16 < 80 := (by omega)
         have a3 : ((k : Int) + 16).toNat = k + 16 := (by omega)
         go_simp
       simp only [sm]; refine rd 23 (fun K hK => ?_); go_simp; refine hK.out _ _ ?_ (fun hHeld => ?_)
       · have hn : ∀ j, j < k + 16 → (⟨w.heap.size + 1 + 1, k + 16, none⟩ : Addr) ≠ ⟨w.heap.size + 2, j, none⟩ := fun j hj e => by injection e with _ e2; omega
         have hc : ∀ j, j < k + 16 → ∀ v, wr.drew.cell? ⟨w.heap.size + 2, j, none⟩ = some v → (wr.drew.setCell ⟨w.heap.size + 1 + 1, k + 16, none⟩ (.int .u64 (I (sg1 (schTo x k (k + 14)) + schTo x k (k + 9) + sg0 (schTo x k (k + 1)) + schTo x k k)))).cell? ⟨w.heap.size + 2, j, none⟩ = some v := fun j hj v hv => (World.cell?_setCell_other _ _ _ _ (hn j hj)).trans hv
         exact ⟨hc _ (by omega) _ hHeld.1, hc _ (by omega) _ hHeld.2.1, hc _ (by omega) _ hHeld.2.2.1, hc _ (by omega) _ hHeld.2.2.2⟩
       clear hK K; try simp only [sm]
       refine wpAnyH_done (by kernel_rfl) ?_ _; clear hHeld c0 c1 c2 c3; go_wp2; go_roundw
       case rel => exact ⟨k + 1, by omega, by go_num, (H1.out.more (Below.drew (Below.refl _ _))).step (sch_row H1.out.2.1.drew rfl) ((Only.refl _ _).setCell _ _)⟩
       case measure => simp [intOf]; omega
     · have : k = 64 := by omega
       subst this; go_wp2_with (first | (refine wpList_load_row rfl 172 _ rfl (w.heap.size + 2) rfl 172 _ (0, 0) _ (row_heap hin.2.1) Tryz.underlying172 rfl (info41v _) ?_) | (refine wpList_store_row rfl 172 _ _ rfl (w.heap.size + 1) _ rfl rfl 172 _ (row_heap hin.1) (info41v _) (by simp) (one_lan _ _) ?_)); refine bodyPost_ret (results_cell_row rfl _ _ _ _ _ _ _ rfl (setRow_heap _ _ _ _ _ _ (row_heap hin.1)) Tryz.underlying172 rfl (info41v _)) rfl ⟨?_, ?_⟩
       · rw [HX.out]
       · exact ((Only.refl _ _).setRow _).below hin.2.2 (by omega)
end Go.Proofs.YtojfcdjgcgnajaaGreat.Sha
