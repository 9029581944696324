/- rlp: bytes and items in memory. -/
import Derived.Test.YtojfcdjgcgnajaaGreatGRlN
import Derived.Test.YtojfcdjgcgnajaaGreatChecked
import Derived.WalkKit
import Derived.WalkSpells
import Derived.StillTactics
import Derived.Laws.Pointers
import Derived.Deep.RegionHeld3
import Derived.RowKit3
import Derived.Handy
import Derived.BigQuiet
import Derived.Deep.QuietTactic
import Derived.Lib.SmallJoins
import Derived.Maps.AppendAt
import Derived.Laws.AppendOwnNone
import Derived.OwnWalk
namespace Go.Proofs.YtojfcdjgcgnajaaGreat.Rl
open Go.RowKit Go.Maps Go.Joins
set_option linter.unusedSimpArgs false
set_option linter.unusedVariables false
theorem info5b : (Tryz.prog.info? 5).map (fun i => (i.zero, i.size, i.bytes)) = some (some (.int .u8 0), 1, 1) := by kernel_rfl
theorem info5c : ∃ i, Tryz.prog.info? 5 = some i ∧ i.zero = some (.int .u8 0) ∧ i.size = 1 ∧ i.bytes = 1 := by
 have := info5b; cases h : Tryz.prog.info? 5 with
 | none => rw [h] at this; cases this
 | some i =>
   rw [h] at this; simp at this; exact ⟨i, rfl, this.1, this.2.1, this.2.2⟩
theorem row_form {w : World} {base size n : Nat} {e : TypeId} {v : Value} {xs : List Value} (h : w.ownsRow base e size v n xs) : ∃ a cap, v = .slice a n cap := by
 rcases h.2 with ⟨rfl, rfl⟩ | ⟨g, cap, cur, rfl, _⟩
 · exact ⟨_, _, rfl⟩
 · exact ⟨_, _, rfl⟩
theorem row_cap {w : World} {base size n : Nat} {e : TypeId} {v : Value} {xs : List Value} (h : w.ownsRow base e size v n xs) : ∃ a cap, v = .slice a n cap ∧ n ≤ cap ∧ cap ≤ 9223372036854775807 ∧ (a = none → cap = 0) ∧ ∀ ad, a = some ad → ∃ g, ad = ⟨g, 0, none⟩ := by
 rcases h.2 with ⟨rfl, rfl⟩ | ⟨g, cap, cur, rfl, _, _, h1, h2, _⟩
 · exact ⟨_, _, rfl, Nat.le_refl _, by omega, fun _ => rfl, fun ad h => (by cases h)⟩
 · exact ⟨_, _, rfl, h1, by unfold maxLen at h2; omega, fun h => (by cases h), fun ad h => (by cases h; exact ⟨g, rfl⟩)⟩
theorem ownsRow_heap {w w' : World} {base size n : Nat} {e : TypeId} {v : Value} {xs : List Value} (h : w.ownsRow base e size v n xs) (hk : ∀ b, v.ownBlock = some b → w'.heap[b]? = w.heap[b]?) : w'.ownsRow base e size v n xs := by
 obtain ⟨h1, h2⟩ := h; refine ⟨h1, ?_⟩; rcases h2 with h2 | ⟨g, cap, cur, rfl, hb, hg, hr⟩
 · exact Or.inl h2
 · exact Or.inr ⟨g, cap, cur, rfl, hb, (hk g rfl).trans hg, hr⟩
theorem heap_lt {w : World} {b : Nat} {o : Obj} (h : w.heap[b]? = some o) : b < w.heap.size := (Array.getElem?_eq_some_iff.1 h).1
theorem cell_lt {w : World} {p : Addr} {v : Value} (h : w.cell? p = some v) : p.block < w.heap.size := by
 rcases Nat.lt_or_ge p.block w.heap.size with h1 | h1
 · exact h1
 · have : w.heap[p.block]? = none := Array.getElem?_eq_none h1
   simp [World.cell?, this] at h
def vB (bs : List Int) : List Value := bs.map (Value.int .u8)
theorem vB_length (bs : List Int) : (vB bs).length = bs.length := by simp [vB]
theorem vB_append (a b : List Int) : vB (a ++ b) = vB a ++ vB b := by simp [vB]
theorem vB_one (bs : List Int) : ∀ u ∈ vB bs, u.oneCell' = true := by
 intro u hu; obtain ⟨x, _, rfl⟩ := List.mem_map.1 hu; rfl
def BytesV (w : World) (v : Value) (bs : List Int) : Prop := (v = .slice none 0 0 ∧ bs = []) ∨ ∃ ad cap, v = .slice (some ad) bs.length cap ∧ ∀ j u, (vB bs)[j]? = some u → w.cell? (ad.add j) = some u
def dBlock (v : Value) (n : Nat) : Option Nat := if n = 0 then none else v.ownBlock
theorem dBlock_own {v : Value} {n b : Nat} (h : dBlock v n = some b) : v.ownBlock = some b := by
 unfold dBlock at h; split at h
 · cases h
 · exact h
theorem BytesV.of_own {w : World} {base : Nat} {v : Value} {bs : List Int} (h : w.ownsRow base 5 1 v bs.length (vB bs)) : BytesV w v bs := by
 rcases h.2 with ⟨rfl, h0⟩ | ⟨g, cap, cur, rfl, _⟩
 · exact Or.inl ⟨rfl, List.eq_nil_of_length_eq_zero h0⟩
 · exact Or.inr ⟨⟨g, 0, none⟩, cap, rfl, fun j u hu => h.cells (g := g) rfl j u hu⟩
theorem BytesV.below {w w' : World} {v : Value} {bs : List Int} (h : BytesV w v bs) (hb : Below w.heap.size w w') : BytesV w' v bs := by
 rcases h with h | ⟨ad, cap, rfl, hc⟩
 · exact Or.inl h
 · exact Or.inr ⟨ad, cap, rfl, fun j u hu => (hb.cell (cell_lt (hc j u hu))).trans (hc j u hu)⟩
theorem BytesV.kept {w w' : World} {v : Value} {bs : List Int} (h : BytesV w v bs) (hk : ∀ b, dBlock v bs.length = some b → w'.heap[b]? = w.heap[b]?) : BytesV w' v bs := by
 rcases h with h | ⟨ad, cap, rfl, hc⟩
 · exact Or.inl h
 · refine Or.inr ⟨ad, cap, rfl, fun j u hu => ?_⟩
   have hl : bs.length ≠ 0 := by
    have := (List.getElem?_eq_some_iff.1 hu).1; rw [vB_length] at this; omega
   have hb := hk ad.block (by unfold dBlock; rw [if_neg hl]; rfl); have e : (ad.add j).block = ad.block := by unfold Addr.add; split <;> rfl
   have e2 : w'.cell? (ad.add j) = w.cell? (ad.add j) := World.cell?_of_block (by rw [e]; exact hb); rw [e2]; exact hc j u hu
theorem BytesV.at {w : World} {va : Option Addr} {n vc : Nat} {bs : List Int} (h : BytesV w (.slice va n vc) bs) {k : Nat} {x : Int} (hk : bs[k]? = some x) : ∃ g o, va = some ⟨g, o, none⟩ ∧ w.cell? ⟨g, o + k, none⟩ = some (.int .u8 x) := by
 rcases h with ⟨_, rfl⟩ | ⟨ad, cap, e, hc⟩
 · simp at hk
 · injection e with e _ _
   obtain ⟨g, o, spot⟩ := ad; obtain ⟨y, hy⟩ : ∃ y, bs[0]? = some y := ⟨_, List.getElem?_eq_getElem (by have := (List.getElem?_eq_some_iff.1 hk).1; omega)⟩
   have h0 := hc 0 (.int .u8 y) (by unfold vB; rw [List.getElem?_map, hy]; rfl); have hs : spot = none := by simpa [Addr.add] using World.cell?_spot h0
   subst hs; have h1 := hc k (.int .u8 x) (by unfold vB; rw [List.getElem?_map, hk]; rfl); rw [Addr.add_lit] at h1; exact ⟨g, o, e, h1⟩
theorem BytesV.form {w : World} {v : Value} {bs : List Int} (h : BytesV w v bs) : ∃ a cap, v = .slice a bs.length cap := by
 rcases h with ⟨e, rfl⟩ | ⟨ad, cap, e, _⟩
 · exact ⟨_, _, e⟩
 · exact ⟨_, _, e⟩
theorem wpList_append_b {w : World} {ops : Array Oper} {rest : List Oper} {o : Oper} {a : Act} {Q : Exit → Act → World → Prop} (hgd : o.guard = none) (s x : Operand)
 (ho : o.op = .call { callee := .builtin .append, args := #[s, x], argTypes := #[28, 28] }) (base : Nat)
 (v u : Value) (bs news : List Int) (hs : a.eval s = v) (hown : w.ownsRow base 5 1 v bs.length (vB bs)) (hx : a.eval x = u) (hn : BytesV w u news)
 (hbytes : bs.length + news.length ≤ 140737488355328) (hbase : base ≤ w.heap.size)
 (h : ∀ v' w', w'.ownsRow base 5 1 v' (bs ++ news).length (vB (bs ++ news)) → w.grownBy w' v.ownBlock → (v'.ownBlock = v.ownBlock ∨ v'.ownBlock = some w.heap.size) → wpList Tryz.prog ops Q rest (a.put o.dst v') w') : wpList Tryz.prog ops Q (o :: rest) a w := by
 obtain ⟨i0, hi, hz0, hz1, hz2⟩ := info5c; rcases hn with ⟨rfl, rfl⟩ | ⟨ad, cap, rfl, hc⟩
 · refine wpList_append_own_none hgd s x 28 ho base 5 i0 1 Tryz.underlying28 hi v bs.length (vB bs) hs hown hx ?_
   exact h v w (by simpa using hown) (World.grownBy.refl _ _) (Or.inl rfl)
 · refine wpList_append_own_at w hgd s x 28 ho base 5 i0 (.int .u8 0) 1 1 Tryz.underlying28 hi hz0 hz1 hz2 rfl (by decide) v bs.length (vB bs) hs hown ad news.length cap (vB news) hx (by rw [vB_length, Nat.mul_one]) hc (vB_one news) (by unfold maxLen; omega) (by omega) hbase (fun v' w' a b _ d => h v' w' ?_ b d)
   rw [List.length_append, vB_append]; exact a
set_option maxRecDepth 100000 in
set_option maxHeartbeats 4000000 in
theorem bclone_any {w : World} (v : Value) (bs : List Int) (hv : BytesV w v bs) (hl : bs.length ≤ 140737488355328) :
 Calls Tryz.prog 44 #[v] w fun e w' => ∃ v', e = .returned v' ∧ w'.ownsRow w.heap.size 5 1 v' bs.length (vB bs) ∧ Below w.heap.size w w' := by
 rcases hv with ⟨rfl, rfl⟩ | ⟨ad, cap, rfl, hc⟩
 · have he : ∀ w : World, (binOp .eql 28 (.slice none 0 0) (.slice none 0 0) : Sem Value).run Tryz.prog w = .ok (.bool true) w := fun w => by kernel_rfl
   go_enter Tryz.func44, Tryz.ntmps44
   go_wp2; go_ret
   exact ⟨_, rfl, World.ownsRow_nil _ _ _ _, Below.refl _ _⟩
 · have HC : Hid (∀ j u, (vB bs)[j]? = some u → w.cell? (ad.add j) = some u) := hc
   clear hc; have he : ∀ w : World, (binOp .eql 28 (.slice (some ad) bs.length cap) (.slice none 0 0) : Sem Value).run Tryz.prog w = .ok (.bool false) w := fun w => by kernel_rfl
   go_enter Tryz.func44, Tryz.ntmps44
   go_wp2_with (first
    | (at_builtin
       have ho0 : (w.alloc (.cells #[] 5)).ownsRow w.heap.size 5 1 (.slice (some ⟨w.heap.size, 0, none⟩) 0 0) ([] : List Int).length (vB []) := ⟨rfl, Or.inr ⟨w.heap.size, 0, #[], by simp, Nat.le_refl _, by have := heap_alloc_new w (.cells #[] 5); simpa using this, Nat.le_refl _, by decide, rfl, rfl⟩⟩
       refine wpList_append_b rfl _ _ rfl w.heap.size (.slice (some ⟨w.heap.size, 0, none⟩) 0 0) (.slice (some ad) bs.length cap) [] bs rfl ho0 rfl (Or.inr ⟨ad, cap, rfl, fun j u hu => (Below.cell (by go_grown) (cell_lt (HC.out j u hu))).trans (HC.out j u hu)⟩) (by simpa using hl) (by simp) ?_; intro v' w2 ho hg ha; rw [List.nil_append] at ho; have H2 : Hid (w2.ownsRow w.heap.size 5 1 v' bs.length (vB bs) ∧ Below w.heap.size w w2) := ⟨ho, ((Below.refl _ w).alloc (Nat.le_refl _) _).grown hg (by simp) (fun j hj => by have h9 : w.heap.size = j := (by simpa [Value.ownBlock] using hj); omega)⟩
       clear ho hg ha ho0))
   go_ret; exact ⟨v', rfl, H2.out⟩
theorem el22 : Tryz.prog.underlying 28 = some (.slice (Tryz.prog.elem 28)) := by kernel_rfl
theorem sz22 (w : World) : (sizeOf (Tryz.prog.elem 28)).run Tryz.prog w = .ok 1 w := by kernel_rfl
theorem slL2 (w : World) (g o n vc l : Nat) (L : Int) (hL : L = l) (hl : l ≤ n) : (Instr.slice 28 (.slice (some ⟨g, o, none⟩) n vc) (some (.int .i64 L)) none none).run Tryz.prog w = .ok (.slice (some ⟨g, if vc = l then o else o + l, none⟩) (n - l) (vc - l)) w := by
 subst hL; rw [run_slice_l w 28 _ n vc el22 .i64 l (by omega) (by omega), sz22]; by_cases e : vc = l
 · simp [Result.andThen, sliced, e]
 · simp [Result.andThen, sliced, e, Addr.add_lit]
theorem slH (w : World) (g o n vc h : Nat) (H : Int) (hH : H = h) (hc : h ≤ vc) (h0 : 0 < vc) : (Instr.slice 28 (.slice (some ⟨g, o, none⟩) n vc) none (some (.int .i64 H)) none).run Tryz.prog w = .ok (.slice (some ⟨g, o, none⟩) h vc) w := by
 subst hH; rw [run_slice_h w 28 _ n vc el22 .i64 h (by omega) (by omega), sz22]; have : ¬ vc = 0 := by omega
 simp [Result.andThen, sliced, this, Addr.add]
structure BytD (w : World) (D : Nat → Prop) (v : Value) (bs : List Int) : Prop where
 is : BytesV w v bs
 d : ∀ b, dBlock v bs.length = some b → D b
 len : bs.length ≤ 140737488355328
theorem BytD.mono {w w' : World} {D D' : Nat → Prop} {v : Value} {bs : List Int} (h : BytD w D v bs) (hk : ∀ b, D b → w'.heap[b]? = w.heap[b]?) (hd : ∀ b, D b → D' b) : BytD w' D' v bs :=
 ⟨h.is.kept fun b hb => hk b (h.d b hb), fun b hb => hd b (h.d b hb), h.len⟩
inductive ItsV (w : World) (D : Nat → Prop) : Value → List Tr → Prop where
 | mk (xs : List Tr) (a : Option Addr) (cap g o : Nat) (sb si : Nat → Value) (hc : xs.length ≤ cap) (hm : cap ≤ 9223372036854775807) (hl : xs.length * 56 ≤ 140737488355328)
    (ha : 0 < xs.length → a = some ⟨g, o, none⟩) (hd : 0 < xs.length → D g)
    (h0 : ∀ i x, xs[i]? = some x → w.cell? ⟨g, o + i * 3, none⟩ = some (.bool x.l)) (h1 : ∀ i x, xs[i]? = some x → w.cell? ⟨g, o + i * 3 + 1, none⟩ = some (sb i)) (h2 : ∀ i x, xs[i]? = some x → w.cell? ⟨g, o + i * 3 + 2, none⟩ = some (si i))
    (hb : ∀ i x, xs[i]? = some x → BytD w D (sb i) x.b) (hi : ∀ i x, xs[i]? = some x → ItsV w D (si i) x.xs) : ItsV w D (.slice a xs.length cap) xs
theorem ItsV.mono {w w' : World} {D D' : Nat → Prop} {v : Value} {xs : List Tr} (h : ItsV w D v xs) (hk : ∀ b, D b → w'.heap[b]? = w.heap[b]?) (hd : ∀ b, D b → D' b) : ItsV w' D' v xs := by
 induction h with
 | mk xs a cap g o sb si hc hm hl ha hdd h0 h1 h2 hb hi ih =>
   have hp : ∀ i x, xs[i]? = some x → 0 < xs.length := fun i x hx => by have := (List.getElem?_eq_some_iff.1 hx).1; omega
   refine .mk xs a cap g o sb si hc hm hl ha (fun h => hd g (hdd h)) (fun i x hx => ?_) (fun i x hx => ?_) (fun i x hx => ?_) (fun i x hx => (hb i x hx).mono hk hd) (fun i x hx => ih i x hx)
   · rw [World.cell?_of_block (hk g (hdd (hp i x hx)))]; exact h0 i x hx
   · rw [World.cell?_of_block (hk g (hdd (hp i x hx)))]; exact h1 i x hx
   · rw [World.cell?_of_block (hk g (hdd (hp i x hx)))]; exact h2 i x hx
theorem ItsV.form {w : World} {D : Nat → Prop} {v : Value} {xs : List Tr} (h : ItsV w D v xs) : ∃ a cap, v = .slice a xs.length cap ∧ xs.length ≤ cap ∧ cap ≤ 9223372036854775807 ∧ xs.length * 56 ≤ 140737488355328 := by
 cases h with
 | mk _ a cap g o sb si hc hm hl => exact ⟨a, cap, rfl, hc, hm, hl⟩
theorem ItsV.empty (w : World) (D : Nat → Prop) : ItsV w D (.slice none 0 0) [] :=
 .mk [] none 0 0 0 (fun _ => .nilIface) (fun _ => .nilIface) (Nat.le_refl _) (by omega) (by simp) (fun h => by simp at h) (fun h => by simp at h) (fun i x hx => by simp at hx) (fun i x hx => by simp at hx) (fun i x hx => by simp at hx) (fun i x hx => by simp at hx) (fun i x hx => by simp at hx)
theorem ItsV.at {w : World} {D : Nat → Prop} {a : Option Addr} {n cap : Nat} {xs : List Tr} (h : ItsV w D (.slice a n cap) xs) {i : Nat} {x : Tr} (hx : xs[i]? = some x) :
 ∃ g o sb si, a = some ⟨g, o, none⟩ ∧ D g ∧ w.cell? ⟨g, o + i * 3, none⟩ = some (.bool x.l) ∧ w.cell? ⟨g, o + i * 3 + 1, none⟩ = some sb ∧ w.cell? ⟨g, o + i * 3 + 2, none⟩ = some si ∧ BytD w D sb x.b ∧ ItsV w D si x.xs := by
 have hp : 0 < xs.length := by have := (List.getElem?_eq_some_iff.1 hx).1; omega
 cases h with
 | mk _ _ _ g o sb si hc hm hl ha hd h0 h1 h2 hb hi => exact ⟨g, o, sb i, si i, ha hp, hd hp, h0 i x hx, h1 i x hx, h2 i x hx, hb i x hx, hi i x hx⟩
structure ItV (w : World) (D : Nat → Prop) (sb si : Value) (x : Tr) : Prop where
 b : BytD w D sb x.b
 xs : ItsV w D si x.xs
theorem ItV.mono {w w' : World} {D D' : Nat → Prop} {sb si : Value} {x : Tr} (h : ItV w D sb si x) (hk : ∀ b, D b → w'.heap[b]? = w.heap[b]?) (hd : ∀ b, D b → D' b) : ItV w' D' sb si x := ⟨h.b.mono hk hd, h.xs.mono hk hd⟩
def Off (w : World) (v : Value) (b : Nat) : Prop := b < w.heap.size ∧ v.ownBlock ≠ some b
structure IC where
 x : Tr
 sb : Value
 si : Value
def icC (f : IC) : List Value := [.bool f.x.l, f.sb, f.si]
def icL (A : List IC) : List Value := A.flatMap icC
theorem icL_length (A : List IC) : (icL A).length = A.length * 3 := by
 induction A with
 | nil => rfl
 | cons f A ih => show (icC f ++ icL A).length = _; rw [List.length_append, ih]; simp [icC]; omega
theorem icL_at : ∀ (A : List IC) (i : Nat) (f : IC), A[i]? = some f → ∀ j, j < 3 → (icL A)[i * 3 + j]? = (icC f)[j]?
 | [], i, f, h, j, hj => by simp at h
 | g :: A, 0, f, h, j, hj => by
   simp at h; subst h; show (icC g ++ icL A)[0 * 3 + j]? = _; rw [List.getElem?_append_left (by simp [icC]; omega)]; simp
 | g :: A, i + 1, f, h, j, hj => by
   simp at h; show (icC g ++ icL A)[(i + 1) * 3 + j]? = _; rw [List.getElem?_append_right (by simp [icC]; omega)]; have := icL_at A i f h j hj; simp only [icC, List.length_cons, List.length_nil] at *; rw [show (i + 1) * 3 + j - (0 + 1 + 1 + 1) = i * 3 + j from by omega]; exact this
structure OwnIts (w : World) (base : Nat) (v : Value) (A : List IC) : Prop where
 row : w.ownsRow base 61 3 v A.length (icL A)
 it : ∀ f ∈ A, ItV w (Off w v) f.sb f.si f.x
theorem OwnIts.lt {w : World} {base : Nat} {v : Value} {A : List IC} (h : OwnIts w base v A) : ∀ b, v.ownBlock = some b → base ≤ b ∧ b < w.heap.size := h.row.lt
theorem OwnIts.kept {w w' : World} {base : Nat} {v : Value} {A : List IC} (h : OwnIts w base v A) (hk : ∀ b, b < w.heap.size → w'.heap[b]? = w.heap[b]?) (hs : w.heap.size ≤ w'.heap.size) : OwnIts w' base v A :=
 ⟨ownsRow_heap h.row (fun b hb => hk b (h.lt b hb).2), fun f hf => (h.it f hf).mono (fun b hb => hk b hb.1) (fun b hb => ⟨Nat.lt_of_lt_of_le hb.1 hs, hb.2⟩)⟩
theorem OwnIts.below {w w' : World} {base : Nat} {v : Value} {A : List IC} (h : OwnIts w base v A) (hb : Below w.heap.size w w') : OwnIts w' base v A := h.kept hb.block hb.size
theorem OwnIts.its {w : World} {base : Nat} {v : Value} {A : List IC} (h : OwnIts w base v A) (hl : A.length * 56 ≤ 140737488355328) : ItsV w (fun b => b < w.heap.size) v (A.map IC.x) := by
 have hmap : ∀ i x, (A.map IC.x)[i]? = some x → ∃ f : IC, A[i]? = some f ∧ f.x = x := fun i x hx => by
  rw [List.getElem?_map] at hx; cases hf : A[i]? with
  | none => rw [hf] at hx; cases hx
  | some f => rw [hf] at hx; injection hx with hx; exact ⟨f, hf, hx⟩
 have hitv : ∀ i x, (A.map IC.x)[i]? = some x → ∃ f : IC, A[i]? = some f ∧ f.x = x ∧ ItV w (fun b => b < w.heap.size) f.sb f.si f.x := fun i x hx => by
  obtain ⟨f, hf, e⟩ := hmap i x hx; exact ⟨f, hf, e, (h.it f (List.mem_of_getElem? hf)).mono (fun _ _ => rfl) (fun b hb => hb.1)⟩
 have hlen : (A.map IC.x).length = A.length := by simp
 obtain ⟨a, cap, hv, q1, q2, q3, q4⟩ := row_cap h.row; have hcells : ∀ g, v.ownBlock = some g → ∀ i f, A[i]? = some f → ∀ j u, (icC f)[j]? = some u → w.cell? ⟨g, 0 + i * 3 + j, none⟩ = some u := fun g hg i f hf j u hu => by
  have h3 : j < 3 := by
   have := (List.getElem?_eq_some_iff.1 hu).1
   simpa [icC] using this
  have := h.row.cells hg (i * 3 + j) u (by rw [icL_at A i f hf j h3]; exact hu); rw [Addr.add_lit, ← Nat.add_assoc] at this; exact this
 subst hv; have hblk : 0 < A.length → ∃ g, a = some ⟨g, 0, none⟩ := fun h0 => by
  cases a with
  | none => have := q3 rfl; omega
  | some ad => obtain ⟨g, hg⟩ := q4 ad rfl; exact ⟨g, by rw [hg]⟩
 have hex : ∃ g, 0 < A.length → a = some ⟨g, 0, none⟩ := by
  by_cases h0 : 0 < A.length
  · obtain ⟨g, hg⟩ := hblk h0; exact ⟨g, fun _ => hg⟩
  · exact ⟨0, fun h => absurd h h0⟩
 obtain ⟨g, hg⟩ := hex; have hA : ∀ i f, A[i]? = some f → 0 < A.length := fun i f hf => by have := (List.getElem?_eq_some_iff.1 hf).1; omega
 have hob : ∀ i f, A[i]? = some f → (Value.slice a A.length cap).ownBlock = some g := fun i f hf => by rw [hg (hA i f hf)]; rfl
 have := ItsV.mk (w := w) (D := fun b => b < w.heap.size) (A.map IC.x) a cap g 0 (fun i => ((A[i]?).map IC.sb).getD .nilIface) (fun i => ((A[i]?).map IC.si).getD .nilIface) (by rw [hlen]; exact q1) q2 (by rw [hlen]; exact hl)
  (fun h0 => hg (by rw [hlen] at h0; exact h0)) (fun h0 => by
    rw [hlen] at h0; have := h.lt g (by rw [hg h0]; rfl); exact this.2)
  (fun i x hx => by obtain ⟨f, hf, rfl⟩ := hmap i x hx; exact hcells g (hob i f hf) i f hf 0 _ rfl)
  (fun i x hx => by obtain ⟨f, hf, rfl⟩ := hmap i x hx; rw [hf]; exact hcells g (hob i f hf) i f hf 1 _ rfl)
  (fun i x hx => by obtain ⟨f, hf, rfl⟩ := hmap i x hx; rw [hf]; exact hcells g (hob i f hf) i f hf 2 _ rfl)
  (fun i x hx => by obtain ⟨f, hf, rfl, hv⟩ := hitv i x hx; rw [hf]; exact hv.b)
  (fun i x hx => by obtain ⟨f, hf, rfl, hv⟩ := hitv i x hx; rw [hf]; exact hv.xs)
 rw [hlen] at this; exact this
end Go.Proofs.YtojfcdjgcgnajaaGreat.Rl
