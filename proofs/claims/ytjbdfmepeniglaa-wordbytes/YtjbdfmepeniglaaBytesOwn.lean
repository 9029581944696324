/- WordBytes returns true for every word, every list of bytes and every number of 64 bits: how words are written as bytes and which bytes are words is the document's own, Uint, Of and Len answer as they should, and the chapter's examples come; with no condition. -/
import Derived.Test.YtjbdfmepeniglaaOpen
import Derived.Test.YtjbdfmepeniglaaY6
import Derived.Carry
import Derived.ChangeSlices
namespace Go.Proofs.Ytjbdfmepeniglaa
open Go.ChangeShapes Go.WideShapes Go.ChangeAt Go.RowKit
theorem Try.laidOut : laidOutB Try.prog = true := by kernel_rfl
theorem Try.cells5 : Try.prog.cellsOf 5 = 1 := by kernel_rfl
/-- What both readings give. -/
def Gives (w : World) (v : Value) (x0 x1 x2 x3 E : Int) : Prop :=
  Hid (∀ w', Below w.heap.size w w' → Calls Try.prog 44 #[v] w' fun e w2 => e = .returned (.tuple #[W4 x0 x1 x2 x3, .int .i64 E]) ∧ Below w'.heap.size w' w2) ∧
  Hid (∀ w', Below w.heap.size w w' → Calls Try.prog 45 #[v] w' fun e w2 => e = .returned (.tuple #[W4 x0 x1 x2 x3, .int .i64 E]) ∧ Below w'.heap.size w' w2)
theorem gives_some (w : World) (v : Value) (d : List Int) (h : IsU w v d) (l : d.length ≤ 32) (B : Byt d) : ∃ x0 x1 x2 x3, Gives w v x0 x1 x2 x3 0 := by
  have h1 := valB_bd d B
  have h2 : (256 : Int) ^ d.length ≤ 256 ^ 32 := Int.pow_le_pow_of_le_right' l
  have e : (256 : Int) ^ 32 = T256 := by decide
  obtain ⟨x0, x1, x2, x3, L, E⟩ := num_ex (valB d) h1.1 (by omega)
  refine ⟨x0, x1, x2, x3, fun w' hw => ?_, fun w' hw => ?_⟩
  · refine (read_any w' v d (h.below hw) l B).mono ?_
    rintro e w2 ⟨r0, r1, r2, r3, rfl, Lr, Er, hw2⟩
    obtain ⟨rfl, rfl, rfl, rfl⟩ := num_inj Lr L (Er.out.trans E.symm)
    exact ⟨rfl, hw2⟩
  · refine (readref_any w' v d (h.below hw) l B).mono ?_
    rintro e w2 ⟨r0, r1, r2, r3, rfl, Lr, Er, hw2⟩
    obtain ⟨rfl, rfl, rfl, rfl⟩ := num_inj Lr L (Er.out.trans E.symm)
    exact ⟨rfl, hw2⟩
theorem gives_big (w : World) (a : Option Addr) (l c : Nat) (hl : 32 < l) (hm : l ≤ 9223372036854775807) : Gives w (.slice a l c) 0 0 0 0 3 :=
  ⟨fun w' _ => read_big a l c hl hm w', fun w' _ => readref_big a l c hl hm w'⟩
theorem rev_getD (zs : List Int) (len k : Nat) (hl : len ≤ zs.length) (hk : k < len) : ((zs.take len).reverse).getD k 0 = zs.getD (len - 1 - k) 0 := by
  have h1 : (zs.take len).length = len := by simp; omega
  simp only [List.getD]
  rw [List.getElem?_reverse (by omega), h1, List.getElem?_take_of_lt (by omega)]
theorem byt_u8 {zs : List Int} (h : ∀ n ∈ zs, (Lit.int .u8 n).wf = true) : Byt zs := fun k => by
  rcases Nat.lt_or_ge k zs.length with g | g
  · have e : zs.getD k 0 = zs[k] := by simp [List.getD, List.getElem?_eq_getElem g]
    have := h zs[k] (List.getElem_mem g)
    simp [Lit.wf, IntKind.min, IntKind.max, IntKind.signed, IntKind.bits] at this
    rw [e]; omega
  · have e : zs.getD k 0 = 0 := by simp [List.getD, List.getElem?_eq_none g]
    rw [e]; exact ⟨by decide, by decide⟩
theorem byt_rev {zs : List Int} {len : Nat} (h : ∀ n ∈ zs, (Lit.int .u8 n).wf = true) : Byt (zs.take len).reverse := byt_u8 (fun n hn => h n (List.mem_of_mem_take (List.mem_reverse.1 hn)))
theorem gives_any {H : Type} {enc : TypeId × Value → H} {W : World} {base : Nat} {v : Value} {d : DataW H} {p : List MemPlace} (hv : Value.okWide Try.prog W .any base 31 v) (h : DataW.Trod enc Try.prog W 0 (fun _ => true) true 31 v d p) :
    ∃ x0 x1 x2 x3 E, Gives W v x0 x1 x2 x3 E := by
  obtain ⟨a1, len, cap, rfl⟩ := okWide_slice Try.underlying31 hv
  obtain ⟨fuel, hf⟩ := h
  rcases open_ints Try.underlying31 Try.underlying5 Try.cells5 hf with ⟨hcs, hx⟩ | ⟨a, len', cap', zs, hcs, _, hl, hm, hz, hx, hcell, hwz⟩
  · simp [Value.cells] at hcs
    obtain ⟨rfl, rfl, rfl⟩ := hcs
    obtain ⟨x0, x1, x2, x3, h⟩ := gives_some W (.slice none 0 0) [] ⟨none, 0, rfl, Nat.le_refl _, fun k hk => absurd hk (by simp)⟩ (by simp) byt_nil
    exact ⟨x0, x1, x2, x3, 0, h⟩
  · simp [Value.cells] at hcs
    obtain ⟨rfl, rfl, rfl⟩ := hcs
    simp only [if_true] at hz
    by_cases h32 : len ≤ 32
    · have hlen : ((zs.take len).reverse).length = len := by simp; omega
      obtain ⟨ab, ao, spot⟩ := a
      obtain ⟨x0, x1, x2, x3, h⟩ := gives_some W (.slice (some ⟨ab, ao, spot⟩) len cap) (zs.take len).reverse ⟨_, cap, by rw [hlen], by omega, fun k hk => by
        rw [hlen] at hk ⊢
        have h0 := hcell 0 (by omega)
        have hspot : spot = none := by simpa [Addr.add] using World.cell?_spot h0
        subst hspot
        have hc := hcell (len - 1 - k) (by omega)
        rw [Addr.add_lit] at hc
        exact ⟨ab, ao, rfl, block_lt_of_cell hc, by rw [hc, rev_getD zs len k (by omega) hk]⟩⟩ (by omega) (byt_rev hwz)
      exact ⟨x0, x1, x2, x3, 0, h⟩
    · exact ⟨0, 0, 0, 0, 3, gives_big W _ len cap (by omega) (by unfold maxLen at hm; omega)⟩
theorem fits_any (a0 a1 a2 a3 : Int) (ha : L4 a0 a1 a2 a3) : ∃ (u : Int) (rr : Bool), Hid (∀ w', Calls Try.prog 46 #[W4 a0 a1 a2 a3] w' fun e w2 => e = .returned (.tuple #[.int .u64 u, .bool rr]) ∧ Below w'.heap.size w' w2) ∧ (bits .or .u64 (bits .or .u64 a1 a2) a3 == 0) = rr ∧ (bif rr then a0 else 0) = u := by
  by_cases hz : a1 = 0 ∧ a2 = 0 ∧ a3 = 0
  · obtain ⟨rfl, rfl, rfl⟩ := hz
    exact ⟨a0, true, fun w' => (uint_yes a0 w').mono fun e w2 ⟨he, c1, c2, hw⟩ => ⟨he, by subst hw; go_grown⟩, by decide, rfl⟩
  · have hne := or3_ne ha.2.1 ha.2.2.1 ha.2.2.2 hz
    refine ⟨0, false, fun w' => (uint_no a0 a1 a2 a3 ha ?_ w').mono fun e w2 ⟨he, c1, c2, hw⟩ => ⟨he, by subst hw; go_grown⟩, by simpa using hne, rfl⟩
    obtain ⟨⟨_, _⟩, ⟨_, _⟩, ⟨_, _⟩, ⟨_, _⟩⟩ := ha
    unfold num; omega
set_option maxRecDepth 100000 in
theorem wordBytes_lifted (os : Os) (started : os.Started) (H : Type) (enc : TypeId × Value → H) :
    ReturnsInHanded {} Try.checked os 6 .any (Rows.wordBytesSpec.pre6 enc Try.prog Try.f6 Rows.wordBytesRow.domain false) (Rows.wordBytesSpec.post enc Try.prog Try.f6 false true false false) := by
  refine returnsInHanded_of_change (C := Try.checked) Try.own started (by kernel_rfl) Try.func6
    (ChangeSpec.witness6 (enc := enc) (C := Try.checked) false ⟨#[], #[W4 0 0 0 0, .slice none 0 0, .int .u64 0], []⟩ 8 (by kernel_rfl) (by kernel_rfl) (by kernel_rfl) (by kernel_rfl)) ?_
  intro W base args ds gs before hval0 hW hcnd _
  have hval : ∀ (j : Nat) t v, Try.f6.params[j]? = some t → args[j]? = some v → Value.okWide Try.prog W .any base t v := hval0
  have hW' := hW
  obtain ⟨p, q, hA0, hV, rfl, hfz, hnd⟩ := hW
  have hA : DataW.TrodAll enc Try.prog W 0 (fun _ => true) true Try.f6.params.toList args.toList ds p := hA0
  rw [Try.params6] at hA hval
  obtain ⟨v0, v1, v2, d0, d1, d2, p0, p1, p2, rfl, rfl, rfl, h0, h1, h2⟩ := trodAll_three hA
  obtain ⟨rfl, rfl⟩ := trodVars_none hV
  obtain ⟨a0, a1, a2, a3, rfl, rfl, rfl, wa⟩ := open24 (hval 0 24 v0 rfl rfl) h0
  obtain ⟨x0, x1, x2, x3, E, HR, HS⟩ := gives_any (hval 1 31 v1 rfl rfl) h1
  obtain ⟨n, rfl, rfl, rfl, wn⟩ := open_int Try.underlying22 (hval 2 22 v2 rfl rfl) h2
  obtain ⟨u, rr, HU, hor, hu⟩ := fits_any a0 a1 a2 a3 wa.L4
  clear hA0 hval0
  simp only [List.append_nil, List.nil_append] at hW'
  have hlt : ∀ x ∈ p1, x.block < W.heap.size := fun x hx => by simpa using hW'.lt x (by simpa using hx)
  refine (bytes_walk a0 a1 a2 a3 n x0 x1 x2 x3 E u rr v1 wa.L4 W HR HS HU hor hu).mono fun e W' ⟨he, bel⟩ => ?_
  subst he
  have hT := trodAll_mk3 (shut24 wa) (Below.trod Try.laidOut (by kernel_rfl) (of_decide_eq_true (by kernel_rfl)) h1 bel hlt) (shut_int (enc := enc) (base := 0) (spare := fun b => decide (b < W.heap.size)) (held := true) (w := W') Try.underlying22 wn)
  simp only [List.append_nil, List.nil_append] at hT
  exact ⟨_, rfl, _, _, _, [], p1, [], hW', trodAll_mk1 (shut_bool Try.underlying4 _), hT, rfl, bel.frame _, fun h => by cases h⟩
/-- The given statement. -/
theorem wordBytes_holds : Rows.WordBytesSaid :=
  OpenClaim.holds_of_wide 6 Try.f6 rfl rfl rfl rfl rfl rfl rfl ⟨rfl, rfl, rfl, rfl, rfl⟩ rfl rfl rfl rfl rfl (by kernel_rfl) Try.func6 (by kernel_rfl)
    (of_decide_eq_true (by kernel_rfl)) (by unfold Func.isWrapper; first | (rw [if_pos (by decide +kernel)]; kernel_rfl) | (rw [if_neg (by decide +kernel)]; exact ⟨rfl, rfl⟩))
    (fun os started H enc _ => wordBytes_lifted os started H enc)
#print axioms wordBytes_holds
end Go.Proofs.Ytjbdfmepeniglaa
