/- KY, LC -/
import Derived.Test.YtconkienlcegaaaGreatDoorGShelfS
import Derived.Test.YtconkienlcegaaaGreatDoorGKQ
import Derived.Test.YtconkienlcegaaaGreatDoorGKA
namespace Go.Proofs.YtconkienlcegaaaGreatDoor
open Go.RowKit Go.Maps Go.Joins Go.Shelf
set_option linter.unusedSimpArgs false
set_option linter.unusedVariables false
theorem info83b : (Tryz.prog.info? 83).map (fun i => (i.zero, i.size, i.bytes)) = some (some (.agg #[.slice none 0 0, .slice none 0 0, .bool false]), 3, 56) := by kernel_rfl
theorem info83c : ∃ i, Tryz.prog.info? 83 = some i ∧ i.zero = some (.agg #[.slice none 0 0, .slice none 0 0, .bool false]) ∧ i.size = 3 ∧ i.bytes = 56 := by
 have := info83b; cases h : Tryz.prog.info? 83 with
 | none => rw [h] at this; cases this
 | some i =>
   rw [h] at this; simp at this; exact ⟨i, rfl, this.1, this.2.1, this.2.2⟩
theorem row_chs83 {w : World} {base : Nat} {v : Value} {A : List CI} {D : Nat → Prop} (hrow : w.ownsRow base 83 3 v A.length (ciL A)) (hit : ∀ f ∈ A, KBD w D f.vk f.c.key ∧ KBD w D f.vv f.c.val) (hD : ∀ b, v.ownBlock = some b → D b) (hl : A.length * 56 ≤ 140737488355328) : ChsV w D v (A.map CI.c) := by
 have hmap : ∀ i x, (A.map CI.c)[i]? = some x → ∃ f : CI, A[i]? = some f ∧ f.c = x := fun i x hx => by
  rw [List.getElem?_map] at hx; cases hf : A[i]? with
  | none => rw [hf] at hx; cases hx
  | some f => rw [hf] at hx; injection hx with hx; exact ⟨f, hf, hx⟩
 have hlen : (A.map CI.c).length = A.length := by simp
 have hcells : ∀ g, v.ownBlock = some g → ∀ i f, A[i]? = some f → ∀ j u, (ciC f)[j]? = some u → w.cell? ⟨g, 0 + i * 3 + j, none⟩ = some u := fun g hg i f hf j u hu => by
  have h3 : j < 3 := by
   have := (List.getElem?_eq_some_iff.1 hu).1
   simpa [ciC] using this
  have := hrow.cells hg (i * 3 + j) u (by rw [ciL_at A i f hf j h3]; exact hu); rw [Addr.add_lit, ← Nat.add_assoc] at this; exact this
 rcases hrow.2 with ⟨rfl, h0⟩ | ⟨g, cap, cur, rfl, _, _, h1, h2, _⟩
 · have hA : A = [] := List.eq_nil_of_length_eq_zero h0
   subst hA; exact .mk [] none 0 0 0 (fun _ => .nilIface) (fun _ => .nilIface) (Nat.le_refl _) (by omega) (by simp) (fun h => by simp at h) (fun h => by simp at h) (fun i x hx => by simp at hx) (fun i x hx => by simp at hx) (fun i x hx => by simp at hx) (fun i x hx => by simp at hx) (fun i x hx => by simp at hx)
 · have := ChsV.mk (w := w) (D := D) (A.map CI.c) (some ⟨g, 0, none⟩) cap g 0 (fun i => ((A[i]?).map CI.vk).getD .nilIface) (fun i => ((A[i]?).map CI.vv).getD .nilIface) (by rw [hlen]; exact h1) (by unfold maxLen at h2; omega) (by rw [hlen]; exact hl)
    (fun _ => rfl) (fun _ => hD g rfl)
    (fun i x hx => by obtain ⟨f, hf, rfl⟩ := hmap i x hx; rw [hf]; exact hcells g rfl i f hf 0 _ rfl)
    (fun i x hx => by obtain ⟨f, hf, rfl⟩ := hmap i x hx; rw [hf]; exact hcells g rfl i f hf 1 _ rfl)
    (fun i x hx => by obtain ⟨f, hf, rfl⟩ := hmap i x hx; exact hcells g rfl i f hf 2 _ rfl)
    (fun i x hx => by obtain ⟨f, hf, rfl⟩ := hmap i x hx; rw [hf]; exact (hit f (List.mem_of_getElem? hf)).1)
    (fun i x hx => by obtain ⟨f, hf, rfl⟩ := hmap i x hx; rw [hf]; exact (hit f (List.mem_of_getElem? hf)).2)
   rw [hlen] at this; exact this
end Go.Proofs.YtconkienlcegaaaGreatDoor
namespace Go.Proofs.YtconkienlcegaaaGreatDoor
open Go.RowKit Go.Maps Go.Joins
set_option linter.unusedSimpArgs false
set_option linter.unusedVariables false
theorem kor256b (y : Nat) (x : Int) (hy : y < 16777216) (h0 : 0 ≤ x) (h1 : x < 256) : bits .or .u32 ((y : Int) * 256) x = ((y * 256 + x.toNat : Nat) : Int) := by
 obtain ⟨x, rfl⟩ := Int.eq_ofNat_of_zero_le h0; have hx : x < 256 := by omega
 have e0 : ((y : Int) * 256) = ((y * 256 : Nat) : Int) := by simp
 have hsh : y * 2 ^ 8 ||| x = y * 2 ^ 8 + x := by rw [← Nat.shiftLeft_eq, ← Nat.shiftLeft_add_eq_or_of_lt (by omega)]
 rw [e0]; have h : bits .or .u32 ((y * 256 : Nat) : Int) ((x : Nat) : Int) = IntKind.u32.wrap (((BitVec.ofInt 32 ((y * 256 : Nat) : Int)) ||| (BitVec.ofInt 32 ((x : Nat) : Int))).toNat : Int) := rfl; rw [h, BitVec.toNat_or, BitVec.ofInt_natCast, BitVec.ofInt_natCast, BitVec.toNat_ofNat, BitVec.toNat_ofNat, Nat.mod_eq_of_lt (by omega), Nat.mod_eq_of_lt (by omega), show y * 256 = y * 2 ^ 8 from by omega, hsh, IntKind.wrap_u32]; omega
set_option maxRecDepth 100000 in
set_option maxHeartbeats 8000000 in
theorem rread_any {w : World} {a : Option Addr} {cap : Nat} {bs : List Int} (h : BytesV w (.slice a bs.length cap) bs) (hb : KByt bs) (hl : bs.length ≤ 4) :
 Calls Tryz.prog 62 #[.slice a bs.length cap] w fun e w' => e = .returned (.int .u32 ((kNum bs : Nat) : Int)) ∧ w' = w := by
 have HS : Hid (BytesV w (.slice a bs.length cap) bs) := h; have HB : Hid (KByt bs) := hb; obtain ⟨N, hN⟩ : ∃ N, N = bs.length := ⟨_, rfl⟩
 rw [← hN] at hl HS ⊢; have HN : Hid (N = bs.length) := hN; clear h hb hN; go_enter Tryz.func62, Tryz.ntmps62; go_wp2_with fail; go_loopw [3, 4] (fun i1 i2 wr => ∃ (j : Nat), j ≤ N ∧ i1 = .int .u32 (kNum (bs.take j) : Nat) ∧ i2 = .int .i64 j ∧ wr = w) (fun _ i2 _ => N - (intOf i2).toNat)
 case atStart => exact ⟨0, Nat.zero_le _, by simp [kNum], rfl, rfl⟩
 case round =>
  obtain ⟨j, hj, rfl, rfl, hwr⟩ := hrel; subst hwr; by_cases hjk : j < N
  · have hki : (j : Int) < N := by omega
    obtain ⟨y, hy⟩ : ∃ y, bs[j]? = some y := ⟨_, List.getElem?_eq_getElem (by have := HN.out; omega)⟩
    have hyb := HB.out y (List.mem_of_getElem? hy); obtain ⟨g, o, rfl, kc⟩ := HS.out.at hy; have hst := kNum_take hy; have hlt := kNum_lt (bs.take j) (HB.out.take j); have hlj : (bs.take j).length = j := by rw [List.length_take]; have := HN.out; omega
    rw [hlj] at hlt; have hp : (256 : Nat) ^ j ≤ 256 ^ 3 := Nat.pow_le_pow_right (by decide) (by omega); have hp6 : (256 : Nat) ^ 3 = 16777216 := by decide
    obtain ⟨s, hs⟩ : ∃ s, s = kNum (bs.take j) := ⟨_, rfl⟩
    rw [← hs] at hst hlt ⊢; have hsb : s < 16777216 := by omega
    have hor := kor256b s y (by omega) hyb.1 hyb.2; have hw1 : IntKind.u32.wrap ((s : Int) * 256) = (s : Int) * 256 := by rw [IntKind.wrap_u32]; omega
    have hw2 : IntKind.u32.wrap y = y := by rw [IntKind.wrap_u32]; omega
    have HST : Hid (kNum (bs.take (j + 1)) = s * 256 + y.toNat) := hst; clear hst hs hy hlt hp hp6 hlj; go_wp2; go_roundw
    case rel => exact ⟨j + 1, by omega, by rw [HST.out]; congr 1; have := hyb.1; omega, by go_num, by trivial⟩
    case measure => simp [intOf]; omega
  · have hki : ¬ (j : Int) < N := by omega
    have hE : kNum (bs.take j) = kNum bs := by rw [List.take_of_length_le (by have := HN.out; omega)]
    rw [hE]; go_wp2; go_ret; exact ⟨rfl, rfl⟩
end Go.Proofs.YtconkienlcegaaaGreatDoor
