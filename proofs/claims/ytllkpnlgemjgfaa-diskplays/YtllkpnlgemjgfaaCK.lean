/- disk: DiskSafe, the walk. -/
import Derived.Test.YtllkpnlgemjgfaaCJ
namespace Go.Proofs.Ytllkpnlgemjgfaa
open Go.RowKit Go.Maps Go.Joins
set_option linter.unusedSimpArgs false
set_option linter.unusedVariables false
theorem BytesV.lt {w : World} {v : Value} {bs : List Int} (h : BytesV w v bs) : ∀ b, dBlock v bs = some b → b < w.heap.size := by
  intro b hb
  cases bs with
  | nil => simp [dBlock] at hb
  | cons x bs =>
    rcases h with ⟨_, h0⟩ | ⟨ad, cap, rfl, hc⟩
    · cases h0
    · have h1 := hc 0 (.int .u8 x) rfl
      have h2 := cell_lt h1
      have h3 : (ad.add 0).block = ad.block := by unfold Addr.add; split <;> rfl
      have h4 : ad.block = b := by simpa [dBlock, Value.ownBlock] using hb
      omega
theorem IntsV.lt {w : World} {v : Value} {ks : List Int} (h : IntsV w v ks) : ∀ b, dBlock v ks = some b → b < w.heap.size := by
  intro b hb
  cases ks with
  | nil => simp [dBlock] at hb
  | cons x ks =>
    obtain ⟨a, cap, rfl, hc⟩ := h
    obtain ⟨b', o, rfl, h1⟩ := hc 0 x rfl
    have h2 := cell_lt h1
    have h4 : b' = b := by simpa [dBlock, Value.ownBlock] using hb
    have h5 : b' < w.heap.size := h2
    omega
theorem IntsV.below {w w' : World} {v : Value} {ks : List Int} (h : IntsV w v ks) (hb : Below w.heap.size w w') : IntsV w' v ks := by
  obtain ⟨a, cap, rfl, hc⟩ := h
  refine ⟨a, cap, rfl, fun j x hj => ?_⟩
  obtain ⟨b, o, rfl, h1⟩ := hc j x hj
  exact ⟨b, o, rfl, (hb.cell (p := ⟨b, o + j, none⟩) (cell_lt h1)).trans h1⟩
/-- An Op in memory. -/
def OpAt (w : World) (g o : Nat) : Prop := ∃ (k x : Int) (s t : ByteArray) (va : Option Addr) (vc : Nat) (bs : List Int) (y : Int) (ka : Option Addr) (kl kc : Nat) (pa : Option Addr) (pl pc : Nat), (∀ j v, (opC k x s t (.slice va bs.length vc) y (.slice ka kl kc) (.slice pa pl pc))[j]? = some v → w.cell? ⟨g, o + j, none⟩ = some v) ∧ BytesV w (.slice va bs.length vc) bs ∧ bs.length ≤ 4611686018427387904 ∧ s.size ≤ 9223372036854775807 ∧ t.size ≤ 9223372036854775807
theorem rnew_v (w : World) : Calls Try.prog 7 #[.int .i64 1073741824] w fun e w' => ∃ br R0, e = .returned (.pointer (some ⟨br, 0, none⟩)) ∧ RefIs w' br R0 ∧ Below w.heap.size w w' ∧ RB R0 1073741824 ∧ absR R0.A = [] ∧ R0.n = 0 ∧ (∀ b, b < w.heap.size → R0.own b = 0) := by
  refine (rnew_any 1073741824 (by omega) (by omega) w).mono ?_
  rintro e w' ⟨rfl, hR, hB⟩
  refine ⟨_, _, rfl, hR, hB, ⟨rfl, rfl, ?_, rfl, by omega, wf_nil (by omega), List.Pairwise.nil⟩, rfl, rfl, fun b hb => if_neg (by omega)⟩
  unfold Rn
  show (0 : Int) ≤ 0 ∧ (0 : Int) < 4611686018427387904
  omega
theorem take_more {data ext more : List Int} {m : Int} (he : ext = more ∨ ext = []) (h1 : (data.length : Int) ≤ m) (h2 : m ≤ (data ++ ext).length) : ∃ xs, (data ++ ext).take m.toNat = xs ∧ data.length ≤ xs.length ∧ xs.length ≤ data.length + more.length ∧ xs = (data ++ more).take xs.length := by
  have h3 : ((data ++ ext).take m.toNat).length = m.toNat := by rw [List.length_take]; omega
  refine ⟨_, rfl, by omega, ?_, ?_⟩
  · rw [h3]
    rw [List.length_append] at h2
    rcases he with rfl | rfl
    · omega
    · rw [List.length_nil] at h2
      omega
  · rw [h3]
    rcases he with rfl | rfl
    · rfl
    · rw [List.append_nil] at h2 ⊢
      have h4 : m.toNat = data.length := by omega
      rw [h4, List.take_length, List.take_left]
theorem Cs.below {w w' : World} {v : Value} {xs : List Int} (h : Cs w v xs) (hb : Below w.heap.size w w') : Cs w' v xs := by
  rcases h with h | ⟨g, o, cap, rfl, hc⟩
  · exact Or.inl h
  · exact Or.inr ⟨g, o, cap, rfl, fun i hi => (hb.cell (p := ⟨g, o + i, none⟩) (cell_lt (hc i hi))).trans (hc i hi)⟩
theorem Cs.cut {w : World} {base g cap : Nat} {ys xs : List Int} (h : w.ownsRow base 5 1 (.slice (some ⟨g, 0, none⟩) ys.length cap) ys.length (vB ys)) (hx : xs = ys.take xs.length) (hl : xs.length ≤ ys.length) : Cs w (.slice (some ⟨g, 0, none⟩) xs.length cap) xs := by
  refine Or.inr ⟨g, 0, cap, rfl, fun i hi => ?_⟩
  have e : xs.getD i 0 = ys.getD i 0 := by
    have h1 : xs[i]? = ys[i]? := by
      rw [hx, List.getElem?_take, if_pos hi]
    simp [List.getD, h1]
  have := h.cells (g := g) rfl i (.int .u8 (ys.getD i 0)) (by simp [vB, List.getElem?_eq_getElem (show i < ys.length by omega)])
  rw [Addr.add_lit] at this
  rw [e]
  exact this
set_option maxRecDepth 100000 in
set_option maxHeartbeats 8000000 in
theorem dsafe_big {w : World} (da : Option Addr) (dc : Nat) (nd : Nat) (ma : Option Addr) (mc : Nat) (nm : Nat) (ov kv : Value) (h : 1000 < nd ∨ 1000 < nm) :
    Calls Try.prog 4 #[.slice da nd dc, .slice ma nm mc, ov, kv] w fun e w' => e = .returned (.bool true) ∧ Below w.heap.size w w' := by
  by_cases h1 : 1000 < nd
  · go_enter Try.func4, Try.ntmps4
    go_wp2_with (first
      | (go_at_call 8
         refine (alive_any _).mono ?_
         rintro e w13 ⟨rfl, hbl⟩))
    go_ret
    exact ⟨rfl, hbl⟩
  · have h2 : 1000 < nm := by omega
    go_enter Try.func4, Try.ntmps4
    go_wp2_with (first
      | (go_at_call 8
         refine (alive_any _).mono ?_
         rintro e w13 ⟨rfl, hbl⟩))
    go_ret
    exact ⟨rfl, hbl⟩
end Go.Proofs.Ytllkpnlgemjgfaa
