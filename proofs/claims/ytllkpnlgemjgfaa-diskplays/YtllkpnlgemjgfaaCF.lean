/- disk: does, for the calls on files. -/
import Derived.Test.YtllkpnlgemjgfaaCE
namespace Go.Proofs.Ytllkpnlgemjgfaa
open Go.RowKit Go.Maps Go.Joins
set_option linter.unusedSimpArgs false
set_option linter.unusedVariables false
/-- Both disks, side by side. -/
structure Two (w : World) (bd br : Nat) (S : DS) (R : RS) (ro : Int) : Prop where
  disk : DiskIs w bd S
  pb : PB S ro
  ref : RefIs w br R
  rb : RB R ro
  same : absP S = absR R.A
  apart : ∀ b, R.own b ≠ 0 → S.role b = .none
/-- What lies beside both stays. -/
structure F2 (w w' : World) (S : DS) (R : RS) (S' : DS) (R' : RS) : Prop where
  os : w'.os = w.os
  tape : w'.tape = w.tape
  output : w'.output = w.output
  size : w.heap.size ≤ w'.heap.size
  block : ∀ b, b < w.heap.size → S.role b = .none → R.own b = 0 → w'.heap[b]? = w.heap[b]?
  off : ∀ b, b < w.heap.size → S.role b = .none → R.own b = 0 → S'.role b = .none ∧ R'.own b = 0
theorem F2.refl (w : World) (S : DS) (R : RS) : F2 w w S R S R := ⟨rfl, rfl, rfl, Nat.le_refl _, fun _ _ _ _ => rfl, fun _ _ h h' => ⟨h, h'⟩⟩
theorem F2.trans {w w' w'' : World} {S S' S'' : DS} {R R' R'' : RS} (h : F2 w w' S R S' R') (k : F2 w' w'' S' R' S'' R'') : F2 w w'' S R S'' R'' :=
  ⟨k.os.trans h.os, k.tape.trans h.tape, k.output.trans h.output, Nat.le_trans h.size k.size,
   fun b hb h1 h2 => (k.block b (Nat.lt_of_lt_of_le hb h.size) (h.off b hb h1 h2).1 (h.off b hb h1 h2).2).trans (h.block b hb h1 h2),
   fun b hb h1 h2 => k.off b (Nat.lt_of_lt_of_le hb h.size) (h.off b hb h1 h2).1 (h.off b hb h1 h2).2⟩
theorem F2.below {w w' : World} {S : DS} {R : RS} (h : Below w.heap.size w w') : F2 w w' S R S R := ⟨h.os, h.tape, h.output, h.size, fun b hb _ _ => h.block b hb, fun _ _ h1 h2 => ⟨h1, h2⟩⟩
/-- The program's disk is called. -/
structure Mid (w w1 : World) (bd br : Nat) (S S' : DS) (R : RS) : Prop where
  disk : DiskIs w1 bd S'
  ref : RefIs w1 br R
  apart : ∀ b, R.own b ≠ 0 → S'.role b = .none
  f2 : F2 w w1 S R S' R
theorem Two.first {w w1 : World} {bd br : Nat} {S S' : DS} {R : RS} {ro : Int} (h : Two w bd br S R ro) (hD : DiskIs w1 bd S') (hF : Fr w w1 S S') : Mid w w1 bd br S S' R :=
  ⟨hD, h.ref.kept (fun b hb => hF.block b (h.ref.own_lt hb) (h.apart b hb)) hF.size, fun b hb => hF.role b (h.ref.own_lt hb) (h.apart b hb),
   ⟨hF.os, hF.tape, hF.output, hF.size, fun b hb h1 _ => hF.block b hb h1, fun b hb h1 h2 => ⟨hF.role b hb h1, h2⟩⟩⟩
theorem Mid.second {w w1 w2 : World} {bd br : Nat} {S S' : DS} {R R' : RS} (h : Mid w w1 bd br S S' R) (hR : RefIs w2 br R') (hF : RFr w1 w2 R R') : DiskIs w2 bd S' ∧ (∀ b, R'.own b ≠ 0 → S'.role b = .none) ∧ F2 w w2 S R S' R' := by
  have h0 : ∀ b, S'.role b ≠ .none → R.own b = 0 := fun b hb => by
    cases h1 : R.own b with
    | zero => rfl
    | succ n => exact absurd (h.apart b (by rw [h1]; simp)) hb
  refine ⟨h.disk.kept (fun b hb => hF.block b (h.disk.role_lt hb) (h0 b hb)) hF.size, fun b hb => ?_, h.f2.trans ⟨hF.os, hF.tape, hF.output, hF.size, fun b hb _ h2 => hF.block b hb h2, fun b hb h1 h2 => ⟨h1, hF.own b hb h2⟩⟩⟩
  rcases Nat.lt_or_ge b w1.heap.size with h1 | h1
  · exact h.apart b (fun e => hb (hF.own b h1 e))
  · exact h.disk.fresh b h1
theorem Two.next {w w2 : World} {bd br : Nat} {S S' : DS} {R R' : RS} {ro : Int} {ok : Bool} {l : List Tf} (h : Two w bd br S R ro) (hD : DiskIs w2 bd S') (hR : RefIs w2 br R') (hap : ∀ b, R'.own b ≠ 0 → S'.role b = .none) (hp : PS S S' ok l) (hr : RPS R R' ok l) (hw : Wf l ro) (hst : S.steps < 4611686018427387903) (hn : R.n < 4611686018427387903) : Two w2 bd br S' R' ro := by
  have hc := h.pb.cnt
  have hc2 := h.rb.cnt
  unfold Cnt at hc
  unfold Rn at hc2
  refine ⟨hD, ⟨hp.down, hp.plan, ?_, hp.room.trans h.pb.rm, h.pb.r0, by rw [hp.abs]; exact hw⟩, hR, ⟨hr.down, hr.plan, ?_, hr.room.trans h.rb.rm, h.pb.r0, by rw [hr.abs]; exact hw, ?_⟩, by rw [hp.abs, hr.abs], hap⟩
  · unfold Cnt
    rw [hp.armed, hp.steps]
    split <;> omega
  · unfold Rn
    rw [hr.n]
    split <;> omega
  · rw [hr.abs, ← hp.abs]
    exact hD.srt
theorem same_any {w : World} {a b : Value} {xs : List Int} (ha : w.ownsRow 0 5 1 a xs.length (vB xs)) (hb : w.ownsRow 0 5 1 b xs.length (vB xs)) : Calls Try.prog 20 #[a, b] w fun e w' => e = .returned (.bool true) ∧ w' = w := by
  have key : ∀ v, w.ownsRow 0 5 1 v xs.length (vB xs) → (∃ a l c, v = .slice a l c) ∧ (convert 31 9 v).run Try.prog w = .ok (.string (strOfNums xs)) w := fun v hv => by
    rcases hv.2 with ⟨rfl, h0⟩ | ⟨g, cap, cur, rfl, _⟩
    · have hx : xs = [] := List.eq_nil_of_length_eq_zero h0
      subst hx
      exact ⟨⟨_, _, _, rfl⟩, run_convert_bytes_nil w 31 5 Try.underlying31 Try.underlying5 0 0 9 Try.underlying9⟩
    · refine ⟨⟨_, _, _, rfl⟩, run_convert_bytes_arg w 31 5 Try.underlying31 Try.underlying5 g 0 xs.length cap xs rfl (fun i hi => ?_) 9 Try.underlying9⟩
      have := hv.cells (g := g) rfl i (.int .u8 (xs.getD i 0)) (by simp [vB, List.getElem?_eq_getElem hi])
      rw [Addr.add_lit] at this
      exact this
  obtain ⟨⟨_, _, _, rfl⟩, h1⟩ := key a ha
  obtain ⟨⟨_, _, _, rfl⟩, h2⟩ := key b hb
  clear ha hb key
  go_enter Try.func20, Try.ntmps20
  go_wp2
  go_ret
  exact ⟨by simp, rfl⟩
end Go.Proofs.Ytllkpnlgemjgfaa
