/- ShaSums: the walk. -/
import Derived.Test.YtkenaccagcdofaaA2
import Derived.Test.YtkenaccagcdofaaS3
import Derived.Laws.StructEq
namespace Go.Proofs.Ytkenaccagcdofaa
open Go.RowKit Go.Shelf
set_option linter.unusedSimpArgs false
set_option linter.unusedVariables false

theorem eq_vec_same {P : Program} (d t e n : Nat) (ht : P.underlying t = some (.array n e)) (hs : ∀ w, (sizeOf e).run P w = .ok 1 w) (ha : ∀ w, (isAgg e).run P w = .ok false w) (f : Nat → Value)
    (hf : ∀ i, i < n → ∀ w, (Op.equalIn d e (f i) (f i)).run P w = .ok true w) (w : World) :
    (Op.equalIn (d + 1) t (.agg (vec n f)) (.agg (vec n f))).run P w = .ok true w := by
  rw [Op.equalIn]
  simp only [Sem.run_bind, run_underlying ht, Result.andThen_ok, hs, Std.Legacy.Range.forIn_eq_forIn_range']
  have hl : ∀ l : List Nat, (∀ i ∈ l, i < n) → (forIn (m := Sem) l ((none : Option Bool), ()) fun i __s => do
            let __do_lift ← part e (vec n f) (i * 1)
            let __do_lift_1 ← part e (vec n f) (i * 1)
            let __do_lift ← Op.equalIn d e __do_lift __do_lift_1
            if (!__do_lift) = true then pure (ForInStep.done (some false, ())) else pure (ForInStep.yield ((none : Option Bool), ()))).run P w = .ok (none, ()) w := by
    intro l
    induction l with
    | nil => intro _; simp
    | cons i l ih =>
      intro hi
      have h1 : i < n := hi i (by simp)
      have h2 := ih (fun j hj => hi j (by simp [hj]))
      have hp : (part e (vec n f) (i * 1)).run P w = .ok (f i) w := by
        simp [part, Sem.run_bind, ha, get_vec n f i h1]
      rw [List.forIn_cons]
      simp only [Sem.run_bind, hp, Result.andThen_ok, hf i h1, Bool.not_true, Bool.false_eq_true, if_false, Sem.run_pure]
      exact h2
  rw [hl _ (fun i hi => by simp at hi; omega)]
  simp
theorem eq_row {P : Program} (t e n : Nat) (ht : P.underlying t = some (.array n e)) (hs : ∀ w, (sizeOf e).run P w = .ok 1 w) (ha : ∀ w, (isAgg e).run P w = .ok false w) (k : IntKind) (he : P.underlying e = some (.int k)) (x : Nat → Int) (w : World) :
    (Op.equalIn 10000 t (.agg (vec n fun j => .int k (x j))) (.agg (vec n fun j => .int k (x j)))).run P w = .ok true w :=
  eq_vec_same 9999 t e n ht hs ha _ (fun i _ w => by rw [run_equalIn_int w 9998 e k k _ _ he]; simp) w
theorem eq_dig (m : Nat → BitVec 8) (w : World) : (Op.equalIn 10000 23 (.agg (vec 64 (byt m))) (.agg (vec 64 (byt m)))).run Try.prog w = .ok true w :=
  eq_row 23 5 64 Try.underlying23 Try.sizeOf5 Try.isAgg5 .u8 Try.underlying5 (fun j => I8 (m j)) w
set_option maxRecDepth 100000 in
set_option maxHeartbeats 2000000 in
theorem ssums_any (ao : Option Addr) (len cap : Nat) (msg : Nat → BitVec 8) (W : World) (hby : Bytes W ao len cap msg) (hno : ao = none → len = 0 ∧ cap = 0) :
    Calls Try.prog 3 #[.slice ao len cap] W fun e w' => e = .returned (.bool true) ∧ Below W.heap.size W w' := by
  have H0 : Hid (Bytes W ao len cap msg) := hby
  have HC : Hid ((∀ w, Bytes w ao len cap msg → Calls Try.prog 6 #[.slice ao len cap] w fun e w' => e = .returned (.agg (vec 64 (byt (digest msg len)))) ∧ Below w.heap.size w w') ∧ (∀ w, Bytes w ao len cap msg → Calls Try.prog 7 #[.slice ao len cap] w fun e w' => e = .returned (.agg (vec 64 (byt (digest msg len)))) ∧ Below w.heap.size w w')) :=
    ⟨fun w h2 => sum_any ao len cap msg w h2, fun w h => rsum_any ao len cap msg w h hno⟩
  clear hby hno
  generalize digest msg len = D at HC
  go_enter Try.func3, Try.ntmps3
  go_wp2_with fail
  refine (HC.out.1 _ H0.out).mono ?_
  rintro e w1 ⟨rfl, hb1⟩
  have hB1 : Bytes w1 ao len cap msg := H0.out.below hb1
  go_wp2_with fail
  refine (HC.out.2 _ hB1).mono ?_
  rintro e w2 ⟨rfl, hb2⟩
  have hb3 : Below W.heap.size W w2 := hb1.trans (hb2.mono hb1.size)
  have q := eq_dig D w2
  have Hb : Hid _ := hb3
  clear hb1 hb2 hB1 hb3
  go_wp2_with (first | (go_at_call 8; refine (alive_any _).mono ?_; rintro e w3 ⟨rfl, hb4⟩))
  go_ret
  exact ⟨rfl, Hb.out.trans (hb4.mono Hb.out.size)⟩
end Go.Proofs.Ytkenaccagcdofaa
