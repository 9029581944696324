/- Arrays that are the same are equal. -/
import Derived.Test.YtmhfgchckebnpaaDoorKN
import Derived.Laws.StructEq
namespace Go.Proofs.YtmhfgchckebnpaaDoor
open Go.RowKit Go.Shelf

theorem eq_vec_same {P : Program} (d t e n : Nat) (ht : P.underlying t = some (.array n e)) (hs : ∀ w, (sizeOf e).run P w = .ok 1 w) (ha : ∀ w, (isAgg e).run P w = .ok false w) (f : Nat → Value)
    (hf : ∀ i, i < n → ∀ w, (Op.equalIn d e (f i) (f i)).run P w = .ok true w) (w : World) :
    (Op.equalIn (d + 1) t (.agg (vec n f)) (.agg (vec n f))).run P w = .ok true w := by
  rw [Op.equalIn]
  simp only [Sem.run_bind, run_underlying ht, Result.andThen_ok, hs, Std.Legacy.Range.forIn_eq_forIn_range']
  have hl : ∀ l : List Nat, (∀ i ∈ l, i < n) → (forIn (m := Sem) l ((none : Option Bool), ()) fun i __s => do
            let __do_lift ← part e (vec n f) (i * 1)
            let __do_lift_1 ← part e (vec n f) (i * 1)
            let __do_lift ← Op.equalIn d e __do_lift __do_lift_1
            if (!__do_lift) = true then pure (ForInStep.done (some false, ())) else pure (ForInStep.yield ((none : Option Bool), ()))).run P w = .ok (none, ()) w := by
    intro l
    induction l with
    | nil => intro _; simp
    | cons i l ih =>
      intro hi
      have h1 : i < n := hi i (by simp)
      have h2 := ih (fun j hj => hi j (by simp [hj]))
      have hp : (part e (vec n f) (i * 1)).run P w = .ok (f i) w := by
        simp [part, Sem.run_bind, ha, get_vec n f i h1]
      rw [List.forIn_cons]
      simp only [Sem.run_bind, hp, Result.andThen_ok, hf i h1, Bool.not_true, Bool.false_eq_true, if_false, Sem.run_pure]
      exact h2
  rw [hl _ (fun i hi => by simp at hi; omega)]
  simp
theorem eq_row {P : Program} (t e n : Nat) (ht : P.underlying t = some (.array n e)) (hs : ∀ w, (sizeOf e).run P w = .ok 1 w) (ha : ∀ w, (isAgg e).run P w = .ok false w) (k : IntKind) (he : P.underlying e = some (.int k)) (x : Nat → Int) (w : World) :
    (Op.equalIn 10000 t (.agg (vec n fun j => .int k (x j))) (.agg (vec n fun j => .int k (x j)))).run P w = .ok true w :=
  eq_vec_same 9999 t e n ht hs ha _ (fun i _ w => by rw [run_equalIn_int w 9998 e k k _ _ he]; simp) w
theorem eq23 (S : Nat → BitVec 64) (w : World) : (Op.equalIn 10000 23 (.agg (vec 25 (lan S))) (.agg (vec 25 (lan S)))).run Tryd.prog w = .ok true w :=
  eq_row 23 22 25 Tryd.underlying23 Tryd.sizeOf22 Tryd.isAgg22 .u64 Tryd.underlying22 (fun j => I (S j)) w
theorem eq29 (m : Nat → BitVec 8) (w : World) : (Op.equalIn 10000 29 (.agg (vec 32 (byt m))) (.agg (vec 32 (byt m)))).run Tryd.prog w = .ok true w :=
  eq_row 29 5 32 Tryd.underlying29 Tryd.sizeOf5 Tryd.isAgg5 .u8 Tryd.underlying5 (fun j => I8 (m j)) w
end Go.Proofs.YtmhfgchckebnpaaDoor
