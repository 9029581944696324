/- WL0, WL1, KC, KD, laid into one text. -/
import Derived.RangeFuncNested
import Derived.RangeFuncBound
import Derived.RangeFuncCalls
import Derived.RangeFuncLeaves
import Derived.Shelf.Abstract
import Derived.Shelf.RegionOpen
import Derived.OwnWalkIn
import Derived.TacticsInMore
import Derived.LoopNIn
import Derived.LoopIn
import Derived.Test.YtconkienlcegaaaGreatDoorM15
import Derived.Test.YtconkienlcegaaaGreatDoorM4
/- wal: a range over a function whose body writes and may leave; the frames of a file. -/
namespace Go.Proofs.YtconkienlcegaaaGreatDoor
open Go.RowKit Go.Shelf
set_option linter.unusedSimpArgs false
set_option linter.unusedVariables false
/-- How a body may be left: off its end, or by a jump. -/
def offJ (R : World → Prop) (J : Code → World → Prop) : Exit → Act → World → Prop
  | .normal, _, W => R W
  | .ret, _, W => J .ret W
  | .exit id, _, W => J (.exit id) W
  | _, _, _ => False
theorem range_leave {P : Program} {n : Nat} {g : Operand} {ps : Array Tmp} {assign body : Code} {Q : Exit → Act → World → Prop} {a : Act} {w : World} {gf : Nat} {lb : Array Value}
    (hg : a.eval g = .func (.func gf) #[] lb) (eg : ∀ args w, (callFunc gf args).run P w = .ok (.enter gf args) w)
    (h : ∀ (r : Loop) (W1 : World), r.state = .ready → r.pending = none → r.tmps = a.tmps → r.params = ps → r.assign = assign → r.body = body → W1 = (w.alloc (.deferred (some []))).alloc (.loop r) →
      CallsIn Fence.wide (n - 1) P gf (#[.func (.yield (w.heap.size + 1)) #[] #[]] ++ lb) W1 fun e W' => (∃ v, e = .returned v) ∧
        ((W'.heap[w.heap.size + 1]? = some (.loop r) ∧ Q .normal { a with defers := { target := .collected w.heap.size, args := #[] } :: a.defers } (W'.putObj (w.heap.size + 1) (.loop { r with state := .exhausted }))) ∨
         ∃ c : Code, W'.heap[w.heap.size + 1]? = some (.loop { r with state := .done, pending := some c }) ∧ c.wpIn Fence.wide n P Q { a with defers := { target := .collected w.heap.size, args := #[] } :: a.defers } (W'.putObj (w.heap.size + 1) (.loop { r with state := .exhausted, pending := some c })))) :
    (Code.rangeFunc g ps assign body).wpIn Fence.wide n P Q a w := by
  refine wpIn_rangeFunc ?_
  intro fn _
  obtain ⟨r, hr⟩ : ∃ r : Loop, r = { state := .ready, pending := none, fn, tmps := a.tmps, params := ps, assign, body, defers := w.heap.size } := ⟨_, rfl⟩
  refine ⟨w.heap.size + 1, [{ target := .collected w.heap.size, args := #[] }], (w.alloc (.deferred (some []))).alloc (.loop r), { target := .fn (.func gf) lb, args := #[.func (.yield (w.heap.size + 1)) #[] #[]] }, (w.alloc (.deferred (some []))).alloc (.loop r), gf,
    #[.func (.yield (w.heap.size + 1)) #[] #[]] ++ lb, (w.alloc (.deferred (some []))).alloc (.loop r), ?_, ?_, fun _ _ => trivial, ?_, (fun h => by simp [Fence.wide] at h), ?_⟩
  · rw [hr]; exact run_enterLoop_outer _ _ _ _ _
  · simp only [resolve, hg]
    simp [go_sem]
  · simp [invoke, go_sem, eg]
  · refine (h r _ (by rw [hr]) (by rw [hr]) (by rw [hr]) (by rw [hr]) (by rw [hr]) (by rw [hr]) rfl).mono ?_
    rintro e W' ⟨⟨v, rfl⟩, hq⟩
    rcases hq with ⟨hl, hq⟩ | ⟨c, hl, hq⟩
    · have hpe : r.pending = none := by rw [hr]
      have := run_endLoop (P := P) hl (by rw [hr]; simp)
      rw [hpe] at this hq
      exact ⟨none, _, this, hq⟩
    · have := run_endLoop (P := P) hl (by simp)
      exact ⟨some c, _, this, hq⟩
theorem round_leave {P : Program} {m l : Nat} {args : Array Value} {W : World} {r : Loop} {R : World → Prop} {J : Code → World → Prop} (hl : W.heap[l]? = some (.loop r)) (hst : r.state = .ready) (hpe : r.pending = none) (hs : args.size = r.params.size)
    (h : ∀ rb : Loop, Hid (rb = { r with state := .busy }) → r.assign.wpIn (Fence.wide.inRound l) m P (Exit.then (fun a1 W1 => W1.heap[l]? = some (.loop r) ∧
        r.body.wpIn (Fence.wide.inRound l) m P (offJ (fun W3 => W3.heap[l]? = some (.loop rb) ∧ R (W3.putObj l (.loop r))) (fun c W3 => W3.heap[l]? = some (.loop rb) ∧ J c (W3.putObj l (.loop { r with state := .done, pending := some c })))) a1 (W1.putObj l (.loop rb))) (fun _ _ _ => False))
      { tmps := (r.params.zip args).foldl (fun t (p, v) => t.setIfInBounds p v) r.tmps, defers := [] } W) :
    YieldAt Fence.wide m P l args W fun e W' => (e = .returned (.bool true) ∧ R W') ∨ ∃ c, e = .returned (.bool false) ∧ J c W' := by
  refine ⟨r.fn, _, r.assign, r.body, run_yield hl hs, roundIn_of_wpIn trivial (wpIn_mono (h _ rfl) ?_)⟩
  rintro e a1 W1 hp
  cases e with
  | normal =>
    obtain ⟨hl1, hb⟩ := hp
    refine ⟨_, run_beginRound hl1 hst, wpIn_mono hb ?_⟩
    rintro e a3 W3 hq
    cases e with
    | normal =>
      obtain ⟨hl3, hR⟩ := hq
      refine ⟨_, _, run_endRound none hl3, Or.inl ⟨rfl, ?_⟩⟩
      have e1 : ({ ({ r with state := .busy } : Loop) with state := if (none : Option Code).isNone then .ready else .done, pending := none } : Loop) = r := by
        cases r; simp only at hst hpe; subst hst hpe; rfl
      rw [e1]
      exact hR
    | ret =>
      obtain ⟨hl3, hJ⟩ := hq
      exact ⟨_, _, run_endRound (some .ret) hl3, Or.inr ⟨.ret, rfl, hJ⟩⟩
    | exit id =>
      obtain ⟨hl3, hJ⟩ := hq
      exact ⟨_, _, run_endRound (some (.exit id)) hl3, Or.inr ⟨.exit id, rfl, hJ⟩⟩
    | goto t => exact hq.elim
    | panic ch => exact hq.elim
    | outgrown => exact hq.elim
  | ret => exact hp.elim
  | exit id => exact hp.elim
  | goto t => exact hp.elim
  | panic ch => exact hp.elim
  | outgrown => exact hp.elim
theorem slL2 (w : World) (g o n vc l : Nat) (L : Int) (hL : L = l) (hl : l ≤ n) : (Instr.slice 23 (.slice (some ⟨g, o, none⟩) n vc) (some (.int .i64 L)) none none).run Tryz.prog w = .ok (.slice (some ⟨g, if vc = l then o else o + l, none⟩) (n - l) (vc - l)) w := by
  subst hL
  rw [run_slice_l w 23 _ n vc el36 .i64 l (by omega) (by omega), sz36]
  by_cases e : vc = l
  · simp [Result.andThen, sliced, e]
  · simp [Result.andThen, sliced, e, Addr.add_lit]
theorem nx_ok {bs : List Int} (h : (nx bs).1 = 0) : 12 ≤ (nx bs).2.1 ∧ (nx bs).2.1 ≤ bs.length ∧ (nx bs).2.1 = 12 + (nx bs).2.2.length ∧ (nx bs).2.2.length ≤ 65536 := by
  unfold nx at h ⊢
  split at h
  · simp at h
  · rename_i h1
    rw [if_neg h1]
    split at h
    · simp at h
    · rename_i h2
      rw [if_neg h2]
      split at h
      · simp at h
      · rename_i h3
        rw [if_neg h3]
        split at h
        · simp at h
        · rename_i h4
          rw [if_neg h4]
          have h5 : ((bs.drop 12).take (numAt bs 0).toNat).length = (numAt bs 0).toNat := by rw [List.length_take, List.length_drop]; omega
          have h6 : ¬ 65536 < (numAt bs 0).toNat := fun h => h2 (Or.inr h)
          show 12 ≤ 12 + (numAt bs 0).toNat ∧ 12 + (numAt bs 0).toNat ≤ bs.length ∧ 12 + (numAt bs 0).toNat = 12 + ((bs.drop 12).take (numAt bs 0).toNat).length ∧ ((bs.drop 12).take (numAt bs 0).toNat).length ≤ 65536
          rw [h5]
          omega
def slenV : Value → Nat
  | .slice _ n _ => n
  | _ => 0
end Go.Proofs.YtconkienlcegaaaGreatDoor
/- wal: the frames of a file. -/
namespace Go.Proofs.YtconkienlcegaaaGreatDoor
open Go.RowKit Go.Shelf
set_option linter.unusedSimpArgs false
set_option linter.unusedVariables false
set_option maxRecDepth 100000 in
set_option maxHeartbeats 4000000 in
/-- frames$1 -/
theorem frames1_in (m l X : Nat) (ba : Option Addr) (bc : Nat) (bs : List Int) (W0 : World) (J : Nat → World → Prop) (X' : World → Prop)
    (hX : W0.cell? ⟨X, 0, none⟩ = some (.slice ba bs.length bc)) (hc : bs.length ≤ bc) (hm : bc ≤ 9223372036854775807) (hl : bs.length ≤ 140737488355328) (h0 : J 0 W0)
    (hJ : ∀ k W, J k W → BytesV W (.slice ba bs.length bc) bs ∧ Half W)
    (hY : ∀ k W W2 v, k < bs.length → J k W → Below W.heap.size W W2 → W2.ownsRow W.heap.size 5 1 v (nx (bs.drop k)).2.2.length (vB (nx (bs.drop k)).2.2) → YieldAt Fence.wide m Tryz.prog l #[v, .int .i64 (nx (bs.drop k)).1] W2 fun e W' => (e = .returned (.bool true) ∧ (nx (bs.drop k)).1 = 0 ∧ J (k + (nx (bs.drop k)).2.1) W') ∨ (e = .returned (.bool false) ∧ X' W')) :
    CallsIn Fence.wide (m + 1) Tryz.prog 132 #[.func (.yield l) #[] #[], .pointer (some ⟨X, 0, none⟩)] W0 fun e W' => (∃ v, e = .returned v) ∧ (J bs.length W' ∨ X' W') := by
  refine callsIn_of_wp Tryz.func132 rfl trivial ?_ rfl
  simp only [Tryz.ntmps132, List.size_toArray, List.length_cons, List.length_nil, Nat.reduceAdd, Nat.reduceSub, Array.replicate_succ, Array.replicate_zero, List.push_toArray, List.append_toArray, List.nil_append, List.cons_append]
  have HY : Hid _ := hY
  have HJ : Hid _ := hJ
  have H0 : Hid (J 0 W0) := h0
  clear hY hJ h0
  obtain ⟨g0, o0, hba⟩ : ∃ g0 o0, 0 < bs.length → ba = some ⟨g0, o0, none⟩ := by
    by_cases hz : 0 < bs.length
    · obtain ⟨g, o, e, _⟩ := (HJ.out 0 W0 H0.out).1.at (k := 0) (List.getElem?_eq_getElem hz)
      exact ⟨g, o, fun _ => e⟩
    · exact ⟨0, 0, fun h => absurd h hz⟩
  have HBA : Hid (0 < bs.length → ba = some ⟨g0, o0, none⟩) := hba
  clear hba
  gi_wp2
  gi_loopw [3] (fun v wr => ∃ (k : Nat) (a' : Option Addr), k ≤ bs.length ∧ v = .slice a' (bs.length - k) (bc - k) ∧ (k < bs.length → a' = some ⟨g0, o0 + k, none⟩) ∧ J k wr) (fun v _ => slenV v)
  case atStart => exact ⟨0, ba, Nat.zero_le _, rfl, HBA.out, H0.out⟩
  case round =>
    obtain ⟨k, a', hk, rfl, haa, hjk⟩ := hrel
    have hdl : (bs.drop k).length = bs.length - k := by rw [List.length_drop]
    by_cases hlt : k < bs.length
    · obtain rfl := haa hlt
      have hbv : BytesV wr (.slice (some ⟨g0, o0 + k, none⟩) (bs.length - k) (bc - k)) (bs.drop k) := by
        have h1 := (HJ.out k wr hjk).1
        rw [HBA.out (by omega)] at h1
        have h2 := h1.part k (bs.length - k) (bc - k) (by omega)
        rw [List.take_of_length_le (by omega)] at h2
        exact h2
      have HK : Hid (J k wr) := hjk
      have hnx := next_any (HJ.out k wr hjk).2 (some ⟨g0, o0 + k, none⟩) (bc - k) (bs.drop k) (by rw [hdl]; exact hbv) (by rw [hdl]; omega) (by omega) (by rw [hdl]; omega)
      rw [hdl] at hnx
      have HN : Hid _ := hnx
      have hln : (0 : Int) < ((bs.length - k : Nat) : Int) := by omega
      clear hjk hbv hnx haa
      obtain ⟨N, hN⟩ : ∃ N, N = bs.length - k := ⟨_, rfl⟩
      rw [← hN] at hln HN ⊢
      have HNN : Hid (N = bs.length - k) := hN
      clear hN hdl
      have TK : Hid True := trivial
      gi_wp2_with (first
        | (have _ := TK
           refine ⟨trivial, ?_⟩
           gi_at_call 133
           clear TK
           refine (callsIn_wide.2 HN.out).mono ?_
           rintro e w2 ⟨v2, rfl, ho2, hb2⟩
           have H2 : Hid (w2.ownsRow wr.heap.size 5 1 v2 (nx (bs.drop k)).2.2.length (vB (nx (bs.drop k)).2.2) ∧ Below wr.heap.size wr w2) := ⟨ho2, hb2⟩
           obtain ⟨fn, tmps, assign, body, hy, hR⟩ := HY.out k wr w2 v2 hlt HK.out hb2 ho2
           clear ho2 hb2))
      refine hR.mono ?_
      rintro e W5 (⟨rfl, hz, hj5⟩ | ⟨rfl, hx5⟩)
      · obtain ⟨q1, q2, q3, q4⟩ := nx_ok hz
        have hdl : (bs.drop k).length = bs.length - k := by rw [List.length_drop]
        rw [hdl] at q2
        obtain ⟨n, hn⟩ : ∃ n, n = (nx (bs.drop k)).2.1 := ⟨_, rfl⟩
        rw [← hn] at q1 q2 hj5 ⊢
        have hsl := fun w' => slL2 w' g0 (o0 + k) N (bc - k) n n rfl (by rw [HNN.out]; exact q2)
        have H5 : Hid (J (k + n) W5 ∧ n ≤ bs.length - k ∧ 12 ≤ n) := ⟨hj5, q2, q1⟩
        clear hj5 q1 q2 q3 q4 hn hR hy hdl
        gi_wp2
        go_roundw
        case rel =>
          have hNN := HNN.out
          have h5 := H5.out
          refine ⟨k + n, some ⟨g0, if bc - k = n then o0 + k else o0 + k + n, none⟩, by omega, by rw [hNN, Nat.sub_sub, Nat.sub_sub], fun hkn => ?_, h5.1⟩
          rw [if_neg (by omega), Nat.add_assoc]
        case measure => simp [slenV]; have := H5.out; have := HNN.out; omega
      · clear hR hy
        have HX5 : Hid (X' W5) := hx5
        clear hx5
        gi_wp2
        (try simp only [Exit.inBlock, Exit.then])
        refine bodyPost_ret (results_none rfl _ _ _) rfl ?_
        exact ⟨⟨_, rfl⟩, Or.inr HX5.out⟩
    · obtain rfl : k = bs.length := by omega
      have HJ2 : Hid (J bs.length wr) := hjk
      clear hjk haa hdl
      rw [Nat.sub_self]
      gi_wp2
      go_end0
      exact ⟨⟨_, rfl⟩, Or.inl HJ2.out⟩
end Go.Proofs.YtconkienlcegaaaGreatDoor
/- kv: the changes of a record, one behind the other. -/
namespace Go.Proofs.YtconkienlcegaaaGreatDoor
open Go.RowKit Go.Shelf
set_option linter.unusedSimpArgs false
set_option linter.unusedVariables false
/-- What the body makes of what comes next. -/
def KY (m l : Nat) (r : Option (Ch × Nat)) (k : Nat) (W W2 : World) (J : Nat → World → Prop) (X' : World → Prop) : Prop :=
  match r with
  | none => YieldAt Fence.wide m Tryz.prog l #[.agg #[.slice none 0 0, .slice none 0 0, .bool false], .int .i64 34] W2 fun e W' => (∃ q, e = .returned (.bool q)) ∧ X' W'
  | some (c, n) => ∀ vk vv, BytesV W vk c.key → BytesV W vv c.val → YieldAt Fence.wide m Tryz.prog l #[.agg #[vk, vv, .bool c.gone], .int .i64 0] W2 fun e W' => (e = .returned (.bool true) ∧ J (k + n) W') ∨ (e = .returned (.bool false) ∧ X' W')
theorem BytesV.form' {w : World} {v : Value} {bs : List Int} (h : BytesV w v bs) : ∃ a c, v = .slice a bs.length c := by
  rcases h with ⟨rfl, rfl⟩ | ⟨ad, c, rfl, _⟩
  · exact ⟨none, 0, rfl⟩
  · exact ⟨_, _, rfl⟩
set_option maxRecDepth 100000 in
set_option maxHeartbeats 4000000 in
/-- changes$1 -/
theorem changes1_in (m l X : Nat) (ba : Option Addr) (bc : Nat) (bs : List Int) (W0 : World) (J : Nat → World → Prop) (X' : World → Prop)
    (hX : W0.cell? ⟨X, 0, none⟩ = some (.slice ba bs.length bc)) (hc : bs.length ≤ bc) (hm : bc ≤ 9223372036854775807) (hl : bs.length ≤ 140737488355328) (hkb : KByt bs) (h0 : J 0 W0)
    (hJ : ∀ k W, J k W → BytesV W (.slice ba bs.length bc) bs)
    (hY : ∀ k W W2, k < bs.length → J k W → Below W.heap.size W W2 → KY m l (nxC (bs.drop k)) k W W2 J X') :
    CallsIn Fence.wide (m + 1) Tryz.prog 97 #[.func (.yield l) #[] #[], .pointer (some ⟨X, 0, none⟩)] W0 fun e W' => (∃ v, e = .returned v) ∧ (J bs.length W' ∨ X' W') := by
  refine callsIn_of_wp Tryz.func97 rfl trivial ?_ rfl
  simp only [Tryz.ntmps97, List.size_toArray, List.length_cons, List.length_nil, Nat.reduceAdd, Nat.reduceSub, Array.replicate_succ, Array.replicate_zero, List.push_toArray, List.append_toArray, List.nil_append, List.cons_append]
  have HY : Hid _ := hY
  have HJ : Hid _ := hJ
  have HKB : Hid (KByt bs) := hkb
  have H0 : Hid (J 0 W0) := h0
  clear hY hJ h0 hkb
  obtain ⟨g0, o0, hba⟩ : ∃ g0 o0, 0 < bs.length → ba = some ⟨g0, o0, none⟩ := by
    by_cases hz : 0 < bs.length
    · obtain ⟨g, o, e, _⟩ := (HJ.out 0 W0 H0.out).at (k := 0) (List.getElem?_eq_getElem hz)
      exact ⟨g, o, fun _ => e⟩
    · exact ⟨0, 0, fun h => absurd h hz⟩
  have HBA : Hid (0 < bs.length → ba = some ⟨g0, o0, none⟩) := hba
  clear hba
  gi_wp2
  gi_loopw [3] (fun v wr => ∃ (k : Nat) (a' : Option Addr), k ≤ bs.length ∧ v = .slice a' (bs.length - k) (bc - k) ∧ (k < bs.length → a' = some ⟨g0, o0 + k, none⟩) ∧ J k wr) (fun v _ => slenV v)
  case atStart => exact ⟨0, ba, Nat.zero_le _, rfl, HBA.out, H0.out⟩
  case round =>
    obtain ⟨k, a', hk, rfl, haa, hjk⟩ := hrel
    have hdl : (bs.drop k).length = bs.length - k := by rw [List.length_drop]
    by_cases hlt : k < bs.length
    · obtain rfl := haa hlt
      have hbv : BytesV wr (.slice (some ⟨g0, o0 + k, none⟩) (bs.length - k) (bc - k)) (bs.drop k) := by
        have h1 := HJ.out k wr hjk
        rw [HBA.out (by omega)] at h1
        have h2 := h1.part k (bs.length - k) (bc - k) (by omega)
        rw [List.take_of_length_le (by omega)] at h2
        exact h2
      have HK : Hid (J k wr) := hjk
      have hnx := knext_any (w := wr) (g := g0) (o := o0 + k) (cap := bc - k) (bs := bs.drop k) (by rw [hdl]; exact hbv) (HKB.out.drop k) (by rw [hdl]; omega) (by omega) (by rw [hdl]; omega)
      rw [hdl] at hnx
      have HN : Hid _ := hnx
      have hln : (0 : Int) < ((bs.length - k : Nat) : Int) := by omega
      clear hjk hbv hnx haa
      obtain ⟨N, hN⟩ : ∃ N, N = bs.length - k := ⟨_, rfl⟩
      rw [← hN] at hln HN ⊢
      have HNN : Hid (N = bs.length - k) := hN
      clear hN hdl
      obtain ⟨R, hR⟩ : ∃ R, R = nxC (bs.drop k) := ⟨_, rfl⟩
      rw [← hR] at HN
      have hY2 : ∀ W2, Below wr.heap.size wr W2 → KY m l R k wr W2 J X' := fun W2 hb => by rw [hR]; exact HY.out k wr W2 hlt HK.out hb
      have HRR : Hid (R = nxC (bs.drop k)) := hR
      clear hR
      have TK : Hid True := trivial
      cases R with
      | none =>
        have HY2 : Hid (∀ W2, Below wr.heap.size wr W2 → YieldAt Fence.wide m Tryz.prog l #[.agg #[.slice none 0 0, .slice none 0 0, .bool false], .int .i64 34] W2 fun e W' => (∃ q, e = .returned (.bool q)) ∧ X' W') := hY2
        clear hY2
        gi_wp2_with (first
          | (have _ := TK
             refine ⟨trivial, ?_⟩
             gi_at_call 98
             clear TK
             refine (callsIn_wide.2 HN.out).mono ?_
             rintro e w2 ⟨hb2, he2⟩
             obtain rfl : e = .returned (.tuple #[.agg #[.slice none 0 0, .slice none 0 0, .bool false], .int .i64 0, .int .i64 34]) := he2
             obtain ⟨fn, tmps, assign, body, hy, hR⟩ := HY2.out (w2.alloc (.cells #[.slice none 0 0, .slice none 0 0, .bool false] 90)) (hb2.alloc hb2.size _)
             clear hb2))
        refine hR.mono ?_
        rintro e W5 ⟨⟨q, rfl⟩, hx5⟩
        clear hR hy
        have HX5 : Hid (X' W5) := hx5
        clear hx5
        cases q
        · gi_wp2
          (try simp only [Exit.inBlock, Exit.then])
          refine bodyPost_ret (results_none rfl _ _ _) rfl ?_
          exact ⟨⟨_, rfl⟩, Or.inr HX5.out⟩
        · gi_wp2
          (try simp only [Exit.inBlock, Exit.then])
          refine bodyPost_ret (results_none rfl _ _ _) rfl ?_
          exact ⟨⟨_, rfl⟩, Or.inr HX5.out⟩
      | some q =>
        obtain ⟨c, n⟩ := q
        have HY2 : Hid (∀ W2, Below wr.heap.size wr W2 → ∀ vk vv, BytesV wr vk c.key → BytesV wr vv c.val → YieldAt Fence.wide m Tryz.prog l #[.agg #[vk, vv, .bool c.gone], .int .i64 0] W2 fun e W' => (e = .returned (.bool true) ∧ J (k + n) W') ∨ (e = .returned (.bool false) ∧ X' W')) := hY2
        clear hY2
        obtain ⟨cg, hcg⟩ : ∃ cg, cg = c.gone := ⟨_, rfl⟩
        rw [← hcg] at HY2
        have HCG : Hid (cg = c.gone) := hcg
        clear hcg
        gi_wp2_with (first
          | (have _ := TK
             refine ⟨trivial, ?_⟩
             gi_at_call 98
             clear TK
             refine (callsIn_wide.2 HN.out).mono ?_
             rintro e w2 ⟨hb2, vk, vv, rfl, hvk, hvv⟩
             obtain ⟨ak, ck, rfl⟩ := hvk.form'
             obtain ⟨av, cv, rfl⟩ := hvv.form'
             obtain ⟨nk, hnk⟩ : ∃ nk, nk = c.key.length := ⟨_, rfl⟩
             obtain ⟨nv, hnv⟩ : ∃ nv, nv = c.val.length := ⟨_, rfl⟩
             rw [← hnk] at hvk
             rw [← hnv] at hvv
             rw [← HCG.out, ← hnk, ← hnv]
             obtain ⟨fn, tmps, assign, body, hy, hR⟩ := HY2.out (w2.alloc (.cells #[.slice ak nk ck, .slice av nv cv, .bool cg] 90)) (hb2.alloc hb2.size _) _ _ hvk hvv
             clear hb2 hvk hvv hnk hnv))
        refine hR.mono ?_
        rintro e W5 (⟨rfl, hj5⟩ | ⟨rfl, hx5⟩)
        · have q := nxC_ok (HKB.out.drop k) HRR.out.symm
          have q2 := q.2.1
          have q1 := q.2.2.1
          rw [List.length_drop] at q2
          have hsl := fun w' => slL2 w' g0 (o0 + k) N (bc - k) n n rfl (by rw [HNN.out]; exact q2)
          have H5 : Hid (J (k + n) W5 ∧ n ≤ bs.length - k ∧ 7 ≤ n) := ⟨hj5, q2, q1⟩
          clear hj5 q1 q2 q hR hy
          gi_wp2
          go_roundw
          case rel =>
            have hNN := HNN.out
            have h5 := H5.out
            refine ⟨k + n, some ⟨g0, if bc - k = n then o0 + k else o0 + k + n, none⟩, by omega, by rw [hNN, Nat.sub_sub, Nat.sub_sub], fun hkn => ?_, h5.1⟩
            rw [if_neg (by omega), Nat.add_assoc]
          case measure => simp [slenV]; have := H5.out; have := HNN.out; omega
        · clear hR hy
          have HX5 : Hid (X' W5) := hx5
          clear hx5
          gi_wp2
          (try simp only [Exit.inBlock, Exit.then])
          refine bodyPost_ret (results_none rfl _ _ _) rfl ?_
          exact ⟨⟨_, rfl⟩, Or.inr HX5.out⟩
    · obtain rfl : k = bs.length := by omega
      have HJ2 : Hid (J bs.length wr) := hjk
      clear hjk haa hdl
      rw [Nat.sub_self]
      gi_wp2
      go_end0
      exact ⟨⟨_, rfl⟩, Or.inl HJ2.out⟩
end Go.Proofs.YtconkienlcegaaaGreatDoor
/- kv: changes in memory; slices.Values over them. -/
namespace Go.Proofs.YtconkienlcegaaaGreatDoor
open Go.RowKit Go.Shelf
set_option linter.unusedSimpArgs false
set_option linter.unusedVariables false
/-- Bytes in blocks of which D is true. -/
structure KBD (w : World) (D : Nat → Prop) (v : Value) (bs : List Int) : Prop where
  is : BytesV w v bs
  d : ∀ b, dBlock v bs = some b → D b
  len : bs.length ≤ 140737488355328
theorem KBD.mono {w w' : World} {D D' : Nat → Prop} {v : Value} {bs : List Int} (h : KBD w D v bs) (hk : ∀ b, D b → w'.heap[b]? = w.heap[b]?) (hd : ∀ b, D b → D' b) : KBD w' D' v bs :=
  ⟨h.is.keep fun b hb => hk b (h.d b hb), fun b hb => hd b (h.d b hb), h.len⟩
/-- Changes that lie in memory. -/
inductive ChsV (w : World) (D : Nat → Prop) : Value → List Ch → Prop where
  | mk (l : List Ch) (a : Option Addr) (cap g o : Nat) (kk vv : Nat → Value) (hc : l.length ≤ cap) (hm : cap ≤ 9223372036854775807) (hl : l.length * 56 ≤ 140737488355328)
      (ha : 0 < l.length → a = some ⟨g, o, none⟩) (hd : 0 < l.length → D g)
      (h0 : ∀ i c, l[i]? = some c → w.cell? ⟨g, o + i * 3, none⟩ = some (kk i)) (h1 : ∀ i c, l[i]? = some c → w.cell? ⟨g, o + i * 3 + 1, none⟩ = some (vv i)) (h2 : ∀ i c, l[i]? = some c → w.cell? ⟨g, o + i * 3 + 2, none⟩ = some (.bool c.gone))
      (hk : ∀ i c, l[i]? = some c → KBD w D (kk i) c.key) (hv : ∀ i c, l[i]? = some c → KBD w D (vv i) c.val) : ChsV w D (.slice a l.length cap) l
theorem ChsV.mono {w w' : World} {D D' : Nat → Prop} {v : Value} {l : List Ch} (h : ChsV w D v l) (hk : ∀ b, D b → w'.heap[b]? = w.heap[b]?) (hd : ∀ b, D b → D' b) : ChsV w' D' v l := by
  cases h with
  | mk _ a cap g o kk vv hc hm hl ha hdd h0 h1 h2 hkk hvv =>
    have hp : ∀ i c, l[i]? = some c → 0 < l.length := fun i x hx => by have := (List.getElem?_eq_some_iff.1 hx).1; omega
    refine .mk l a cap g o kk vv hc hm hl ha (fun h => hd g (hdd h)) (fun i x hx => ?_) (fun i x hx => ?_) (fun i x hx => ?_) (fun i x hx => (hkk i x hx).mono hk hd) (fun i x hx => (hvv i x hx).mono hk hd)
    · rw [World.cell?_of_block (hk g (hdd (hp i x hx)))]; exact h0 i x hx
    · rw [World.cell?_of_block (hk g (hdd (hp i x hx)))]; exact h1 i x hx
    · rw [World.cell?_of_block (hk g (hdd (hp i x hx)))]; exact h2 i x hx
theorem ChsV.form {w : World} {D : Nat → Prop} {v : Value} {l : List Ch} (h : ChsV w D v l) : ∃ a cap, v = .slice a l.length cap ∧ l.length ≤ cap ∧ cap ≤ 9223372036854775807 ∧ l.length * 56 ≤ 140737488355328 := by
  cases h with
  | mk _ a cap g o kk vv hc hm hl => exact ⟨a, cap, rfl, hc, hm, hl⟩
theorem ChsV.bd {w : World} {D : Nat → Prop} {a : Option Addr} {n cap : Nat} {l : List Ch} (h : ChsV w D (.slice a n cap) l) : l.length ≤ cap ∧ cap ≤ 9223372036854775807 ∧ l.length * 56 ≤ 140737488355328 := by
  cases h with
  | mk _ _ _ g o kk vv hc hm hl => exact ⟨hc, hm, hl⟩
theorem ChsV.at {w : World} {D : Nat → Prop} {a : Option Addr} {n cap : Nat} {l : List Ch} (h : ChsV w D (.slice a n cap) l) {i : Nat} {c : Ch} (hx : l[i]? = some c) :
    ∃ g o vk vv, a = some ⟨g, o, none⟩ ∧ D g ∧ w.cell? ⟨g, o + i * 3, none⟩ = some vk ∧ w.cell? ⟨g, o + i * 3 + 1, none⟩ = some vv ∧ w.cell? ⟨g, o + i * 3 + 2, none⟩ = some (.bool c.gone) ∧ KBD w D vk c.key ∧ KBD w D vv c.val := by
  have hp : 0 < l.length := by have := (List.getElem?_eq_some_iff.1 hx).1; omega
  cases h with
  | mk _ _ _ g o kk vv hc hm hl ha hd h0 h1 h2 hk hv => exact ⟨g, o, kk i, vv i, ha hp, hd hp, h0 i c hx, h1 i c hx, h2 i c hx, hk i c hx, hv i c hx⟩
theorem ChsV.up {w w' : World} {v : Value} {l : List Ch} (h : ChsV w (fun b => b < w.heap.size) v l) (hb : Below w.heap.size w w') : ChsV w' (fun b => b < w'.heap.size) v l := h.mono (fun b hb' => hb.block b hb') (fun b hb' => Nat.lt_of_lt_of_le hb' hb.size)
set_option maxRecDepth 100000 in
set_option maxHeartbeats 4000000 in
/-- slices.Values$1 -/
theorem values1_in (m l X : Nat) (a : Option Addr) (cap : Nat) (cs : List Ch) (W0 : World) (J : Nat → World → Prop) (X' : World → Prop) (D : Nat → Prop)
    (hX : W0.cell? ⟨X, 0, none⟩ = some (.slice a cs.length cap)) (h0 : J 0 W0)
    (hJ : ∀ k W, J k W → ChsV W D (.slice a cs.length cap) cs)
    (hY : ∀ k W W2 c vk vv, cs[k]? = some c → J k W → Below W.heap.size W W2 → KBD W D vk c.key → KBD W D vv c.val → YieldAt Fence.wide m Tryz.prog l #[.agg #[vk, vv, .bool c.gone]] W2 fun e W' => (e = .returned (.bool true) ∧ J (k + 1) W') ∨ (e = .returned (.bool false) ∧ X' W')) :
    CallsIn Fence.wide (m + 1) Tryz.prog 96 #[.func (.yield l) #[] #[], .pointer (some ⟨X, 0, none⟩)] W0 fun e W' => (∃ v, e = .returned v) ∧ (J cs.length W' ∨ X' W') := by
  refine callsIn_of_wp Tryz.func96 rfl trivial ?_ rfl
  simp only [Tryz.ntmps96, List.size_toArray, List.length_cons, List.length_nil, Nat.reduceAdd, Nat.reduceSub, Array.replicate_succ, Array.replicate_zero, List.push_toArray, List.append_toArray, List.nil_append, List.cons_append]
  have HY : Hid _ := hY
  have HJ : Hid _ := hJ
  have H0 : Hid (J 0 W0) := h0
  obtain ⟨i1, i2, i3⟩ := (hJ 0 W0 h0).bd
  obtain ⟨N, hN⟩ : ∃ N, N = cs.length := ⟨_, rfl⟩
  rw [← hN] at hX i1 i3
  have HN : Hid (N = cs.length) := hN
  clear hY hJ h0 hN
  gi_wp2
  gi_loopw [7] (fun v wr => ∃ k : Nat, k ≤ N ∧ v = .int .i64 k ∧ J k wr) (fun v _ => N - (intOf v).toNat)
  case atStart => exact ⟨0, Nat.zero_le _, rfl, H0.out⟩
  case round =>
    obtain ⟨k, hk, rfl, hjk⟩ := hrel
    have HK : Hid (J k wr) := hjk
    clear hjk
    by_cases hlt : k < N
    · obtain ⟨c, hc⟩ : ∃ c, cs[k]? = some c := ⟨_, List.getElem?_eq_getElem (by have := HN.out; omega)⟩
      obtain ⟨g, o, vk, vv, rfl, hg, p0, p1, p2, hvk, hvv⟩ := (HJ.out k wr HK.out).at hc
      obtain ⟨ak, ck, rfl⟩ := hvk.is.form'
      obtain ⟨av, cv, rfl⟩ := hvv.is.form'
      obtain ⟨nk, hnk⟩ : ∃ nk, nk = c.key.length := ⟨_, rfl⟩
      obtain ⟨nv, hnv⟩ : ∃ nv, nv = c.val.length := ⟨_, rfl⟩
      obtain ⟨cg, hcg⟩ : ∃ cg, cg = c.gone := ⟨_, rfl⟩
      rw [← hnk] at p0 hvk
      rw [← hnv] at p1 hvv
      rw [← hcg] at p2
      have hbx : Below wr.heap.size wr (wr.alloc (.cells #[.slice ak nk ck, .slice av nv cv, .bool cg] 90)) := by go_grown
      obtain ⟨fn, tmps, assign, body, hy, hR⟩ := HY.out k wr (wr.alloc (.cells #[.slice ak nk ck, .slice av nv cv, .bool cg] 90)) c _ _ hc HK.out hbx hvk hvv
      rw [← hcg] at hy
      have hki : (k : Int) < N := by omega
      clear hc hvk hvv hnk hnv hcg hbx
      gi_wp2
      refine hR.mono ?_
      rintro e W5 (⟨rfl, hj5⟩ | ⟨rfl, hx5⟩)
      · have H5 : Hid (J (k + 1) W5) := hj5
        clear hj5 hR hy
        gi_wp2
        go_roundw
        case rel => exact ⟨k + 1, by omega, by go_num, H5.out⟩
        case measure => simp [intOf]; omega
      · have HX5 : Hid (X' W5) := hx5
        clear hx5 hR hy
        gi_wp2
        (try simp only [Exit.inBlock, Exit.then])
        refine bodyPost_ret (results_none rfl _ _ _) rfl ?_
        exact ⟨⟨_, rfl⟩, Or.inr HX5.out⟩
    · obtain rfl : k = N := by omega
      have hki : ¬ (k : Int) < k := by omega
      have HJ2 : Hid (J cs.length wr) := by rw [← HN.out]; exact HK.out
      clear HK
      gi_wp2
      go_end0
      exact ⟨⟨_, rfl⟩, Or.inl HJ2.out⟩
end Go.Proofs.YtconkienlcegaaaGreatDoor
