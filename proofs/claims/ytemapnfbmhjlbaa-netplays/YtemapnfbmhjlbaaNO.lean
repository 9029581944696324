/- net: Send; place. -/
import Derived.Test.YtemapnfbmhjlbaaNN
namespace Go.Proofs.Ytemapnfbmhjlbaa
open Go.RowKit Go.Maps Go.Joins
set_option linter.unusedSimpArgs false
set_option linter.unusedVariables false
def nSend (A : NA) (fr to : Int) (bs : List Int) : Int × NA :=
  if isB A.nodes fr = false then (1, A) else if isB A.nodes to = false then (1, A) else if 65536 < bs.length then (3, A) else if 4096 ≤ A.fl.length then (3, A) else (0, nPut A fr to bs)
/-- What a call that answers with a code makes of a net. -/
def StR (w : World) (b : Nat) (N : NS) (R : Int × NA) (e : Ending) (w' : World) : Prop := e = .returned (.int .i64 R.1) ∧ ∃ N', NetIs w' b N' ∧ NFr w w' N N' ∧ absN N' = R.2
theorem put_any {w : World} {b : Nat} {N : NS} (h : NetIs w b N) (ho : NOk N) (id fr to : Int) (dv : Value) (bs : List Int) (hd : BytesV w dv bs) (hl : bs.length ≤ 65536) :
    Calls Try.prog 30 #[.pointer (some ⟨b, 0, none⟩), .agg #[.int .i64 id, .int .i64 fr, .int .i64 to, dv]] w fun e w' => StR w b N (if 4096 ≤ (absN N).fl.length then (3, absN N) else (0, nPut (absN N) fr to bs)) e w' := by
  have hfl : (absN N).fl.length = N.fl.length := by simp [absN]
  by_cases hf : 4096 ≤ N.fl.length
  · refine (put_full h hf id fr to dv).mono ?_
    rintro e w' ⟨rfl, hb⟩
    rw [if_pos (by rw [hfl]; exact hf)]
    exact ⟨rfl, N, h.below hb, NFr.below hb, rfl⟩
  · refine (put_ok h (by omega) ho.nx id fr to dv bs hd hl).mono ?_
    rintro e w' ⟨rfl, N', h1, h2, h3⟩
    rw [if_neg (by rw [hfl]; exact hf)]
    exact ⟨rfl, N', h1, h2, h3⟩
theorem send_nil (w : World) (x y : Int) (v : Value) : Calls Try.prog 11 #[.pointer none, .int .i64 x, .int .i64 y, v] w fun e w' => e = .returned (.int .i64 2) ∧ w' = w := by
  go_enter Try.func11, Try.ntmps11
  go_wp2
  go_ret
  exact ⟨rfl, rfl⟩
set_option maxRecDepth 100000 in
set_option maxHeartbeats 4000000 in
/-- Send -/
theorem send_any {w : World} {b : Nat} {N : NS} (h : NetIs w b N) (ho : NOk N) (fr to : Int) (dv : Value) (bs : List Int) (hd : BytesV w dv bs) :
    Calls Try.prog 11 #[.pointer (some ⟨b, 0, none⟩), .int .i64 fr, .int .i64 to, dv] w fun e w' => StR w b N (nSend (absN N) fr to bs) e w' := by
  have H1 : Hid _ := is_any h fr
  have H2 : Hid _ := is_any h to
  have HN : Hid (NetIs w b N) := h
  have hnot : ∀ (x : Bool) (w : World), (Op.unary .not (.bool x)).run Try.prog w = .ok (.bool (!x)) w := fun _ _ => rfl
  have hA : (absN N).nodes = N.nodes := rfl
  unfold nSend
  rw [hA]
  cases hi : isB N.nodes fr
  · rw [hi] at H1
    rw [if_pos rfl]
    clear hd ho h H2
    go_enter Try.func11, Try.ntmps11
    go_wp2_with (go_at_call 29; refine Calls.mono H1.out ?_; rintro e w1 ⟨rfl, rfl⟩)
    go_ret
    exact ⟨rfl, N, HN.out, NFr.refl _ _, rfl⟩
  rw [if_neg (by simp)]
  cases hj : isB N.nodes to
  · rw [hi] at H1
    rw [hj] at H2
    rw [if_pos rfl]
    clear hd ho h
    have T1 : Hid True := trivial
    go_enter Try.func11, Try.ntmps11
    go_wp2_with (first
      | (have _ := T1; go_at_call 29; refine Calls.mono H1.out ?_; rintro e w1 ⟨rfl, rfl⟩; clear T1)
      | (go_at_call 29; refine Calls.mono H2.out ?_; rintro e w1 ⟨rfl, rfl⟩))
    go_ret
    exact ⟨rfl, N, HN.out, NFr.refl _ _, rfl⟩
  rw [if_neg (by simp)]
  obtain ⟨da, dc, rfl⟩ := hd.form
  by_cases hl : 65536 < bs.length
  · rw [hi] at H1
    rw [hj] at H2
    rw [if_pos hl]
    have hl1 : (65536 : Int) < (bs.length : Int) := by omega
    generalize bs.length = n at *
    clear hd ho h
    have T1 : Hid True := trivial
    go_enter Try.func11, Try.ntmps11
    go_wp2_with (first
      | (have _ := T1; go_at_call 29; refine Calls.mono H1.out ?_; rintro e w1 ⟨rfl, rfl⟩; clear T1)
      | (go_at_call 29; refine Calls.mono H2.out ?_; rintro e w1 ⟨rfl, rfl⟩))
    go_ret
    exact ⟨rfl, N, HN.out, NFr.refl _ _, rfl⟩
  · rw [hi] at H1
    rw [hj] at H2
    rw [if_neg hl]
    have hl1 : ¬ (65536 : Int) < (bs.length : Int) := by omega
    have HP : Hid _ := put_any h ho 0 fr to (.slice da bs.length dc) bs hd (by omega)
    generalize (if 4096 ≤ (absN N).fl.length then ((3 : Int), absN N) else (0, nPut (absN N) fr to bs)) = R at HP ⊢
    generalize bs.length = n at *
    clear hd ho h
    have T1 : Hid True := trivial
    go_enter Try.func11, Try.ntmps11
    go_wp2_with (first
      | (have _ := T1; go_at_call 29; refine Calls.mono H1.out ?_; rintro e w1 ⟨rfl, rfl⟩; clear T1)
      | (go_at_call 29; refine Calls.mono H2.out ?_; rintro e w1 ⟨rfl, rfl⟩)
      | (go_at_call 30; refine Calls.mono HP.out ?_; rintro e w2 ⟨rfl, N', q1, q2, q3⟩
         have HQ : Hid _ := And.intro q1 (And.intro q2 q3)
         clear q1 q2 q3))
    go_ret
    exact ⟨rfl, N', HQ.out⟩
end Go.Proofs.Ytemapnfbmhjlbaa
