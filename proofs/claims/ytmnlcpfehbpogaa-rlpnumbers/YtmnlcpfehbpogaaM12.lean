/- RK, RL, laid into one text. -/
import Derived.Test.YtmnlcpfehbpogaaM11
import Derived.RangeFuncNested
import Derived.RangeFuncBound
import Derived.RangeFuncCalls
import Derived.RangeFuncLeaves
import Derived.Shelf.Abstract
import Derived.Shelf.RegionOpen
import Derived.OwnWalkIn
import Derived.TacticsInMore
import Derived.LoopNIn
import Derived.LoopIn
/- rlp: span. -/
namespace Go.Proofs.Ytmnlcpfehbpogaa
open Go.RowKit Go.Maps Go.Joins
set_option linter.unusedSimpArgs false
set_option linter.unusedVariables false
theorem szH_le {s : List Int} {told h n : Nat} (e : szH s told = .ok (h, n)) : h ≤ s.length := by
  unfold szH at e
  split at e
  · injection e with e; simp only [Prod.mk.injEq] at e; omega
  · split at e
    · cases e
    · split at e
      · cases e
      · injection e with e; simp only [Prod.mk.injEq] at e; omega
theorem szH_bd {s : List Int} (hs : Byt s) {told h n : Nat} (ht : told ≤ 63) (e : szH s told = .ok (h, n)) : n < 18446744073709551616 := by
  unfold szH at e
  split at e
  · injection e with e; simp only [Prod.mk.injEq] at e; omega
  · split at e
    · cases e
    · split at e
      · cases e
      · injection e with e
        simp only [Prod.mk.injEq] at e
        have h1 := numB_lt (s.take (told - 55)) (hs.take _)
        have h2 : (256 : Nat) ^ (s.take (told - 55)).length ≤ 256 ^ 8 := Nat.pow_le_pow_right (by decide) (by rw [List.length_take]; omega)
        have e8 : (256 : Nat) ^ 8 = 18446744073709551616 := by decide
        omega
def spV (i : Nat) (p : Bool × Nat × Nat) : Value := .tuple #[.bool p.1, .int .i64 ((i + p.2.1 : Nat) : Int), .int .i64 ((i + p.2.1 + p.2.2 : Nat) : Int)]
set_option maxRecDepth 100000 in
set_option maxHeartbeats 8000000 in
/-- rlp.span -/
theorem span_any {w : World} {a : Option Addr} {cap : Nat} {bs : List Int} (h : Src w a cap bs) (i : Nat) (hi : i ≤ bs.length) :
    Calls Try.prog 54 #[.slice a bs.length cap, .int .i64 i] w fun e w' => w' = w ∧ Tells (sps (bs.drop i)) (spV i) e := by
  have HS : Hid (Src w a cap bs) := h
  have hl := h.len
  obtain ⟨N, hN⟩ : ∃ N, N = bs.length := ⟨_, rfl⟩
  have hlen := fun (j told : Nat) (hj : j ≤ bs.length) (ht : told ≤ 63) => length_any HS.out j told hj ht
  rw [← hN] at hi hl hlen ⊢
  have HN : Hid (N = bs.length) := hN
  have HL : Hid _ := hlen
  clear h hN hlen
  by_cases hend : i = N
  · have HE : Hid (sps (bs.drop i) = .error 10) := by show _ = _; rw [List.drop_of_length_le (by rw [← HN.out]; omega)]; rfl
    have hend' : ((i : Int) == (N : Int)) = true := by simp; omega
    clear hend
    go_enter Try.func54, Try.ntmps54
    go_wp2
    rw [HE.out]
    exact ⟨rfl, rfl, rfl⟩
  · have hend' : ((i : Int) == (N : Int)) = false := by simp; omega
    have hiN : i < N := by omega
    obtain ⟨g, o, c, rfl, hci, hcell, hc0, hc1, hall⟩ := HS.out.at (i := i) (by rw [← HN.out]; exact hiN)
    have hdr : bs.drop i = c :: bs.drop (i + 1) := by
      obtain ⟨h1, h2⟩ := List.getElem?_eq_some_iff.1 hci
      rw [List.drop_eq_getElem_cons h1, h2]
    have HA : Hid (∀ j x, bs[j]? = some x → w.cell? ⟨g, o + j, none⟩ = some (.int .u8 x)) := hall
    have HR : Hid (bs.drop i = c :: bs.drop (i + 1)) := hdr
    clear hall hdr hci
    by_cases h128 : c < 128
    · have HE : Hid (sps (bs.drop i) = .ok (false, 0, 1)) := by show _ = _; rw [HR.out]; simp [sps, h128]
      go_enter Try.func54, Try.ntmps54
      go_wp2
      go_ret3
      rw [HE.out]
      exact ⟨rfl, rfl⟩
    · obtain ⟨r, hr⟩ : ∃ r, r = bs.drop (i + 1) := ⟨_, rfl⟩
      have hrl : r.length = N - (i + 1) := by rw [hr, List.length_drop, HN.out]
      have hrb : Byt r := by rw [hr]; exact HS.out.by'.drop _
      obtain ⟨kind, hkind⟩ : ∃ kind : Int, kind = if 192 ≤ c then 192 else 128 := ⟨_, rfl⟩
      obtain ⟨told, htold⟩ : ∃ told : Nat, told = (c - kind).toNat := ⟨_, rfl⟩
      have hk2 : c = kind + told ∧ told ≤ 63 ∧ (192 ≤ c → kind = 192) ∧ (¬ 192 ≤ c → kind = 128) := by
        rw [htold, hkind]
        split <;> refine ⟨?_, ?_, ?_, ?_⟩ <;> omega
      have hsp : sps (bs.drop i) = match szH r told with
          | .error e => .error e
          | .ok (h, n) => if r.length - h < n then .error 10 else if c < 192 ∧ n = 1 ∧ (r.drop h).headD 0 < 128 then .error 11 else .ok (decide (192 ≤ c), 1 + h, n) := by
        rw [HR.out, ← hr]
        simp only [sps]
        rw [if_neg h128, ← hkind, ← htold]
        rfl
      have HP : Hid _ := hsp
      have hC := HL.out (i + 1) told (by omega) hk2.2.1
      rw [← hr] at hC
      obtain ⟨I, hI⟩ : ∃ I, I = i + 1 := ⟨_, rfl⟩
      rw [← hI] at hC
      have hi1 : (i : Int) + 1 = (I : Int) := by omega
      have HI : Hid (I = i + 1) := hI
      clear hI
      have HQ : Hid (r.length = N - (i + 1) ∧ Byt r ∧ told ≤ 63 ∧ r = bs.drop (i + 1)) := ⟨hrl, hrb, hk2.2.1, hr⟩
      clear hsp hrl hrb hr hkind htold HL
      have h128' : ¬ c < 128 := h128
      by_cases h192 : 192 ≤ c
      · obtain rfl := hk2.2.2.1 h192
        have hct : c - 192 = (told : Int) := by omega
        have hwt : IntKind.u8.wrap (told : Int) = told := by rw [IntKind.wrap_u8]; have := HQ.out.2.2.1; omega
        clear hk2
        cases hz : szH r told with
        | error ce =>
          rw [hz] at hC
          have HC : Hid (Calls Try.prog 67 #[.slice (some ⟨g, o, none⟩) N cap, .int .i64 I, .int .i64 told] w fun e w' => w' = w ∧ e = pan ce) := hC
          have HE : Hid (sps (bs.drop i) = .error ce) := by show _ = _; rw [HP.out, hz]
          clear hC hz HP
          go_enter Try.func54, Try.ntmps54
          go_wp2_with fail
          refine Calls.mono HC.out ?_
          rintro e w2 ⟨rfl, rfl⟩
          refine ⟨rfl, rfl, ?_⟩
          rw [HE.out]
          rfl
        | ok p =>
          obtain ⟨h, n⟩ := p
          rw [hz] at hC
          obtain ⟨F, hF⟩ : ∃ F, F = I + h := ⟨_, rfl⟩
          have HC : Hid (Calls Try.prog 67 #[.slice (some ⟨g, o, none⟩) N cap, .int .i64 I, .int .i64 told] w fun e w' => w' = w ∧ e = .returned (.tuple #[.int .i64 F, .int .u64 n])) := by rw [hF]; exact hC
          have hle := szH_le hz
          have hnb := szH_bd HQ.out.2.1 HQ.out.2.2.1 hz
          rw [HQ.out.1] at hle
          have hFN : F ≤ N := by have := HI.out; omega
          obtain ⟨left, hleft⟩ : ∃ left, left = N - F := ⟨_, rfl⟩
          have hsub : (N : Int) - F = (left : Int) := by omega
          have hwl : IntKind.u64.wrap (left : Int) = left := by rw [IntKind.wrap_u64]; omega
          have HE : Hid (sps (bs.drop i) = if left < n then .error 10 else if c < 192 ∧ n = 1 ∧ (r.drop h).headD 0 < 128 then .error 11 else .ok (decide (192 ≤ c), 1 + h, n)) := by
            show _ = _
            rw [HP.out, hz, HQ.out.1]
            simp only
            rw [show N - (i + 1) - h = left from by have := HI.out; omega]
          have HF : Hid (F = i + 1 + h ∧ left = N - F ∧ F ≤ N) := ⟨by have := HI.out; omega, hleft, hFN⟩
          clear hC hz HP hF hle hleft
          have T1 : Hid True := trivial
          by_cases hover : left < n
          · have hov : (left : Int) < n := by omega
            go_enter Try.func54, Try.ntmps54
            go_wp2_with (first
              | (have _ := T1
                 go_at_call 67
                 clear T1
                 refine Calls.mono HC.out ?_
                 rintro e w2 ⟨rfl, rfl⟩))
            rw [HE.out, if_pos hover]
            exact ⟨rfl, rfl, rfl⟩
          · have hov : ¬ (left : Int) < n := by omega
            have hwn : IntKind.i64.wrap (n : Int) = n := by rw [IntKind.wrap_i64]; omega
            have hn6 : n ≤ 65536 := by omega
            go_enter Try.func54, Try.ntmps54
            go_wp2_with (first
              | (have _ := T1
                 go_at_call 67
                 clear T1
                 refine Calls.mono HC.out ?_
                 rintro e w2 ⟨rfl, rfl⟩))
            go_ret3
            rw [HE.out, if_neg hover, if_neg (by omega), decide_eq_true h192]
            refine ⟨rfl, ?_⟩
            have e1 : F = i + (1 + h) := by have := HF.out.1; omega
            show Ending.returned (Value.tuple #[.bool true, .int .i64 (F : Int), .int .i64 ((F : Int) + n)]) = Ending.returned (Value.tuple #[.bool true, .int .i64 ((i + (1 + h) : Nat) : Int), .int .i64 ((i + (1 + h) + n : Nat) : Int)])
            rw [← e1]
            rfl
      · obtain rfl := hk2.2.2.2 h192
        have hct : c - 128 = (told : Int) := by omega
        have hwt : IntKind.u8.wrap (told : Int) = told := by rw [IntKind.wrap_u8]; have := HQ.out.2.2.1; omega
        clear hk2
        cases hz : szH r told with
        | error ce =>
          rw [hz] at hC
          have HC : Hid (Calls Try.prog 67 #[.slice (some ⟨g, o, none⟩) N cap, .int .i64 I, .int .i64 told] w fun e w' => w' = w ∧ e = pan ce) := hC
          have HE : Hid (sps (bs.drop i) = .error ce) := by show _ = _; rw [HP.out, hz]
          clear hC hz HP
          go_enter Try.func54, Try.ntmps54
          go_wp2_with fail
          refine Calls.mono HC.out ?_
          rintro e w2 ⟨rfl, rfl⟩
          refine ⟨rfl, rfl, ?_⟩
          rw [HE.out]
          rfl
        | ok p =>
          obtain ⟨h, n⟩ := p
          rw [hz] at hC
          obtain ⟨F, hF⟩ : ∃ F, F = I + h := ⟨_, rfl⟩
          have HC : Hid (Calls Try.prog 67 #[.slice (some ⟨g, o, none⟩) N cap, .int .i64 I, .int .i64 told] w fun e w' => w' = w ∧ e = .returned (.tuple #[.int .i64 F, .int .u64 n])) := by rw [hF]; exact hC
          have hle := szH_le hz
          have hnb := szH_bd HQ.out.2.1 HQ.out.2.2.1 hz
          rw [HQ.out.1] at hle
          have hFN : F ≤ N := by have := HI.out; omega
          obtain ⟨left, hleft⟩ : ∃ left, left = N - F := ⟨_, rfl⟩
          have hsub : (N : Int) - F = (left : Int) := by omega
          have hwl : IntKind.u64.wrap (left : Int) = left := by rw [IntKind.wrap_u64]; omega
          have HE : Hid (sps (bs.drop i) = if left < n then .error 10 else if c < 192 ∧ n = 1 ∧ (r.drop h).headD 0 < 128 then .error 11 else .ok (decide (192 ≤ c), 1 + h, n)) := by
            show _ = _
            rw [HP.out, hz, HQ.out.1]
            simp only
            rw [show N - (i + 1) - h = left from by have := HI.out; omega]
          have HF : Hid (F = i + 1 + h ∧ left = N - F ∧ F ≤ N) := ⟨by have := HI.out; omega, hleft, hFN⟩
          clear hC hz HP hF hle hleft
          have T1 : Hid True := trivial
          by_cases hover : left < n
          · have hov : (left : Int) < n := by omega
            go_enter Try.func54, Try.ntmps54
            go_wp2_with (first
              | (have _ := T1
                 go_at_call 67
                 clear T1
                 refine Calls.mono HC.out ?_
                 rintro e w2 ⟨rfl, rfl⟩))
            rw [HE.out, if_pos hover]
            exact ⟨rfl, rfl, rfl⟩
          · have hov : ¬ (left : Int) < n := by omega
            have hwn : IntKind.i64.wrap (n : Int) = n := by rw [IntKind.wrap_i64]; omega
            have hn6 : n ≤ 65536 := by omega
            have hdec : decide (192 ≤ c) = false := decide_eq_false h192
            have E1 : Hid (F = i + (1 + h)) := by show _ = _; have := HF.out.1; omega
            by_cases hn1 : n = 1
            · subst hn1
              have hFl : F < N := by have := HF.out.2.1; omega
              obtain ⟨g', o', d, hgo, hd, hdc, hd0, hd1, _⟩ := HS.out.at (i := F) (by rw [← HN.out]; exact hFl)
              have hdc : w.cell? ⟨g, o + F, none⟩ = some (.int .u8 d) := HA.out F d hd
              have hhd : (r.drop h).headD 0 = d := by
                rw [HQ.out.2.2.2, List.drop_drop, show i + 1 + h = F from HF.out.1.symm, List.headD_eq_head?_getD, List.head?_drop, hd]; rfl
              have HH : Hid ((r.drop h).headD 0 = d) := hhd
              clear hhd hgo hd
              by_cases hd128 : d < 128
              · go_enter Try.func54, Try.ntmps54
                go_wp2_with (first
                  | (have _ := T1
                     go_at_call 67
                     clear T1
                     refine Calls.mono HC.out ?_
                     rintro e w2 ⟨rfl, rfl⟩))
                rw [HE.out, if_neg hover, if_pos (by first | exact ⟨by omega, rfl, by rw [HH.out]; omega⟩ | exact ⟨by omega, trivial, by rw [HH.out]; omega⟩ | exact ⟨by omega, by rw [HH.out]; omega⟩)]
                exact ⟨rfl, rfl, rfl⟩
              · go_enter Try.func54, Try.ntmps54
                go_wp2_with (first
                  | (have _ := T1
                     go_at_call 67
                     clear T1
                     refine Calls.mono HC.out ?_
                     rintro e w2 ⟨rfl, rfl⟩))
                go_ret3
                rw [HE.out, if_neg hover, if_neg (by rw [HH.out]; omega), hdec]
                refine ⟨rfl, ?_⟩
                show Ending.returned (Value.tuple #[.bool false, .int .i64 (F : Int), .int .i64 ((F : Int) + 1)]) = Ending.returned (Value.tuple #[.bool false, .int .i64 ((i + (1 + h) : Nat) : Int), .int .i64 ((i + (1 + h) + 1 : Nat) : Int)])
                rw [← E1.out]
                rfl
            · have hn1' : ((n : Int) == 1) = false := by simp; omega
              go_enter Try.func54, Try.ntmps54
              go_wp2_with (first
                | (have _ := T1
                   go_at_call 67
                   clear T1
                   refine Calls.mono HC.out ?_
                   rintro e w2 ⟨rfl, rfl⟩))
              go_ret3
              rw [HE.out, if_neg hover, if_neg (by rintro ⟨_, h2, _⟩; exact hn1 h2), hdec]
              refine ⟨rfl, ?_⟩
              show Ending.returned (Value.tuple #[.bool false, .int .i64 (F : Int), .int .i64 ((F : Int) + n)]) = Ending.returned (Value.tuple #[.bool false, .int .i64 ((i + (1 + h) : Nat) : Int), .int .i64 ((i + (1 + h) + n : Nat) : Int)])
              rw [← E1.out]
              rfl
end Go.Proofs.Ytmnlcpfehbpogaa
/- rlp: the items of a list. -/
namespace Go.Proofs.Ytmnlcpfehbpogaa
open Go.RowKit Go.Maps Go.Joins Go.Shelf
set_option linter.unusedSimpArgs false
set_option linter.unusedVariables false
/-- What read tells. -/
def RdR (w w' : World) (r : Except Int (Tr × Nat)) (i : Nat) (e : Ending) : Prop :=
  match r with
  | .error c => e = pan c
  | .ok (x, n) => ∃ sb si, e = .returned (.tuple #[.agg #[.bool x.l, sb, si], .int .i64 ((i + n : Nat) : Int)]) ∧ ItV w' (fun b => w.heap.size ≤ b ∧ b < w'.heap.size) sb si x
def RdC (d : Nat) : Prop := ∀ (w : World) (a : Option Addr) (cap : Nat) (bs : List Int), Src w a cap bs → ∀ i, i ≤ bs.length →
  Calls Try.prog 38 #[.slice a bs.length cap, .int .i64 i, .int .i64 ((16 - d : Nat) : Int)] w fun e w' => Below w.heap.size w w' ∧ RdR w w' (fs d (bs.drop i)) i e
set_option maxRecDepth 100000 in
set_option maxHeartbeats 4000000 in
/-- items$1 -/
theorem items1_in (m l d X1 X2 X3 X4 from_ to_ cap : Nat) (a : Option Addr) (bs : List Int) (W0 : World) (J : Nat → World → Prop) (hd : d ≤ 16) (hR : RdC d)
    (hto : to_ ≤ bs.length) (hfr : from_ ≤ to_) (h0 : J from_ W0) (hc1 : W0.cell? ⟨X1, 0, none⟩ = some (.int .i64 from_))
    (hJ : ∀ p W, J p W → W.cell? ⟨X2, 0, none⟩ = some (.int .i64 to_) ∧ W.cell? ⟨X3, 0, none⟩ = some (.slice a bs.length cap) ∧ W.cell? ⟨X4, 0, none⟩ = some (.int .i64 ((16 - d : Nat) : Int)) ∧ Src W a cap bs)
    (hY : ∀ p W W2 x n sb si, p < to_ → J p W → fs d (bs.drop p) = .ok (x, n) → p + n ≤ to_ → Below W.heap.size W W2 → ItV W2 (fun b => W.heap.size ≤ b ∧ b < W2.heap.size) sb si x → YieldAt Fence.wide m Try.prog l #[.agg #[.bool x.l, sb, si]] W2 fun e W' => e = .returned (.bool true) ∧ J (p + n) W') :
    CallsIn Fence.wide (m + 1) Try.prog 68 #[.func (.yield l) #[] #[], .pointer (some ⟨X1, 0, none⟩), .pointer (some ⟨X2, 0, none⟩), .pointer (some ⟨X3, 0, none⟩), .pointer (some ⟨X4, 0, none⟩)] W0 fun e W' =>
      ((∃ v, e = .returned v) ∧ J to_ W') ∨ ∃ c p W, e = pan c ∧ J p W ∧ p < to_ ∧ Below W.heap.size W W' ∧ (fs d (bs.drop p) = .error c ∨ ∃ x n, fs d (bs.drop p) = .ok (x, n) ∧ to_ < p + n ∧ c = 11) := by
  refine callsIn_of_wp Try.func68 rfl trivial ?_ rfl
  simp only [Try.ntmps68, List.size_toArray, List.length_cons, List.length_nil, Nat.reduceAdd, Nat.reduceSub, Array.replicate_succ, Array.replicate_zero, List.push_toArray, List.append_toArray, List.nil_append, List.cons_append]
  have HY : Hid _ := hY
  have HJ : Hid _ := hJ
  have H0 : Hid (J from_ W0) := h0
  have HR : Hid (RdC d) := hR
  obtain ⟨N, hN⟩ : ∃ N, N = bs.length := ⟨_, rfl⟩
  have hNl : to_ ≤ N := by omega
  have HN : Hid (N = bs.length ∧ to_ ≤ N) := ⟨hN, by omega⟩
  obtain ⟨wi, hwi⟩ : ∃ wi : Nat, wi = 16 - d := ⟨_, rfl⟩
  have HW : Hid (wi = 16 - d) := hwi
  have hb6 : N ≤ 65536 := by rw [hN]; exact (hJ from_ W0 h0).2.2.2.len
  clear hY hJ h0 hR hN hto hwi
  gi_wp2
  gi_loopw [6] (fun v wr => ∃ p : Nat, p ≤ to_ ∧ v = .int .i64 p ∧ J p wr) (fun v _ => to_ - (intOf v).toNat)
  case atStart => exact ⟨from_, hfr, rfl, H0.out⟩
  case round =>
    obtain ⟨p, hp, rfl, hjp⟩ := hrel
    obtain ⟨c2, c3, c4, hsrc⟩ := HJ.out p wr hjp
    rw [← HN.out.1] at c3
    rw [← HW.out] at c4
    have HK : Hid (J p wr) := hjp
    have HB : Hid (Byt (bs.drop p)) := hsrc.by'.drop p
    by_cases hlt : p < to_
    · have hC := HR.out wr a cap bs hsrc p (by have := HN.out; omega)
      rw [← HN.out.1, ← HW.out] at hC
      have hlt' : (p : Int) < to_ := by omega
      clear hsrc hjp
      have TK : Hid True := trivial
      cases hf : fs d (bs.drop p) with
      | error c =>
        rw [hf] at hC
        have HC : Hid (Calls Try.prog 38 #[.slice a N cap, .int .i64 p, .int .i64 wi] wr fun e w' => Below wr.heap.size wr w' ∧ e = .panicked [{ v := .iface 26 (.int .i64 c), recovered := false }]) := hC
        have HF : Hid (fs d (bs.drop p) = .error c) := hf
        clear hC hf
        gi_wp2_with (first
          | (have _ := TK
             refine ⟨trivial, ?_⟩
             gi_at_call 38
             clear TK
             refine (callsIn_wide.2 HC.out).mono ?_
             rintro e w2 ⟨hb2, rfl⟩))
        exact ⟨rfl, Or.inr ⟨c, p, wr, rfl, HK.out, hlt, hb2, Or.inl HF.out⟩⟩
      | ok xn =>
        obtain ⟨x, n⟩ := xn
        rw [hf] at hC
        obtain ⟨E, hE⟩ : ∃ E, E = p + n := ⟨_, rfl⟩
        have HC : Hid (Calls Try.prog 38 #[.slice a N cap, .int .i64 p, .int .i64 wi] wr fun e w' => Below wr.heap.size wr w' ∧ ∃ sb si, e = .returned (.tuple #[.agg #[.bool x.l, sb, si], .int .i64 E]) ∧ ItV w' (fun b => wr.heap.size ≤ b ∧ b < w'.heap.size) sb si x) := by rw [hE]; exact hC
        have HF : Hid (fs d (bs.drop p) = .ok (x, n) ∧ E = p + n) := ⟨hf, hE⟩
        clear hC hf hE
        obtain ⟨xl, hxl⟩ : ∃ xl, xl = x.l := ⟨_, rfl⟩
        have HX : Hid (xl = x.l) := hxl
        rw [← hxl] at HC
        clear hxl
        by_cases hov : to_ < E
        · have hov' : (to_ : Int) < E := by omega
          gi_wp2_with (first
            | (have _ := TK
               refine ⟨trivial, ?_⟩
               gi_at_call 38
               clear TK
               refine (callsIn_wide.2 HC.out).mono ?_
               rintro e w2 ⟨hb2, sb, si, rfl, hit⟩
               obtain ⟨ab, cb, rfl⟩ := hit.b.is.form
               obtain ⟨ai, ci, rfl, _⟩ := hit.xs.form
               have c2' : w2.cell? ⟨X2, 0, none⟩ = some (.int .i64 to_) := (hb2.cell (cell_lt c2)).trans c2
               have hx2 : X2 < w2.heap.size := Nat.lt_of_lt_of_le (cell_lt c2) hb2.size
               have H2 : Hid (Below wr.heap.size wr w2) := hb2
               clear hit hb2))
          exact ⟨rfl, Or.inr ⟨11, p, wr, rfl, HK.out, hlt, H2.out.alloc H2.out.size _, Or.inr ⟨x, n, HF.out.1, by rw [← HF.out.2]; exact hov, rfl⟩⟩⟩
        · have hov' : ¬ (to_ : Int) < E := by omega
          gi_wp2_with (first
            | (have _ := TK
               refine ⟨trivial, ?_⟩
               gi_at_call 38
               clear TK
               refine (callsIn_wide.2 HC.out).mono ?_
               rintro e w2 ⟨hb2, sb, si, rfl, hit⟩
               obtain ⟨ab, cb, rfl⟩ := hit.b.is.form
               obtain ⟨ai, ci, rfl, _⟩ := hit.xs.form
               have c2' : w2.cell? ⟨X2, 0, none⟩ = some (.int .i64 to_) := (hb2.cell (cell_lt c2)).trans c2
               have hx2 : X2 < w2.heap.size := Nat.lt_of_lt_of_le (cell_lt c2) hb2.size
               obtain ⟨mb, hmb⟩ : ∃ mb, mb = x.b.length := ⟨_, rfl⟩
               obtain ⟨mi, hmi⟩ : ∃ mi, mi = x.xs.length := ⟨_, rfl⟩
               rw [← hmb, ← hmi] at hit ⊢
               obtain ⟨fn, tmps, assign, body, hy, hR5⟩ := HY.out p wr (w2.alloc (.cells #[.bool xl, .slice ab mb cb, .slice ai mi ci] 31)) x n (.slice ab mb cb) (.slice ai mi ci) hlt HK.out HF.out.1 (by have := HF.out.2; omega) (hb2.alloc hb2.size _) (hit.mono (fun b hb => heap_alloc_old w2 _ hb.2) (fun b hb => ⟨hb.1, by simp; have := hb.2; omega⟩))
               rw [← HX.out] at hy
               clear hit hb2 hmb hmi))
          refine hR5.mono ?_
          rintro e W5 ⟨rfl, hj5⟩
          have H5 : Hid (J (p + n) W5 ∧ E = p + n ∧ 1 ≤ n) := ⟨hj5, HF.out.2, (fs_ok d _ x n HB.out HF.out.1).2.1⟩
          clear hj5 hR5 hy
          gi_wp2
          go_roundw
          case rel => exact ⟨E, by omega, rfl, by rw [H5.out.2.1]; exact H5.out.1⟩
          case measure => simp [intOf]; have := H5.out; omega
    · obtain rfl : p = to_ := by omega
      have hlt' : ¬ (p : Int) < p := by omega
      clear hjp hsrc
      gi_wp2
      go_end0
      exact Or.inl ⟨⟨_, rfl⟩, HK.out⟩
end Go.Proofs.Ytmnlcpfehbpogaa
