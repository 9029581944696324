/- net: NetOnce, the walk. -/
import Derived.Test.YtemapnfbmhjlbaaPF
namespace Go.Proofs.Ytemapnfbmhjlbaa
open Go.RowKit Go.Maps Go.Joins
set_option linter.unusedSimpArgs false
set_option linter.unusedVariables false
set_option maxRecDepth 100000 in
set_option maxHeartbeats 16000000 in
theorem once_big {w : World} (da : Option Addr) (dc n : Nat) (hn : n ≤ 9223372036854775807) (c : Int) (h : 65536 < n ∨ c < 0 ∨ 100 < c) :
    Calls Try.prog 5 #[.slice da n dc, .int .i64 c] w fun e w' => e = .returned (.bool true) ∧ Below w.heap.size w w' := by
  rcases (show (65536 : Int) < n ∨ (¬ (65536 : Int) < n ∧ c < 0) ∨ (¬ (65536 : Int) < n ∧ ¬ c < 0 ∧ 100 < c) by omega) with h1 | ⟨h1, h2⟩ | ⟨h1, h2, h3⟩
  all_goals
    clear h hn
    go_enter Try.func5, Try.ntmps5
    go_wp2_with (first
      | (go_at_call 8
         refine Calls.mono (New_ok 2 (by decide) (by decide)) ?_
         rintro e w1 ⟨rfl, hn, hb1⟩
         have HB : Hid (Below w.heap.size w w1) := hb1
         clear hn hb1
         obtain ⟨b, hb⟩ : ∃ b, b = w.heap.size := ⟨_, rfl⟩
         rw [← hb]
         clear hb)
      | (go_at_call 10; refine (alive_any _).mono ?_; rintro e w6 ⟨rfl, hb⟩; have HB6 : Hid (Below w.heap.size w w6) := HB.out.trans (hb.mono HB.out.size); clear hb HB))
    go_ret
    exact ⟨rfl, HB6.out⟩
/-- Within the second loop. -/
structure OJ (w1 wr : World) (b : Nat) (N1 N : NS) (bs : List Int) (nx k : Nat) (M : Int) (v : Value) (l : List PK) : Prop where
  st : St w1 wr b N1 N (oA bs nx k) M
  row : wr.ownsRow 0 35 4 v l.length (pkL l)
  own : ∀ g, v.ownBlock = some g → N.own g = 0
set_option maxRecDepth 100000 in
set_option maxHeartbeats 16000000 in
theorem once_small {w : World} (da : Option Addr) (dc : Nat) (bs : List Int) (hd : BytesV w (.slice da bs.length dc) bs) (hn : bs.length ≤ 65536) (c : Nat) (hc : c ≤ 100) :
    Calls Try.prog 5 #[.slice da bs.length dc, .int .i64 c] w fun e w' => e = .returned (.bool true) ∧ Below w.heap.size w w' := by
  have HA : Hid (BytesV w (.slice da bs.length dc) bs ∧ bs.length ≤ 65536) := ⟨hd, hn⟩
  have h1 : ¬ (65536 : Int) < bs.length := by omega
  have h2 : ¬ (100 : Int) < c := by omega
  clear hd hn
  go_enter Try.func5, Try.ntmps5
  go_wp2_with (first
    | (go_at_call 8
       refine Calls.mono (New_ok 2 (by decide) (by decide)) ?_
       rintro e w1 ⟨rfl, hn, hb1⟩
       obtain ⟨b, hb⟩ : ∃ b, b = w.heap.size := ⟨_, rfl⟩
       have hs1 := St.new (w := w) 2 hn
       rw [← hb] at hs1 ⊢
       obtain ⟨N1, hN1⟩ : ∃ N1, N1 = newN b 2 := ⟨_, rfl⟩
       rw [← hN1] at hs1
       have HB : Hid (Below w.heap.size w w1 ∧ b = w.heap.size ∧ N1 = newN b 2) := ⟨hb1, hb, hN1⟩
       have H1 : Hid (St w1 w1 b N1 N1 (A0 2) 0) := hs1
       clear hn hb1 hs1 hb hN1)
    | (go_at_call 11
       have hx := H1.out.send (by decide) 1 0 (.slice da bs.length dc) bs (HA.out.1.below HB.out.1)
       simp only [oA_send HA.out.2] at hx
       refine Calls.mono hx ?_
       clear hx
       rintro e w2 ⟨rfl, N2, h2', f2⟩
       have H2 : Hid (St w1 w2 b N1 N2 (oA bs 1 1) 1) := h2'
       clear h2' f2 H1))
  go_loopw [7] (fun i wr => ∃ k : Nat, k ≤ c ∧ i = .int .i64 k ∧ ∃ N, Hid (St w1 wr b N1 N (oA bs (k + 1) (k + 1)) (k + 1))) (fun i _ => c - (intOf i).toNat)
  case atStart => exact ⟨0, Nat.zero_le _, rfl, N2, H2.out⟩
  case round =>
    clear H2
    obtain ⟨k, hk, rfl, N, HJ⟩ := hrel
    by_cases hlt : k < c
    · have hki : (k : Int) < c := by omega
      have HS : Hid (k < c ∧ c ≤ 100) := ⟨hlt, hc⟩
      clear hlt
      go_wp2_with (first
        | (go_at_call 16
           have hx := HJ.out.copy (by have := HS.out; omega) k
           simp only [oA_copy (bs := bs) (nx := k + 1) (k := k + 1) (i := k) (by omega) (by have := HS.out; omega) rfl] at hx
           refine Calls.mono hx ?_
           clear hx
           rintro e w3 ⟨rfl, N3, h3, f3⟩
           have H3 : Hid (St w1 w3 b N1 N3 (oA bs (k + 1 + 1) (k + 1 + 1)) (((k + 1 : Nat) : Int) + 1)) := h3
           clear h3 f3 HJ))
      go_roundw
      case rel => exact ⟨k + 1, HS.out.1, by go_num, N3, H3.out⟩
      case measure => have := HS.out; simp [intOf]; omega
    · obtain rfl : c = k := by omega
      clear hlt hk
      go_wp2_with (first
        | (go_at_call 25
           have hx := flight_any HJ.out.net (HJ.out.nok (by omega))
           refine Calls.mono hx ?_
           clear hx
           rintro e w3 ⟨v, l, rfl, ho, he, hb⟩
           have he' : l.map pkA = oL bs (c + 1) := by rw [he]; exact congrArg NA.fl HJ.out.abs
           have hl := pk_len he'
           have hrow := ho.row
           obtain ⟨va, vc, rfl⟩ := row_form hrow
           rw [hl] at hrow ⊢
           have H3 : Hid (OJ w1 w3 b N1 N bs (c + 1) (c + 1) (c + 1) (.slice va (c + 1) vc) l) := ⟨HJ.out.below hb, by rw [hl]; exact ownsRow_zero hrow, fun g hg => HJ.out.net.fresh g (hrow.lt g hg).1⟩
           have HL : Hid (l.map pkA = oL bs (c + 1)) := he'
           clear ho he hb he' hl hrow HJ))
      clear h1 h2
      go_loopw [9] (fun i wr => ∃ k : Nat, k ≤ c + 1 ∧ i = .int .i64 ((k : Int) - 1) ∧ ∃ N, Hid (OJ w1 wr b N1 N bs (c + 1) k (c + 1) (.slice va (c + 1) vc) l)) (fun i _ => (intOf i + 1).toNat)
      case atStart => exact ⟨c + 1, Nat.le_refl _, by go_num, N, H3.out⟩
      case round =>
        clear H3
        obtain ⟨k, hk, rfl, N, HJ⟩ := hrel
        rcases k with _ | j
        · have H4 : Hid (St w1 wr b N1 N (oA bs (c + 1) 0) (c + 1)) := HJ.out.st
          clear HJ
          rw [show (((0 : Nat) : Int) - 1) = -1 from rfl]
          go_wp2_with (first
            | (go_at_call 13
               have hx := H4.out.take (by omega) 0
               simp only [oA_gone] at hx
               refine Calls.mono hx ?_
               clear hx
               rintro e w5 ⟨q, rfl, hq, hd, N5, h5, f5, d5⟩
               obtain ⟨qi, qf, qt, qd, qb⟩ := q
               simp only [pkA, Prod.mk.injEq] at hq
               obtain ⟨rfl, rfl, rfl, rfl⟩ := hq
               simp only at hd d5 ⊢
               obtain ⟨qa, qc, rfl⟩ := hd.form
               have hb5 : Below w5.heap.size w5 (w5.alloc (.cells #[.int .i64 0, .int .i64 0, .int .i64 0, .slice qa 0 qc] 35)) := (Below.refl _ w5).alloc (Nat.le_refl _) _
               have H5 : Hid (St w1 (w5.alloc (.cells #[.int .i64 0, .int .i64 0, .int .i64 0, .slice qa 0 qc] 35)) b N1 N5 (oA bs (c + 1) 0) (c + 1)) := h5.below hb5
               clear hd h5 f5 d5 hb5 H4)
            | (go_at_call 25
               have hx := flight_any H5.out.net (H5.out.nok (by omega))
               refine Calls.mono hx ?_
               clear hx
               rintro e w6 ⟨v6, l6, rfl, ho, he, hb⟩
               have he' : l6.map pkA = oL bs 0 := by rw [he]; exact congrArg NA.fl H5.out.abs
               have hl := pk_len he'
               have hrow := ho.row
               obtain ⟨va6, vc6, rfl⟩ := row_form hrow
               rw [hl]
               have H6 : Hid (Below w.heap.size w w6) := (H5.out.bel HB.out).trans (hb.mono (H5.out.bel HB.out).size)
               clear ho he hb he' hl hrow H5)
            | (go_at_call 10; refine (alive_any _).mono ?_; rintro e w7 ⟨rfl, hb⟩; have H7 : Hid (Below w.heap.size w w7) := H6.out.trans (hb.mono H6.out.size); clear hb H6))
          go_ret
          exact ⟨rfl, H7.out⟩
        · have hj : (((j + 1 : Nat) : Int) - 1) = (j : Int) := by omega
          rw [hj]
          obtain ⟨p, hp, hpi⟩ := pk_at HL.out (show j < c + 1 by omega)
          have hrow := HJ.out.row
          obtain ⟨g, o, rfl, c0, _, _, _⟩ := (PkV.of (l := l) (n := c + 1) (c := vc) (by have hl := pk_len HL.out; rw [← hl] at hrow ⊢; exact hrow)).at_ j p hp
          rw [hpi] at c0
          have hjc : (j : Int) < ((c + 1 : Nat) : Int) := by omega
          clear hp hpi hrow hj
          go_wp2_with (first
            | (go_at_call 13
               have hx := HJ.out.st.take (by omega) j
               simp only [oA_take] at hx
               refine Calls.mono hx ?_
               clear hx
               rintro e w5 ⟨q, rfl, hq, hd, N5, h5, f5, d5⟩
               have k5 := f5.rowk HJ.out.row HJ.out.own
               obtain ⟨qi, qf, qt, qd, qb⟩ := q
               simp only [pkA, Prod.mk.injEq] at hq
               obtain ⟨rfl, rfl, rfl, rfl⟩ := hq
               simp only at hd d5 ⊢
               obtain ⟨qa, qc, rfl⟩ := hd.form
               have hb5 : Below w5.heap.size w5 (w5.alloc (.cells #[.int .i64 j, .int .i64 1, .int .i64 0, .slice qa qb.length qc] 35)) := (Below.refl _ w5).alloc (Nat.le_refl _) _
               have k6 := (NFr.below (L := N5) hb5).rowk k5.1 k5.2
               have H5 : Hid (OJ w1 (w5.alloc (.cells #[.int .i64 j, .int .i64 1, .int .i64 0, .slice qa qb.length qc] 35)) b N1 N5 qb (c + 1) j (c + 1) (.slice (some ⟨g, o, none⟩) (c + 1) vc) l) := ⟨h5.below hb5, k6.1, k6.2⟩
               have HV : Hid (BytesV (w5.alloc (.cells #[.int .i64 j, .int .i64 1, .int .i64 0, .slice qa qb.length qc] 35)) (.slice qa qb.length qc) qb ∧ BytesV (w5.alloc (.cells #[.int .i64 j, .int .i64 1, .int .i64 0, .slice qa qb.length qc] 35)) (.slice da qb.length dc) qb) := ⟨hd.below hb5, HA.out.1.below (H5.out.st.bel HB.out)⟩
               clear hd h5 f5 d5 hb5 k5 k6 HJ c0)
            | (go_at_call 28
               refine Calls.mono (same_b HV.out.1 HV.out.2) ?_
               rintro e w6 ⟨rfl, rfl⟩
               clear HV))
          go_roundw
          case rel => exact ⟨j, by omega, rfl, N5, H5.out⟩
          case measure => simp [intOf]
/-- NetOnce -/
theorem once_any {w : World} (da : Option Addr) (dc : Nat) (bs : List Int) (hd : BytesV w (.slice da bs.length dc) bs) (hn : bs.length ≤ 9223372036854775807) (c : Int) :
    Calls Try.prog 5 #[.slice da bs.length dc, .int .i64 c] w fun e w' => e = .returned (.bool true) ∧ Below w.heap.size w w' := by
  by_cases h : 65536 < bs.length ∨ c < 0 ∨ 100 < c
  · exact once_big da dc bs.length hn c h
  · obtain ⟨k, rfl⟩ : ∃ k : Nat, c = k := ⟨c.toNat, by omega⟩
    exact once_small da dc bs hd (by omega) k (by omega)
end Go.Proofs.Ytemapnfbmhjlbaa
