/- net: Take and Copy, of any number. -/
import Derived.Test.YtemapnfbmhjlbaaNQ
namespace Go.Proofs.Ytemapnfbmhjlbaa
open Go.RowKit Go.Maps Go.Joins
set_option linter.unusedSimpArgs false
set_option linter.unusedVariables false
theorem NFr.bytes {w w' : World} {N N' : NS} (h : NFr w w' N N') {v : Value} {bs : List Int} (hb : BytesV w v bs) (h0 : ∀ x, dBlock v bs.length = some x → N.own x = 0) : BytesV w' v bs ∧ ∀ x, dBlock v bs.length = some x → N'.own x = 0 :=
  ⟨hb.kept (fun x hx => h.block x (dBlock_lt hb hx) (h0 x hx)), fun x hx => h.own x (dBlock_lt hb hx) (h0 x hx)⟩
theorem take_any {w : World} {b : Nat} {N : NS} (h : NetIs w b N) (ho : NOk N) (hr : Rise N.fl) (id : Int) :
    Calls Try.prog 13 #[.pointer (some ⟨b, 0, none⟩), .int .i64 id] w fun e w' => TkR w b N (nTake (absN N) id) e w' := by
  by_cases hex : ∀ p ∈ N.fl, p.id ≠ id
  · have hf : nTake (absN N) id = (33, (0, 0, 0, []), absN N) := by
      unfold nTake
      rw [show (absN N).fl = N.fl.map pkA from rfl, find_no hex]
    rw [hf]
    refine (take_no h ho hr id hex).mono ?_
    rintro e w' ⟨rfl, hb⟩
    exact ⟨⟨0, 0, 0, .slice none 0 0, []⟩, N, rfl, rfl, h.below hb, NFr.below hb, rfl, Or.inl ⟨rfl, rfl⟩, fun x hx => by cases hx⟩
  · obtain ⟨p, hp, he⟩ : ∃ p, p ∈ N.fl ∧ p.id = id := by
      refine Classical.byContradiction fun hc => hex fun p hp he => hc ⟨p, hp, he⟩
    obtain ⟨i, hi, hi2⟩ := List.getElem_of_mem hp
    have hi3 : N.fl[i]? = some p := by rw [List.getElem?_eq_getElem hi, hi2]
    obtain ⟨f1, f2⟩ := find_yes hr hi3 he
    have hf : nTake (absN N) id = (0, pkA p, { absN N with fl := (N.fl.take i ++ N.fl.drop (i + 1)).map pkA }) := by
      unfold nTake
      rw [show (absN N).fl = N.fl.map pkA from rfl, f1]
      show (0, pkA p, _) = _
      rw [← f2]
    rw [hf]
    refine (take_yes h ho hr hi3 he).mono ?_
    rintro e w' ⟨v, rfl, h1, h2, h3⟩
    obtain ⟨q1, q2⟩ := h2.bytes (h.data p hp) (h.rd p hp)
    exact ⟨p, _, rfl, rfl, h1, h2, rfl, q1, fun x hx => ⟨q2 x hx, p, hp, hx⟩⟩
theorem copy_nil (w : World) (x : Int) : Calls Try.prog 16 #[.pointer none, .int .i64 x] w fun e w' => e = .returned (.int .i64 2) ∧ w' = w := by
  go_enter Try.func16, Try.ntmps16
  go_wp2
  go_ret
  exact ⟨rfl, rfl⟩
theorem StR.drop {w w1 w' : World} {b : Nat} {N : NS} {R : Int × NA} {e : Ending} (hb : Below w.heap.size w w1) (h : StR w1 b N R e w') : StR w b N R e w' := by
  obtain ⟨h1, N', h2, h3, h4⟩ := h
  exact ⟨h1, N', h2, (NFr.below hb).trans h3, h4⟩
set_option maxRecDepth 100000 in
set_option maxHeartbeats 8000000 in
/-- Copy -/
theorem copy_any {w : World} {b : Nat} {N : NS} (h : NetIs w b N) (ho : NOk N) (hr : Rise N.fl) (id : Int) :
    Calls Try.prog 16 #[.pointer (some ⟨b, 0, none⟩), .int .i64 id] w fun e w' => StR w b N (nCopy (absN N) id) e w' := by
  have hnot : ∀ (x : Bool) (w : World), (Op.unary .not (.bool x)).run Try.prog w = .ok (.bool (!x)) w := fun _ _ => rfl
  by_cases hex : ∀ p ∈ N.fl, p.id ≠ id
  · have hf : nCopy (absN N) id = (33, absN N) := by
      unfold nCopy
      rw [show (absN N).fl = N.fl.map pkA from rfl, find_no hex]
    rw [hf]
    have HP : Hid _ := place_no h ho hr id hex
    have HN : Hid (NetIs w b N) := h
    clear h ho hr hex hf
    go_enter Try.func16, Try.ntmps16
    go_wp2_with (go_at_call 33; refine Calls.mono HP.out ?_; rintro e w1 ⟨i, rfl, q1⟩; have HQ : Hid _ := q1; clear q1 HP)
    go_ret
    exact ⟨rfl, N, HN.out.below HQ.out, NFr.below HQ.out, rfl⟩
  · obtain ⟨p, hp, he⟩ : ∃ p, p ∈ N.fl ∧ p.id = id := by
      refine Classical.byContradiction fun hc => hex fun p hp he => hc ⟨p, hp, he⟩
    obtain ⟨i, hi, hi2⟩ := List.getElem_of_mem hp
    have hi3 : N.fl[i]? = some p := by rw [List.getElem?_eq_getElem hi, hi2]
    have f1 := (find_yes hr hi3 he).1
    have hf : nCopy (absN N) id = if 4096 ≤ (absN N).fl.length then (3, absN N) else (0, nPut (absN N) p.fr p.to p.bs) := by
      unfold nCopy
      rw [show (absN N).fl = N.fl.map pkA from rfl, f1]
      rfl
    rw [hf]
    have HP : Hid _ := place_yes h ho hr hi3 he
    obtain ⟨dva, dvc, hdv⟩ := (h.data p hp).form
    obtain ⟨x0, fr, to, dv, bs⟩ := p
    simp only at he hdv
    subst he
    obtain ⟨fa, fc, hfv⟩ := row_form h.fl
    obtain ⟨n, hn⟩ : ∃ n, n = N.fl.length := ⟨_, rfl⟩
    have hin : i < n := by omega
    have hbl := ho.bs _ hp
    have hda := h.data _ hp
    generalize hR : (if 4096 ≤ (absN N).fl.length then ((3 : Int), absN N) else (0, nPut (absN N) fr to bs)) = R
    have HS : Hid (NetIs w b N ∧ NOk N ∧ N.fl[i]? = some ⟨x0, fr, to, dv, bs⟩ ∧ N.fv = .slice fa n fc ∧ BytesV w dv bs ∧ bs.length ≤ 65536 ∧ (if 4096 ≤ (absN N).fl.length then ((3 : Int), absN N) else (0, nPut (absN N) fr to bs)) = R) := ⟨h, ho, hi3, by rw [hn]; exact hfv, hda, hbl, hR⟩
    clear h ho hr hex hf hp hi hi2 hi3 f1 hfv hn hbl hda hR
    go_enter Try.func16, Try.ntmps16
    go_wp2_with (first
      | (go_at_call 33
         refine Calls.mono HP.out ?_
         rintro e w1 ⟨rfl, q1⟩
         have hN1 := HS.out.1.below q1
         have c6 : w1.cell? ⟨b, 6, none⟩ = some (.slice fa n fc) := hN1.cells.2.2.2.2.2.2.1.trans (by rw [HS.out.2.2.2.1])
         have hrow := hN1.fl
         rw [HS.out.2.2.2.1] at hrow
         obtain ⟨g, o, e1, c0, c1, c2, c3⟩ := (PkV.of hrow).at_ i _ HS.out.2.2.1
         subst e1
         have hput := put_any hN1 HS.out.2.1 x0 fr to dv bs (HS.out.2.2.2.2.1.below q1) HS.out.2.2.2.2.2.1
         rw [HS.out.2.2.2.2.2.2] at hput
         have HPT : Hid _ := hput
         have HB : Hid (Below w.heap.size w w1) := q1
         clear q1 HP hN1 hrow hput
         subst hdv)
      | (go_at_call 30
         refine Calls.mono HPT.out ?_
         rintro e w2 ⟨rfl, N', q1, q2, q3⟩
         have HQ : Hid _ := And.intro q1 (And.intro q2 q3)
         clear q1 q2 q3 HPT))
    go_ret
    exact ⟨rfl, N', HQ.out.1, (NFr.below HB.out).trans HQ.out.2.1, HQ.out.2.2⟩
end Go.Proofs.Ytemapnfbmhjlbaa
