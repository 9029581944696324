/- net: Flight. -/
import Derived.Test.YtemapnfbmhjlbaaNT
namespace Go.Proofs.Ytemapnfbmhjlbaa
open Go.RowKit Go.Maps Go.Joins
set_option linter.unusedSimpArgs false
set_option linter.unusedVariables false
theorem flight_nil (w : World) : Calls Try.prog 25 #[.pointer none] w fun e w' => e = .returned (.slice none 0 0) ∧ w' = w := by
  go_enter Try.func25, Try.ntmps25
  go_wp2
  go_ret
  exact ⟨rfl, rfl⟩
/-- Packets in a slice that the call gave. -/
structure OutP (w : World) (base : Nat) (v : Value) (l : List PK) : Prop where
  row : w.ownsRow base 35 4 v l.length (pkL l)
  data : ∀ p ∈ l, BytesV w p.dv p.bs
theorem OutP.below {w w' : World} {base : Nat} {v : Value} {l : List PK} (h : OutP w base v l) (hb : Below w.heap.size w w') : OutP w' base v l :=
  ⟨ownsRow_heap h.row (fun x hx => hb.block x (h.row.lt x hx).2), fun p hp => (h.data p hp).below hb⟩
/-- Within Flight's rounds. -/
structure FlJ (w wr : World) (v : Value) (g : Nat) (l0 l : List PK) : Prop where
  row : wr.ownsRow w.heap.size 35 4 v l.length (pkL l)
  data : ∀ p ∈ l, BytesV wr p.dv p.bs
  off : ∀ p ∈ l, ∀ x, dBlock p.dv p.bs.length = some x → x ≠ g
  len : ∀ p ∈ l, p.bs.length ≤ 65536
  eq : l.map pkA = l0.map pkA
  below : Below w.heap.size w wr
  src : ∀ p ∈ l, ∀ x, dBlock p.dv p.bs.length = some x → (∃ q ∈ l0, dBlock q.dv q.bs.length = some x) ∨ w.heap.size ≤ x
theorem mem_set {α : Type} {l : List α} {i : Nat} {a x : α} (h : x ∈ l.set i a) : x ∈ l ∨ x = a := by
  rcases List.mem_or_eq_of_mem_set h with h | h
  · exact Or.inl h
  · exact Or.inr h
theorem map_set_same {α β : Type} (f : α → β) : ∀ (l : List α) (i : Nat) (p q : α), l[i]? = some p → f q = f p → (l.set i q).map f = l.map f
  | [], _, _, _, h, _ => by simp at h
  | a :: l, 0, p, q, h, he => by
    simp at h
    subst h
    simp [he]
  | a :: l, i + 1, p, q, h, he => by
    have h' : l[i]? = some p := by simpa using h
    simp [map_set_same f l i p q h' he]
set_option maxRecDepth 100000 in
set_option maxHeartbeats 8000000 in
/-- Flight -/
theorem flight_src {w : World} {b : Nat} {N : NS} (h : NetIs w b N) (ho : NOk N) :
    Calls Try.prog 25 #[.pointer (some ⟨b, 0, none⟩)] w fun e w' => ∃ v l, e = .returned v ∧ OutP w' w.heap.size v l ∧ l.map pkA = N.fl.map pkA ∧ Below w.heap.size w w' ∧ ∀ p ∈ l, ∀ x, dBlock p.dv p.bs.length = some x → (∃ q ∈ N.fl, dBlock q.dv q.bs.length = some x) ∨ w.heap.size ≤ x := by
  have c6 := h.cells.2.2.2.2.2.2.1
  obtain ⟨fa, fc, hfv⟩ := row_form h.fl
  have hcl := cloneP_any N.fv (pkL N.fl) N.fl.length h.fl (pkL_one _ h.data) (by have := ho.fl; omega)
  obtain ⟨n, hn⟩ : ∃ n, n = N.fl.length := ⟨_, rfl⟩
  have HC : Hid _ := hcl
  have HS : Hid (NetIs w b N ∧ NOk N ∧ n = N.fl.length) := ⟨h, ho, hn⟩
  rw [hfv, ← hn] at HC
  rw [hfv, ← hn] at c6
  have hn9 : n ≤ 4096 := by rw [hn]; exact ho.fl
  clear h ho hfv hn hcl
  go_enter Try.func25, Try.ntmps25
  go_wp2_with (go_at_call 46; refine Calls.mono HC.out ?_; rintro e w1 ⟨v, rfl, q1, q2⟩; obtain ⟨va, vc, rfl⟩ := row_form q1; have HQ : Hid (w1.ownsRow w.heap.size 35 4 (.slice va n vc) n (pkL N.fl) ∧ Below w.heap.size w w1) := ⟨q1, q2⟩; clear q1 q2 HC)
  obtain ⟨g, hg⟩ : ∃ g, 0 < n → va = some ⟨g, 0, none⟩ ∧ w.heap.size ≤ g := by
    rcases HQ.out.1.2 with ⟨_, h0⟩ | ⟨g, cap, cur, e, hb, _⟩
    · exact ⟨0, fun h => by omega⟩
    · injection e with e
      exact ⟨g, fun _ => ⟨e, hb⟩⟩
  have HG : Hid (0 < n → va = some ⟨g, 0, none⟩ ∧ w.heap.size ≤ g) := hg
  clear hg
  go_loopw [14] (fun x wr => ∃ (k : Nat) (l : List PK), x = .int .i64 k ∧ k ≤ n ∧ Hid (FlJ w wr (.slice va n vc) g N.fl l)) (fun x wr => n - (intOf x).toNat)
  case atStart =>
    refine ⟨0, N.fl, rfl, Nat.zero_le _, ?_, fun p hp => (HS.out.1.data p hp).below HQ.out.2, fun p hp x hx e => ?_, HS.out.2.1.bs, rfl, HQ.out.2, fun p hp x hx => Or.inl ⟨p, hp, hx⟩⟩
    · rw [← HS.out.2.2]; exact HQ.out.1
    · have h1 := dBlock_lt (HS.out.1.data p hp) hx
      have h2 := HG.out (by have := List.length_pos_of_mem hp; have := HS.out.2.2; omega)
      omega
  case round =>
    obtain ⟨k, l, rfl, hkn, HJ⟩ := hrel
    have hll : l.length = n := by have := congrArg List.length HJ.out.eq; simp at this; rw [this]; exact HS.out.2.2.symm
    by_cases hlt : k < n
    · obtain ⟨p, hp⟩ : ∃ p, l[k]? = some p := ⟨_, List.getElem?_eq_getElem (by omega)⟩
      have hpm := List.mem_of_getElem? hp
      obtain ⟨hva, hgw⟩ := HG.out (by omega)
      have hrow := HJ.out.row
      rw [hva] at hrow
      obtain ⟨g', o', e1, c0, c1, c2, c3⟩ := (PkV.of (l := l) (n := n) (c := vc) hrow).at_ k p hp
      injection e1 with e1
      injection e1 with e1 e2 _
      subst e1
      subst e2
      rw [Nat.zero_add] at c3
      have hbc := bclone_any p.dv p.bs (HJ.out.data p hpm) (by have := HJ.out.len p hpm; omega)
      obtain ⟨da, dc, hdv⟩ := (HJ.out.data p hpm).form
      rw [hdv] at c3 hbc
      have HB : Hid _ := hbc
      have hz : wr.frozen? ⟨g, k * 4 + 3, none⟩ = false := by
        rcases hrow.2 with ⟨e, _⟩ | ⟨g2, cap, cur, e, _, hg, _⟩
        · cases e
        · injection e with e
          injection e with e
          injection e with e _ _
          subst e
          exact unfrozen_of_block hg _
      have hgs : g < wr.heap.size := (hrow.lt g rfl).2
      have HP : Hid (l[k]? = some p ∧ l.length = n ∧ va = some ⟨g, 0, none⟩ ∧ w.heap.size ≤ g ∧ p ∈ l) := ⟨hp, hll, hva, hgw, hpm⟩
      subst hva
      clear hp hll hgw hrow hbc hpm c0 c1 c2 hdv
      go_wp2_with (go_at_call 47; refine Calls.mono HB.out ?_; rintro e w2 ⟨v2, rfl, q1, q2⟩; obtain ⟨v2a, v2c, rfl⟩ := row_form q1; have HD : Hid (w2.ownsRow wr.heap.size 5 1 (.slice v2a p.bs.length v2c) p.bs.length (vB p.bs) ∧ Below wr.heap.size wr w2) := ⟨q1, q2⟩; have hz2 : w2.frozen? ⟨g, k * 4 + 3, none⟩ = false := (q2.frozen (p := ⟨g, k * 4 + 3, none⟩) hgs).trans hz; have c32 : w2.cell? ⟨g, k * 4 + 3, none⟩ = some _ := (q2.cell (p := ⟨g, k * 4 + 3, none⟩) hgs).trans c3; clear q1 q2 HB)
      go_roundw
      case rel =>
        have hr1 := (ownsRow_heap (w' := w2) HJ.out.row (fun x hx => HD.out.2.block x (HJ.out.row.lt x hx).2))
        have hr2 := ownsRow_set (u := .slice v2a p.bs.length v2c) (j := k * 4 + 3) (g := g) hr1 rfl (by have := HP.out.2.1; omega)
        rw [pkL_set l k p _ HP.out.1] at hr2
        have hkb : ∀ x, x ≠ g → (w2.setCell ⟨g, k * 4 + 3, none⟩ (.slice v2a p.bs.length v2c)).heap[x]? = w2.heap[x]? := fun x hx => Below.heap_setCell _ _ _ _ hx
        refine ⟨k + 1, l.set k { p with dv := .slice v2a p.bs.length v2c }, by go_num, by omega, ⟨by rw [List.length_set]; exact hr2, fun q hq => ?_, fun q hq x hx => ?_, fun q hq => ?_, ?_, ?_, fun q hq x hx => ?_⟩⟩
        · rcases mem_set hq with hq | rfl
          · exact ((HJ.out.data q hq).below HD.out.2).kept (fun x hx => hkb x (HJ.out.off q hq x hx))
          · exact (BytesV.of_own HD.out.1).kept (fun x hx => hkb x (fun e => by have := (HD.out.1.lt x (dBlock_own hx)).1; omega))
        · rcases mem_set hq with hq | rfl
          · exact HJ.out.off q hq x hx
          · have := (HD.out.1.lt x (dBlock_own hx)).1; omega
        · rcases mem_set hq with hq | rfl
          · exact HJ.out.len q hq
          · exact HJ.out.len p HP.out.2.2.2.2
        · exact (map_set_same pkA l k p { p with dv := .slice v2a p.bs.length v2c } HP.out.1 rfl).trans HJ.out.eq
        · exact (HJ.out.below.trans (HD.out.2.mono HJ.out.below.size)).setCell (p := ⟨g, k * 4 + 3, none⟩) HP.out.2.2.2.1 _
        · rcases mem_set hq with hq | rfl
          · exact HJ.out.src q hq x hx
          · exact Or.inr (Nat.le_trans HJ.out.below.size (HD.out.1.lt x (dBlock_own hx)).1)
      case measure => simp [intOf]; omega
    · obtain rfl : k = n := by omega
      have HL : Hid (l.length = k) := hll
      clear hll
      go_wp2
      go_ret
      exact ⟨_, l, rfl, ⟨by have := HJ.out.row; rw [HL.out] at this; rw [HL.out]; exact this, HJ.out.data⟩, HJ.out.eq, HJ.out.below, HJ.out.src⟩
theorem flight_any {w : World} {b : Nat} {N : NS} (h : NetIs w b N) (ho : NOk N) :
    Calls Try.prog 25 #[.pointer (some ⟨b, 0, none⟩)] w fun e w' => ∃ v l, e = .returned v ∧ OutP w' w.heap.size v l ∧ l.map pkA = N.fl.map pkA ∧ Below w.heap.size w w' :=
  (flight_src h ho).mono fun _ _ ⟨v, l, h1, h2, h3, h4, _⟩ => ⟨v, l, h1, h2, h3, h4⟩
end Go.Proofs.Ytemapnfbmhjlbaa
