/- net: the reference's Send and Copy. -/
import Derived.Test.YtemapnfbmhjlbaaRC
namespace Go.Proofs.Ytemapnfbmhjlbaa
open Go.RowKit Go.Maps Go.Joins
set_option linter.unusedSimpArgs false
set_option linter.unusedVariables false
theorem rsend_any {w : World} {b : Nat} {N : RS} (h : RIs w b N) (ho : ROk N) (id fr to : Int) (dv : Value) (bs : List Int) (hd : BytesV w dv bs) (hl : bs.length ≤ 65536) :
    Calls Try.prog 32 #[.pointer (some ⟨b, 0, none⟩), .agg #[.int .i64 id, .int .i64 fr, .int .i64 to, dv]] w fun e w' => RtR w b N (if 4096 ≤ (absR N).fl.length then (3, absR N) else (0, nPut (absR N) fr to bs)) e w' := by
  have hfl : (absR N).fl.length = N.fl.length := by simp [absR]
  rw [hfl]
  by_cases hf : 4096 ≤ N.fl.length
  · rw [if_pos hf]
    refine (rsend_full h hf id fr to dv).mono ?_
    rintro e w' ⟨rfl, hb⟩
    exact ⟨rfl, N, h.below hb, RFr.below hb, rfl⟩
  · rw [if_neg hf]
    exact rsend_ok h (by omega) ho.nx id fr to dv bs hd hl
set_option maxRecDepth 100000 in
set_option maxHeartbeats 8000000 in
/-- Send, of the reference. -/
theorem rSend_any {w : World} {b : Nat} {N : RS} (h : RIs w b N) (ho : ROk N) (fr to : Int) (dv : Value) (bs : List Int) (hd : BytesV w dv bs) (h63 : bs.length ≤ 9223372036854775807) :
    Calls Try.prog 12 #[.pointer (some ⟨b, 0, none⟩), .int .i64 fr, .int .i64 to, dv] w fun e w' => RtR w b N (nSend (absR N) fr to bs) e w' := by
  obtain ⟨dva, dvc, hdv⟩ := hd.form
  have hnot : ∀ (x : Bool) (w : World), (Op.unary .not (.bool x)).run Try.prog w = .ok (.bool (!x)) w := fun _ _ => rfl
  have HS : Hid (∀ x, Calls Try.prog 31 #[.pointer (some ⟨b, 0, none⟩), .int .i64 x] w fun e w' => e = .returned (.bool (isB N.nodes x)) ∧ w' = w) := fun x => node_any h x
  have HN : Hid (RIs w b N) := h
  unfold nSend
  rw [show (absR N).nodes = N.nodes from rfl]
  cases h1 : isB N.nodes fr
  · rw [if_pos rfl]
    subst hdv
    clear h ho hd
    go_enter Try.func12, Try.ntmps12
    go_wp2_with (go_at_call 31; refine Calls.mono (HS.out _) ?_; rintro e w1 ⟨rfl, rfl⟩; rw [h1])
    go_ret
    exact ⟨rfl, N, HN.out, RFr.refl _ _, rfl⟩
  rw [if_neg (by decide)]
  cases h2 : isB N.nodes to
  · rw [if_pos rfl]
    subst hdv
    clear h ho hd
    go_enter Try.func12, Try.ntmps12
    go_wp2_with (go_at_call 31; refine Calls.mono (HS.out _) ?_; rintro e w1 ⟨rfl, rfl⟩; first | rw [h1] | rw [h2])
    go_ret
    exact ⟨rfl, N, HN.out, RFr.refl _ _, rfl⟩
  rw [if_neg (by decide)]
  by_cases h3 : 65536 < bs.length
  · rw [if_pos h3]
    subst hdv
    have h3' : (65536 : Int) < bs.length := by omega
    clear h ho hd
    go_enter Try.func12, Try.ntmps12
    go_wp2_with (go_at_call 31; refine Calls.mono (HS.out _) ?_; rintro e w1 ⟨rfl, rfl⟩; first | rw [h1] | rw [h2])
    go_ret
    exact ⟨rfl, N, HN.out, RFr.refl _ _, rfl⟩
  rw [if_neg h3]
  have hp := rsend_any h ho 0 fr to dv bs hd (by omega)
  generalize (if 4096 ≤ (absR N).fl.length then ((3 : Int), absR N) else (0, nPut (absR N) fr to bs)) = R at hp ⊢
  have HP : Hid _ := hp
  clear hp
  subst hdv
  have h3' : ¬ (65536 : Int) < bs.length := by omega
  clear h ho hd
  go_enter Try.func12, Try.ntmps12
  go_wp2_with (first
    | (go_at_call 31; refine Calls.mono (HS.out _) ?_; rintro e w1 ⟨rfl, rfl⟩; first | rw [h1] | rw [h2])
    | (go_at_call 32; refine Calls.mono HP.out ?_; rintro e w2 ⟨rfl, q⟩; have HQ : Hid _ := q; clear q HP))
  go_ret
  exact ⟨rfl, HQ.out⟩
theorem atR_no {l : List PK} {id : Int} (h : ∀ p ∈ l, p.id ≠ id) : atR l id = -1 := by
  unfold atR
  have : l.findIdx? (fun p => p.id == id) = none := by
    rw [List.findIdx?_eq_none_iff]
    intro p hp
    simpa using h p hp
  rw [this]
theorem atR_yes {l : List PK} {id : Int} {i : Nat} {p : PK} (hr : Rise l) (hi : l[i]? = some p) (he : p.id = id) : atR l id = i := by
  unfold atR
  have : l.findIdx? (fun p => p.id == id) = some i := by
    rw [List.findIdx?_eq_some_iff_getElem]
    obtain ⟨h1, h2⟩ := List.getElem?_eq_some_iff.1 hi
    refine ⟨h1, by rw [h2]; simpa using he, fun j hj => ?_⟩
    have := hr j i _ p (List.getElem?_eq_getElem (by omega)) hi hj
    simp only [beq_iff_eq]
    omega
  rw [this]
set_option maxRecDepth 100000 in
set_option maxHeartbeats 8000000 in
/-- Copy, of the reference. -/
theorem rCopy_any {w : World} {b : Nat} {N : RS} (h : RIs w b N) (ho : ROk N) (hr : Rise N.fl) (id : Int) :
    Calls Try.prog 17 #[.pointer (some ⟨b, 0, none⟩), .int .i64 id] w fun e w' => RtR w b N (nCopy (absR N) id) e w' := by
  have HT : Hid _ := at_any h ho.fl id
  by_cases hex : ∀ p ∈ N.fl, p.id ≠ id
  · have hf : nCopy (absR N) id = (33, absR N) := by
      unfold nCopy
      rw [show (absR N).fl = N.fl.map pkA from rfl, find_no hex]
    rw [hf]
    rw [atR_no hex] at HT
    have HN : Hid (RIs w b N) := h
    clear h ho hr hex hf
    go_enter Try.func17, Try.ntmps17
    go_wp2_with (go_at_call 35; refine Calls.mono HT.out ?_; rintro e w1 ⟨rfl, rfl⟩; clear HT)
    go_ret
    exact ⟨rfl, N, HN.out, RFr.refl _ _, rfl⟩
  · obtain ⟨p, hp, he⟩ : ∃ p, p ∈ N.fl ∧ p.id = id := by
      refine Classical.byContradiction fun hc => hex fun p hp he => hc ⟨p, hp, he⟩
    obtain ⟨i, hi, hi2⟩ := List.getElem_of_mem hp
    have hi3 : N.fl[i]? = some p := by rw [List.getElem?_eq_getElem hi, hi2]
    rw [atR_yes hr hi3 he] at HT
    have f1 := (find_yes hr hi3 he).1
    have hf : nCopy (absR N) id = if 4096 ≤ (absR N).fl.length then (3, absR N) else (0, nPut (absR N) p.fr p.to p.bs) := by
      unfold nCopy
      rw [show (absR N).fl = N.fl.map pkA from rfl, f1]
      rfl
    rw [hf]
    obtain ⟨x0, fr, to, dv, bs⟩ := p
    have hpt := rsend_any h ho x0 fr to dv bs (h.data _ hp) (ho.bs _ hp)
    simp only
    generalize (if 4096 ≤ (absR N).fl.length then ((3 : Int), absR N) else (0, nPut (absR N) fr to bs)) = R at hpt ⊢
    have HPT : Hid _ := hpt
    clear hpt
    have hrow := h.fl
    obtain ⟨fa, fc, hfv⟩ := row_form h.fl
    rw [hfv] at hrow
    have c3 := h.cells.2.2.2.1
    have HV : ∃ g o, fa = some ⟨g, o, none⟩ ∧ ∀ j u, (pkC ⟨x0, fr, to, dv, bs⟩)[j]? = some u → w.cell? ⟨g, o + i * 4 + j, none⟩ = some u := by
      rcases hrow.2 with ⟨e, h0⟩ | ⟨g, cap, cur, e, _⟩
      · rw [List.eq_nil_of_length_eq_zero h0] at hi3; simp at hi3
      · injection e with e1
        refine ⟨g, 0, e1, fun j u hu => ?_⟩
        have hj : j < 4 := by
          have := (List.getElem?_eq_some_iff.1 hu).1
          simpa [pkC] using this
        have hc := hrow.cells (g := g) (by rw [e1]; rfl) (i * 4 + j) u (by rw [pkL_at N.fl i _ hi3 j hj]; exact hu)
        rw [Addr.add_lit, ← Nat.add_assoc] at hc
        exact hc
    obtain ⟨g, o, rfl, hc⟩ := HV
    have d0 : w.cell? ⟨g, o + i * 4, none⟩ = some (.int .i64 x0) := hc 0 _ rfl
    have d1 : w.cell? ⟨g, o + i * 4 + 1, none⟩ = some (.int .i64 fr) := hc 1 _ rfl
    have d2 : w.cell? ⟨g, o + i * 4 + 2, none⟩ = some (.int .i64 to) := hc 2 _ rfl
    obtain ⟨dva, dvc, hdv⟩ := (h.data _ hp).form
    have d3 : w.cell? ⟨g, o + i * 4 + 3, none⟩ = some dv := hc 3 _ rfl
    simp only at hdv
    obtain ⟨n, hn⟩ : ∃ n, n = N.fl.length := ⟨_, rfl⟩
    have hin : i < n := by omega
    have hin' : (i : Int) < n := by omega
    have hn9 : n ≤ 4096 := by rw [hn]; exact ho.fl
    rw [hfv, ← hn] at c3
    subst hdv
    clear h ho hr hex hf hp hi hi2 hi3 f1 hfv hn hrow hc he
    go_enter Try.func17, Try.ntmps17
    go_wp2_with (first
      | (go_at_call 35; refine Calls.mono HT.out ?_; rintro e w1 ⟨rfl, rfl⟩; clear HT)
      | (go_at_call 32; refine Calls.mono HPT.out ?_; rintro e w2 ⟨rfl, q⟩; have HQ : Hid _ := q; clear q HPT))
    go_ret
    exact ⟨rfl, HQ.out⟩
end Go.Proofs.Ytemapnfbmhjlbaa
