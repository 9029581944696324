/- X9, WVB, XA -/
import Derived.Test.YtoplejbmgpgkhaaGreatDoorGWVA
import Derived.BigQuiet
import Derived.Deep.QuietTactic
namespace Go.Proofs.YtoplejbmgpgkhaaGreatDoor
open Go.RowKit Go.Maps Go.Joins Go.Sort
set_option linter.unusedVariables false
set_option linter.unusedSimpArgs false
theorem ldx_one {A A1 A2 : DA} {P P1 P2 : PL} {n c1 c2 : Int} {last : Bool} (h1 : LdX A P n last c1 A1 P1) (h2 : LdX A P n last c2 A2 P2) : c1 = c2 ∧ A1 = A2 ∧ (c1 = 0 → P1 = P2) := by
  rcases h1 with ⟨a1, a2, a3⟩ | ⟨a0, a1⟩
  · rcases h2 with ⟨b1, b2, b3⟩ | ⟨b0, _⟩
    · exact ⟨a2.trans b2.symm, a3.trans b3.symm, fun h => absurd (a2.symm.trans h) a1⟩
    · exact absurd b0 a1
  · rcases h2 with ⟨b1, _⟩ | ⟨b0, b1⟩
    · exact absurd a0 b1
    · rcases a1 with ⟨a1, a2, a3, a4⟩ | ⟨a1, a2⟩
      · rcases b1 with ⟨b1, b2, b3, b4⟩ | ⟨b1, _⟩
        · exact ⟨a3.trans b3.symm, a4.trans b4.symm, fun h => by rw [a3] at h; exact absurd h (by decide)⟩
        · rcases b1 with b1 | b1
          · exact absurd b1 a1
          · exact absurd b1 a2
      · rcases b1 with ⟨b1, b2, _⟩ | ⟨b1, b2⟩
        · rcases a1 with a1 | a1
          · exact absurd a1 b1
          · exact absurd a1 b2
        · have hs : ∀ {k : Nat} {rs : List (List Int)}, ((k = (dBytes A (fileB logB n)).length ∧ c1 = 0 ∧ A1 = (dRead A (fileB logB n)).2) ∨ (k < (dBytes A (fileB logB n)).length ∧ (nx ((dBytes A (fileB logB n)).drop k)).1 = 10 ∧ last = true ∧ c1 = (dTru (dRead A (fileB logB n)).2 (fileB logB n) k).1 ∧ A1 = (dTru (dRead A (fileB logB n)).2 (fileB logB n) k).2)) → k = (dBytes A (fileB logB n)).length ∨ (nx ((dBytes A (fileB logB n)).drop k)).1 ≠ 0 := fun h => h.elim (fun h => Or.inl h.1) (fun h => Or.inr (by rw [h.2.1]; decide))
          have ht : ∀ {k : Nat} {rs : List (List Int)}, ((k = (dBytes A (fileB logB n)).length ∧ c2 = 0 ∧ A2 = (dRead A (fileB logB n)).2) ∨ (k < (dBytes A (fileB logB n)).length ∧ (nx ((dBytes A (fileB logB n)).drop k)).1 = 10 ∧ last = true ∧ c2 = (dTru (dRead A (fileB logB n)).2 (fileB logB n) k).1 ∧ A2 = (dTru (dRead A (fileB logB n)).2 (fileB logB n) k).2)) → k = (dBytes A (fileB logB n)).length ∨ (nx ((dBytes A (fileB logB n)).drop k)).1 ≠ 0 := fun h => h.elim (fun h => Or.inl h.1) (fun h => Or.inr (by rw [h.2.1]; decide))
          rcases a2 with ⟨a3, a4, k, rs, a5, a6, a7, a8⟩ | ⟨k, rs, a5, a6, a7⟩
          · rcases b2 with ⟨b3, b4, k', rs', b5, b6, b7, b8⟩ | ⟨k', rs', b5, b6, b7⟩
            · exact ⟨a3.trans b3.symm, a4.trans b4.symm, fun h => by rw [a3] at h; exact absurd h (by decide)⟩
            · exfalso
              obtain ⟨rfl, rfl⟩ := a5.unique b5 (Or.inr a7) (ht (rs := rs') b7)
              rcases b7 with ⟨b7, _⟩ | ⟨_, b7, b9, _⟩
              · omega
              · exact a8 ⟨b7, b9⟩
          · rcases b2 with ⟨b3, b4, k', rs', b5, b6, b7, b8⟩ | ⟨k', rs', b5, b6, b7⟩
            · exfalso
              obtain ⟨rfl, rfl⟩ := a5.unique b5 (hs (rs := rs) a7) (Or.inr b7)
              rcases a7 with ⟨a7, _⟩ | ⟨_, a7, a9, _⟩
              · omega
              · exact b8 ⟨a7, a9⟩
            · obtain ⟨rfl, rfl⟩ := a5.unique b5 (hs (rs := rs) a7) (ht (rs := rs') b7)
              refine ⟨?_, ?_, fun _ => a6.trans b6.symm⟩
              · rcases a7 with ⟨a7, a8, _⟩ | ⟨a7, _, _, a8, _⟩
                · rcases b7 with ⟨_, b8, _⟩ | ⟨b7, _⟩
                  · exact a8.trans b8.symm
                  · omega
                · rcases b7 with ⟨b7, _⟩ | ⟨_, _, _, b8, _⟩
                  · omega
                  · exact a8.trans b8.symm
              · rcases a7 with ⟨a7, _, a8⟩ | ⟨a7, _, _, _, a8⟩
                · rcases b7 with ⟨_, _, b8⟩ | ⟨b7, _⟩
                  · exact a8.trans b8.symm
                  · omega
                · rcases b7 with ⟨b7, _⟩ | ⟨_, _, _, _, b8⟩
                  · omega
                  · exact a8.trans b8.symm
/-- Open's answer is determined. -/
theorem opx_one : ∀ (ns : List Int) {A A1 A2 : DA} {P P1 P2 : PL} {c1 c2 : Int}, OpX A P ns c1 A1 P1 → OpX A P ns c2 A2 P2 → c1 = c2 ∧ A1 = A2 ∧ (c1 = 0 → P1 = P2)
  | [], A, A1, A2, P, P1, P2, c1, c2, ⟨h1, h2, h3⟩, ⟨g1, g2, g3⟩ => ⟨h1.trans g1.symm, h2.trans g2.symm, fun _ => h3.trans g3.symm⟩
  | n :: r, A, A1, A2, P, P1, P2, c1, c2, ⟨d1, B1, M1, h1, h2⟩, ⟨d2, B2, M2, g1, g2⟩ => by
    obtain ⟨e1, e2, e3⟩ := ldx_one h1 g1
    subst e1
    subst e2
    rcases h2 with ⟨h2, h3, h4⟩ | ⟨h2, h3⟩
    · rcases g2 with ⟨_, g3, g4⟩ | ⟨g2, _⟩
      · exact ⟨h3.trans g3.symm, h4.trans g4.symm, fun h => absurd (h3.symm.trans h) h2⟩
      · exact absurd g2 h2
    · rcases g2 with ⟨g2, _⟩ | ⟨_, g3⟩
      · exact absurd h2 g2
      · obtain rfl := e3 h2
        exact opx_one r h3 g3
set_option maxRecDepth 100000 in
set_option maxHeartbeats 4000000 in
/-- names of the same names. -/
theorem names_s {w : World} {v1 v2 : Value} {l : List ByteArray} (h1 : StrV w v1 l) (h2 : StrV w v2 l) (hl : l.length ≤ 1000) : Calls Tryz.prog 32 #[v1, v2] w fun e w' => e = .returned (.bool true) ∧ Below w.heap.size w w' := by
  obtain ⟨a, c, rfl, h1⟩ := h1
  obtain ⟨a', c', rfl, h2⟩ := h2
  have H : Hid ((∀ j s, l[j]? = some s → ∃ g, a = some ⟨g, 0, none⟩ ∧ w.cell? ⟨g, j, none⟩ = some (.string s)) ∧ (∀ j s, l[j]? = some s → ∃ g, a' = some ⟨g, 0, none⟩ ∧ w.cell? ⟨g, j, none⟩ = some (.string s))) := ⟨h1, h2⟩
  clear h1 h2
  go_enter Tryz.func32, Tryz.ntmps32
  go_wp2_with fail
  go_loopw [5] (fun i wr => ∃ (k : Nat), k ≤ l.length ∧ i = .int .i64 (k : Nat) ∧ Below w.heap.size w wr) (fun i _ => l.length - (intOf i).toNat)
  case atStart => exact ⟨0, Nat.zero_le _, rfl, Below.refl _ _⟩
  case round =>
    obtain ⟨k, hk, rfl, hbw⟩ := hrel
    have HBW : Hid _ := hbw
    by_cases hkl : k < l.length
    · obtain ⟨s, hs⟩ : ∃ s, l[k]? = some s := ⟨_, List.getElem?_eq_getElem hkl⟩
      obtain ⟨g, ha, hc⟩ := H.out.1 k s hs
      obtain ⟨g', ha', hc'⟩ := H.out.2 k s hs
      subst ha
      subst ha'
      have hki : (k : Int) < l.length := by omega
      have d1 : wr.cell? ⟨g, k, none⟩ = some (.string s) := (hbw.cell (p := ⟨g, k, none⟩) (cell_lt hc)).trans hc
      have d2 : wr.cell? ⟨g', k, none⟩ = some (.string s) := (hbw.cell (p := ⟨g', k, none⟩) (cell_lt hc')).trans hc'
      clear hs hc hc' hbw
      go_wp2_with fail
      go_quiet (fail)
      go_wp2
      go_roundw
      case rel => exact ⟨k + 1, by omega, by go_num, HBW.out.trans ((below_drewN' wr nq).mono HBW.out.size)⟩
      case measure => simp [intOf]; omega
    · have hki : decide ((k : Int) < l.length) = false := by simp; omega
      go_wp2
      go_returns
      exact ⟨rfl, HBW.out⟩
end Go.Proofs.YtoplejbmgpgkhaaGreatDoor
namespace Go.Proofs.YtoplejbmgpgkhaaGreatDoor
open Go.RowKit Go.Maps Go.Joins Go.Sort
set_option linter.unusedVariables false
set_option linter.unusedSimpArgs false
theorem conv_any {w : World} {ad : Addr} {cap : Nat} {xs : List Int} (h : ∀ j u, (vB xs)[j]? = some u → w.cell? (ad.add j) = some u) : (convert 36 9 (.slice (some ad) xs.length cap)).run Tryz.prog w = .ok (.string (strOfNums xs)) w := by
  have hl : (loadCells ad xs.length).run Tryz.prog w = .ok (xs.map (Value.int .u8)).toArray w := by
    have := run_loadCells_list (P := Tryz.prog) w ad (vB xs) (fun j v hj => h j v hj)
    simpa [vB] using this
  rw [run_convert_bytes_string w 36 9 5 _ xs.length cap Tryz.underlying36 Tryz.underlying5 Tryz.underlying9, run_bytesToString w _ xs.length cap xs hl, foldl_push_bytes]
  simp [strOfNums, ByteArray.empty, ByteArray.emptyWithCapacity]
  rfl
/-- Same of the same bytes. -/
theorem same_b {w : World} {a b : Value} {xs : List Int} (ha : BytesV w a xs) (hb : BytesV w b xs) : Calls Tryz.prog 22 #[a, b] w fun e w' => e = .returned (.bool true) ∧ w' = w := by
  have key : ∀ v, BytesV w v xs → (∃ a l c, v = .slice a l c) ∧ (convert 36 9 v).run Tryz.prog w = .ok (.string (strOfNums xs)) w := fun v hv => by
    rcases hv with ⟨rfl, rfl⟩ | ⟨ad, cap, rfl, hc⟩
    · exact ⟨⟨_, _, _, rfl⟩, run_convert_bytes_nil w 36 5 Tryz.underlying36 Tryz.underlying5 0 0 9 Tryz.underlying9⟩
    · exact ⟨⟨_, _, _, rfl⟩, conv_any hc⟩
  obtain ⟨⟨_, _, _, rfl⟩, h1⟩ := key a ha
  obtain ⟨⟨_, _, _, rfl⟩, h2⟩ := key b hb
  clear ha hb key
  go_enter Tryz.func22, Tryz.ntmps22
  go_wp2
  go_ret
  exact ⟨by simp, rfl⟩
theorem own_bv {w : World} {base : Nat} {v : Value} {xs : List Int} (h : w.ownsRow base 5 1 v xs.length (vB xs)) : BytesV w v xs := by
  rcases id h.2 with ⟨rfl, h0⟩ | ⟨g, cap, cur, rfl, _⟩
  · exact Or.inl ⟨rfl, List.eq_nil_of_length_eq_zero h0⟩
  · refine Or.inr ⟨⟨g, 0, none⟩, cap, rfl, fun j u hu => ?_⟩
    exact h.cells (g := g) rfl j u hu
theorem LI.up {W wr : World} {bd bl : Nat} {v : Value} {vs : List Value} {rs : List (List Int)} {sc st st' : Nat} (h : LI W wr bd bl v vs rs sc st) (hs : st ≤ st') : LI W wr bd bl v vs rs sc st' := by
  obtain ⟨S, L, A, P, ini, la, h1, h2, h3, h4, h5, h6⟩ := h.log
  exact ⟨h.own, S, L, A, P, ini, la, h1, h2, h3, by omega, h5, h6⟩
theorem own_cell {w : World} {base : Nat} {xa : Option Addr} {n xc : Nat} {vs : List Value} (h : w.ownsRow base 36 1 (.slice xa n xc) vs.length vs) {j : Nat} {u : Value} (hj : vs[j]? = some u) : ∃ g, xa = some ⟨g, 0, none⟩ ∧ w.cell? ⟨g, j, none⟩ = some u := by
  rcases id h.2 with ⟨_, h0⟩ | ⟨g, cap, cur, e, _⟩
  · have : vs = [] := List.eq_nil_of_length_eq_zero (by simpa using h0)
    rw [this] at hj
    simp at hj
  · injection e with e1 e2 e3
    subst e1
    have := h.cells (g := g) rfl j u hj
    rw [Addr.add_lit] at this
    exact ⟨g, rfl, by simpa using this⟩
end Go.Proofs.YtoplejbmgpgkhaaGreatDoor
namespace Go.Proofs.YtoplejbmgpgkhaaGreatDoor
open Go.RowKit Go.Maps Go.Joins Go.Sort
set_option linter.unusedVariables false
set_option linter.unusedSimpArgs false
theorem Took.small {bs : List Int} {k : Nat} {rs : List (List Int)} (h : Took bs k rs) : ∀ r ∈ rs, r.length ≤ 65536 := by
  induction h with
  | nil => intro r hr; cases hr
  | step h1 h2 h3 ih =>
    intro r hr
    rcases List.mem_append.1 hr with hr | hr
    · exact ih r hr
    · rw [List.mem_singleton.1 hr]
      exact (nx_ok h3).2.2.2
theorem ldx_small {A A' : DA} {P P' : PL} {n c : Int} {last : Bool} (h : LdX A P n last c A' P') (hc : c = 0) (hp : ∀ r ∈ P.rs, r.length ≤ 65536) : ∀ r ∈ P'.rs, r.length ≤ 65536 := by
  rcases h with ⟨h1, h2, _⟩ | ⟨_, ⟨_, _, h2, _⟩ | ⟨_, ⟨h2, _⟩ | ⟨k, rs, ht, rfl, _⟩⟩⟩
  · exact absurd (h2.symm.trans hc) h1
  · rw [hc] at h2; exact absurd h2 (by decide)
  · rw [hc] at h2; exact absurd h2 (by decide)
  · intro r hr
    rcases List.mem_append.1 hr with hr | hr
    · exact hp r hr
    · exact ht.small r hr
theorem opx_small : ∀ (ns : List Int) {A A' : DA} {P P' : PL} {c : Int}, OpX A P ns c A' P' → c = 0 → (∀ r ∈ P.rs, r.length ≤ 65536) → ∀ r ∈ P'.rs, r.length ≤ 65536
  | [], A, A', P, P', c, ⟨_, _, h3⟩, _, hp => by rw [h3]; exact hp
  | n :: r, A, A', P, P', c, ⟨d, B, M, h1, h2⟩, hc, hp => by
    rcases h2 with ⟨h2, h3, _⟩ | ⟨h2, h3⟩
    · exact absurd (h3.symm.trans hc) h2
    · exact opx_small r h3 hc (ldx_small h1 h2 hp)
set_option maxRecDepth 100000 in
set_option maxHeartbeats 8000000 in
theorem same_q {w : World} {bl bq : Nat} {L : LS} {Q : QS} (hL : LogIs w bl L) (hn : LN L) (hQ : QIs w bq Q) (hrs : Q.rs.map (·.2) = L.rs.map (·.2)) (hf : Q.frm = Proofs.YtoplejbmgpgkhaaGreatDoor.fst L) (hs : ∀ p ∈ L.rs, p.2.length ≤ 65536) :
    Calls Tryz.prog 35 #[.pointer (some ⟨bl, 0, none⟩), .pointer (some ⟨bq, 0, none⟩)] w fun e w' => e = .returned (.bool true) ∧ Below w.heap.size w w' := by
  have hlen : Q.rs.length = L.rs.length := by
    have := congrArg List.length hrs
    simpa using this
  obtain ⟨ba, bc, hbv⟩ := row_form hQ.recs
  rw [hlen] at hbv
  have c5 : w.cell? ⟨bq, 5, none⟩ = some (.int .i64 (Proofs.YtoplejbmgpgkhaaGreatDoor.fst L)) := by rw [cell_of_block hQ.log, ← hf]; rfl
  have c4 : w.cell? ⟨bq, 4, none⟩ = some (.slice ba L.rs.length bc) := by rw [cell_of_block hQ.log, ← hbv]; rfl
  have hfb := LN.fst hn
  have hln := hn.2
  have HE' : Hid (∀ k, Calls Tryz.prog 48 #[.pointer (some ⟨bl, 0, none⟩)] (w.drewN k) fun e w' => e = .returned (.int .i64 (Proofs.YtoplejbmgpgkhaaGreatDoor.fst L + (L.rs.length : Int))) ∧ ∃ m, w' = (w.drewN k).drewN m) := fun k => end_any (hL.drewN k) hn
  have H : Hid (LogIs w bl L ∧ LN L ∧ QIs w bq Q ∧ Q.rs.map (·.2) = L.rs.map (·.2) ∧ (∀ p ∈ L.rs, p.2.length ≤ 65536) ∧ Q.bv = .slice ba L.rs.length bc) := ⟨hL, hn, hQ, hrs, hs, hbv⟩
  have HF : Hid (∀ k, Calls Tryz.prog 47 #[.pointer (some ⟨bl, 0, none⟩)] (w.drewN k) fun e w' => e = .returned (.int .i64 (Proofs.YtoplejbmgpgkhaaGreatDoor.fst L)) ∧ w' = w.drewN k) := fun k => first_any (hL.drewN k)
  obtain ⟨x, hx⟩ : ∃ x, Proofs.YtoplejbmgpgkhaaGreatDoor.fst L = x := ⟨_, rfl⟩
  have HFQ : Hid (Q.frm = x) := hf.trans hx
  clear hL hn hQ hrs hf hs hlen hbv
  rw [hx] at c5 hfb HE' HF
  have HX : Hid _ := hx
  clear hx
  go_enter Tryz.func35, Tryz.ntmps35
  go_wp2_with fail
  have hq : (x == x) = true := by simp
  have hq2 : (x + (L.rs.length : Int) == x + (L.rs.length : Int)) = true := by simp
  go_quiet (first
    | (go_at_call 47
       exact Calls.quiet_of_same (HF.out _))
    | (go_at_call 48
       exact Calls.quiet_of (HE'.out _)))
  have hN : LogIs (w.drewN nq) bl L ∧ QIs (w.drewN nq) bq Q ∧ Below w.heap.size w (w.drewN nq) := ⟨H.out.1.drewN nq, H.out.2.2.1.below (below_drewN' _ _), below_drewN' _ _⟩
  generalize w.drewN nq = w1 at hN ⊢
  have HN : Hid _ := hN
  clear hN c4 c5 hq hq2
  go_wp2_with fail
  go_loopw [5] (fun i wr => ∃ (k : Nat), k ≤ L.rs.length ∧ i = .int .i64 (k : Nat) ∧ LogIs wr bl L ∧ QIs wr bq Q ∧ Below w.heap.size w wr) (fun i _ => L.rs.length - (intOf i).toNat)
  case atStart => exact ⟨0, Nat.zero_le _, rfl, HN.out⟩
  case round =>
    obtain ⟨k, hk, rfl, hl, hq, hb⟩ := hrel
    have HR : Hid (LogIs wr bl L ∧ QIs wr bq Q ∧ Below w.heap.size w wr) := ⟨hl, hq, hb⟩
    have d4 : wr.cell? ⟨bq, 4, none⟩ = some (.slice ba L.rs.length bc) := by rw [cell_of_block hq.log, ← H.out.2.2.2.2.2]; rfl
    have d5 : wr.cell? ⟨bq, 5, none⟩ = some (.int .i64 x) := by rw [cell_of_block hq.log]; show some (Value.int .i64 Q.frm) = _; rw [HFQ.out]
    clear hl hq hb
    by_cases hkl : k < L.rs.length
    · obtain ⟨q, hqq⟩ : ∃ q, L.rs[k]? = some q := ⟨_, List.getElem?_eq_getElem hkl⟩
      obtain ⟨p, hp⟩ : ∃ p, Q.rs[k]? = some p := ⟨_, List.getElem?_eq_getElem (by have := congrArg List.length H.out.2.2.2.1; simp at this; omega)⟩
      have hqp : q.2 = p.2 := by
        have h1 : (Q.rs.map (·.2))[k]? = some p.2 := by rw [List.getElem?_map, hp]; rfl
        rw [H.out.2.2.2.1, List.getElem?_map, hqq] at h1
        exact Option.some.inj h1
      have hki : (k : Int) < L.rs.length := by omega
      have hpv : ∃ pa pc, p.1 = .slice pa p.2.length pc := by
        rcases HR.out.2.1.each p (List.mem_of_getElem? hp) with ⟨e, e2⟩ | ⟨ad, cap, e, _⟩
        · exact ⟨none, 0, by rw [e, e2]; rfl⟩
        · exact ⟨some ad, cap, e⟩
      obtain ⟨pa, pc, hpv⟩ := hpv
      have hvk : (Q.rs.map (·.1))[k]? = some (.slice pa p.2.length pc) := by rw [List.getElem?_map, hp]; exact congrArg some hpv
      have hrow := HR.out.2.1.recs
      rw [H.out.2.2.2.2.2] at hrow
      have hrow' : wr.ownsRow 0 36 1 (.slice ba L.rs.length bc) (Q.rs.map (·.1)).length (Q.rs.map (·.1)) := by rw [List.length_map]; exact hrow
      obtain ⟨g, hba, hcg⟩ := own_cell hrow' hvk
      subst hba
      have HQ : Hid (L.rs[k]? = some q ∧ q.2.length ≤ 65536 ∧ q.2 = p.2 ∧ p ∈ Q.rs ∧ p.1 = .slice pa p.2.length pc ∧ (Q.rs.map (·.1))[k]? = some (.slice pa p.2.length pc)) := ⟨hqq, H.out.2.2.2.2.1 q (List.mem_of_getElem? hqq), hqp, List.mem_of_getElem? hp, hpv, hvk⟩
      have hG := get_here HR.out.1 H.out.2.1 k (x + (k : Nat)) (by rw [HX.out]) hqq (by have := HQ.out.2.1; omega)
      have HG : Hid _ := hG
      clear hqq hp hqp hpv hvk hrow hrow' hG hcg
      go_wp2_with (first
        | (go_at_call 20
           refine Calls.mono HG.out ?_
           rintro e w5 ⟨xv, rfl, ho5, hb5⟩
           have H5 : Hid (LogIs w5 bl L ∧ QIs w5 bq Q ∧ Below w.heap.size w w5 ∧ BytesV w5 xv p.2) := ⟨HR.out.1.below hb5, HR.out.2.1.below hb5, HR.out.2.2.trans (hb5.mono HR.out.2.2.size), HQ.out.2.2.1 ▸ own_bv ho5⟩
           have i4 : w5.cell? ⟨bq, 4, none⟩ = some (.slice (some ⟨g, 0, none⟩) L.rs.length bc) := by rw [cell_of_block H5.out.2.1.log, ← H.out.2.2.2.2.2]; rfl
           have ig : w5.cell? ⟨g, k, none⟩ = some (.slice pa p.2.length pc) := by
             have hrow := H5.out.2.1.recs
             rw [H.out.2.2.2.2.2] at hrow
             have hrow' : w5.ownsRow 0 36 1 (.slice (some ⟨g, 0, none⟩) L.rs.length bc) (Q.rs.map (·.1)).length (Q.rs.map (·.1)) := by rw [List.length_map]; exact hrow
             obtain ⟨g', e1, e2⟩ := own_cell hrow' HQ.out.2.2.2.2.2
             injection e1 with e1
             injection e1 with e1 _ _
             rw [← e1] at e2
             exact e2
           clear ho5 hb5)
        | (go_at_call 22
           refine Calls.mono (same_b H5.out.2.2.2 (HQ.out.2.2.2.2.1 ▸ H5.out.2.1.each p HQ.out.2.2.2.1)) ?_
           rintro e w6 ⟨rfl, hw6⟩
           obtain rfl := hw6.symm
           clear hw6))
      go_roundw
      case rel => exact ⟨k + 1, by omega, by go_num, H5.out.1, H5.out.2.1, H5.out.2.2.1⟩
      case measure => simp [intOf]; omega
    · have hki : decide ((k : Int) < L.rs.length) = false := by simp; omega
      go_wp2
      go_returns
      exact ⟨rfl, HR.out.2.2⟩
end Go.Proofs.YtoplejbmgpgkhaaGreatDoor
