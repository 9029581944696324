/- PW, PX, laid into one text. -/
import Derived.Test.YtllkpnlgemjgfaaPV
import Derived.Test.YtllkpnlgemjgfaaPH
import Derived.Test.YtllkpnlgemjgfaaPM
import Derived.Test.YtllkpnlgemjgfaaGQ
import Derived.Test.YtllkpnlgemjgfaaGP
import Derived.Test.YtllkpnlgemjgfaaCK
import Derived.BigQuiet
/- disk: does whole; both Lists; DiskPlays' walk. -/
namespace Go.Proofs.Ytllkpnlgemjgfaa
open Go.RowKit Go.Maps Go.Joins Go.Sort
set_option linter.unusedSimpArgs false
set_option linter.unusedVariables false
theorem gL_wf {l l' : List Tf} {ro c : Int} (h : Wf l ro) (h' : Wf l' ro) : Wf (gL c l l') ro := by
  unfold gL
  split
  · exact h'
  · exact h
theorem gdoes_any {w : World} {bd br : Nat} {S : DS} {R : RS} {ro : Int} (h : Tw w bd br S R ro) (hst : S.steps < 4611686018427387903) (k x : Int) (s t : ByteArray) (hs : s.size ≤ 9223372036854775807) (ht : t.size ≤ 9223372036854775807) (va : Option Addr) (vc : Nat) (bs : List Int) (hv : BytesV w (.slice va bs.length vc) bs) (hv1 : ∀ b, dBlock (.slice va bs.length vc) bs = some b → b < w.heap.size ∧ S.role b = .none ∧ R.own b = 0) (hb63 : bs.length ≤ 4611686018427387904) (y : Int)
    (ka : Option Addr) (kc : Nat) (ks : List Int) (hk : IntsV w (.slice ka ks.length kc) ks) (hkl : ks.length ≤ 9223372036854775807) (hk0 : ∀ b, dBlock (.slice ka ks.length kc) ks = some b → b < w.heap.size ∧ S.role b = .none ∧ R.own b = 0)
    (pa : Option Addr) (pc : Nat) (ps : List (Int × Int)) (hpv : FltV w pa ps) (hpw : FW ps) (hp0 : pa = none → pc = 0 ∧ ps = []) (hpl : ps.length * 16 ≤ 140737488351232) (hoff : ∀ b o, pa = some ⟨b, o, none⟩ → ps ≠ [] → b < w.heap.size ∧ S.role b = .none ∧ R.own b = 0) :
    Calls Try.prog 9 #[.pointer (some ⟨bd, 0, none⟩), .pointer (some ⟨br, 0, none⟩), .agg (opC k x s t (.slice va bs.length vc) y (.slice ka ks.length kc) (.slice pa ps.length pc))] w fun e w' => e = .returned (.bool true) ∧ ∃ S' R', Tw w' bd br S' R' ro ∧ F2 w w' S R S' R' ∧ S'.steps ≤ S.steps + 1 := by
  have hrn : R.n < 4611686018427387903 := by rw [← h.steps]; exact hst
  have hw := h.gb.wf
  have hsr := h.disk.srt
  by_cases e1 : k = 1
  · subst e1
    refine (gdoes1 h hst hrn x s t hs ht va vc bs hv hv1 hb63 y _ _ (gL_wf hw (app_wf hsr hw s bs))).mono ?_
    rintro e w' ⟨rfl, S', R', q1, q2, _, q3, _⟩
    exact ⟨rfl, S', R', q1, q2, q3⟩
  by_cases e2 : k = 2
  · subst e2
    refine (gdoes2 h hst hrn x s t hs ht va vc bs hv hv1 hb63 y _ _ (gL_wf hw (sync_wf hsr hw s))).mono ?_
    rintro e w' ⟨rfl, S', R', q1, q2, _, q3, _⟩
    exact ⟨rfl, S', R', q1, q2, q3⟩
  by_cases e3 : k = 3
  · subst e3
    refine (gdoes3 h hst hrn x s t hs ht va vc bs hv hv1 hb63 y _ _ (gL_wf hw (tru_wf hsr hw s x))).mono ?_
    rintro e w' ⟨rfl, S', R', q1, q2, _, q3, _⟩
    exact ⟨rfl, S', R', q1, q2, q3⟩
  by_cases e4 : k = 4
  · subst e4
    refine (gdoes4 h hst hrn x s t hs ht va vc bs hv hv1 hb63 y _ _ (gL_wf hw (ren_wf hw s t))).mono ?_
    rintro e w' ⟨rfl, S', R', q1, q2, _, q3, _⟩
    exact ⟨rfl, S', R', q1, q2, q3⟩
  by_cases e5 : k = 5
  · subst e5
    refine (gdoes5 h hst hrn x s t hs ht va vc bs hv hv1 hb63 y _ _ (gL_wf hw (rem_wf hw s))).mono ?_
    rintro e w' ⟨rfl, S', R', q1, q2, _, q3, _⟩
    exact ⟨rfl, S', R', q1, q2, q3⟩
  by_cases e6 : k = 6
  · subst e6
    refine (gdoes6 h hst hrn x s t hs ht va vc bs hv hv1 hb63 y _ _ hw).mono ?_
    rintro e w' ⟨rfl, S', R', q1, q2, _, q3, _⟩
    exact ⟨rfl, S', R', q1, q2, q3⟩
  by_cases e7 : k = 7
  · subst e7
    refine (gdoes7 h x s t va bs.length vc y ka kc ks hk hkl hk0 _).mono ?_
    rintro e w' ⟨rfl, S', R', q1, q2, _, q3⟩
    exact ⟨rfl, S', R', q1, q2, by omega⟩
  by_cases e8 : k = 8
  · subst e8
    refine (gdoes8 h x s t va bs.length vc y _ pa pc ps hpv hpw hp0 hpl hoff).mono ?_
    rintro e w' ⟨rfl, S', R', q1, q2, _, q3⟩
    exact ⟨rfl, S', R', q1, q2, by omega⟩
  by_cases e9 : k = 9
  · subst e9
    refine (gdoes9 h x s t hs va vc bs y _ _ (spo_wf hsr hw s x y)).mono ?_
    rintro e w' ⟨rfl, S', R', q1, q2, _, q3⟩
    exact ⟨rfl, S', R', q1, q2, by omega⟩
  · refine (gdoes0 k x (by omega) s t va bs.length vc y _ _).mono ?_
    rintro e w' ⟨rfl, hb⟩
    exact ⟨rfl, S, R, h.below hb, F2.below hb, by omega⟩
/-- A slice of names. -/
def StrV (w : World) (v : Value) (l : List ByteArray) : Prop := ∃ a cap, v = .slice a l.length cap ∧ ∀ j s, l[j]? = some s → ∃ g, a = some ⟨g, 0, none⟩ ∧ w.cell? ⟨g, j, none⟩ = some (.string s)
theorem StrV.below {w w' : World} {v : Value} {l : List ByteArray} (h : StrV w v l) (hb : Below w.heap.size w w') : StrV w' v l := by
  obtain ⟨a, cap, rfl, hc⟩ := h
  refine ⟨a, cap, rfl, fun j s hj => ?_⟩
  obtain ⟨g, rfl, h1⟩ := hc j s hj
  exact ⟨g, rfl, (hb.cell (p := ⟨g, j, none⟩) (cell_lt h1)).trans h1⟩
theorem StrV.of_own {w : World} {base : Nat} {v : Value} {l : List ByteArray} (h : w.ownsRow base 9 1 v l.length (l.map Value.string)) : StrV w v l := by
  obtain ⟨a, cap, rfl⟩ := row_form h
  refine ⟨a, cap, rfl, fun j s hj => ?_⟩
  have hl := (List.getElem?_eq_some_iff.1 hj).1
  rcases h.2 with ⟨_, h0⟩ | ⟨g, cap', cur, e, _⟩
  · omega
  · injection e with e1 e2 e3
    subst e1
    have h0 := h.cells (g := g) rfl j (.string s) (by rw [List.getElem?_map, hj]; rfl)
    rw [Addr.add_lit, Nat.zero_add] at h0
    exact ⟨g, rfl, h0⟩
def nmsR (R : RS) : List ByteArray := (if R.down then [] else R.A).map (·.nm)
theorem list_v {w : World} {bd br : Nat} {S : DS} {R : RS} {ro : Int} (h : Tw w bd br S R ro) : Calls Try.prog 10 #[.pointer (some ⟨bd, 0, none⟩)] w fun e w' => ∃ v, e = .returned v ∧ StrV w' v (nmsR R) ∧ Below w.heap.size w w' := by
  have hd := h.down
  cases hR : R.down
  · rw [hR] at hd
    refine (list_up h.disk hd (by have := h.gb.wf.len; unfold absP at this; rw [List.length_map] at this; omega)).mono ?_
    rintro e w' ⟨v, ss, rfl, hp, ho, _, hb⟩
    rw [names_sorted h.disk hp] at ho
    have hsame := congrArg (List.map (fun p : Tf => p.1)) h.same
    have e1 : (absP S).map (fun p : Tf => p.1) = S.fs.map (·.1) := by unfold absP; rw [List.map_map]; rfl
    have e2 : (absR R.A).map (fun p : Tf => p.1) = R.A.map fun f => f.nm.data.toList := by unfold absR; rw [List.map_map]; rfl
    rw [e1, e2] at hsame
    have hl : ss.length = (nmsR R).length := by
      have h1 := hp.length_eq
      have h2 := congrArg List.length hsame
      simp only [nmsR, hR, List.length_map] at h1 h2 ⊢
      simp
      omega
    have e3 : (S.fs.map (·.1)).map encStr = (nmsR R).map Value.string := by
      rw [hsame]
      simp only [nmsR, hR, List.map_map]
      rfl
    rw [e3, hl] at ho
    exact ⟨v, rfl, StrV.of_own ho, hb⟩
  · rw [hR] at hd
    refine (list_down h.disk hd).mono ?_
    rintro e w' ⟨rfl, rfl⟩
    refine ⟨_, rfl, ?_, Below.refl _ _⟩
    have : nmsR R = [] := by simp [nmsR, hR]
    rw [this]
    exact ⟨none, 0, rfl, fun j s hj => by simp at hj⟩
theorem rlist_v {w : World} {bd br : Nat} {S : DS} {R : RS} {ro : Int} (h : Tw w bd br S R ro) : Calls Try.prog 11 #[.pointer (some ⟨br, 0, none⟩)] w fun e w' => ∃ v, e = .returned v ∧ StrV w' v (nmsR R) ∧ Below w.heap.size w w' := by
  refine (rlist_any h.ref (by have := h.hb.wf.len; unfold absR at this; rw [List.length_map] at this; omega)).mono ?_
  rintro e w' ⟨v, rfl, ho, hb⟩
  refine ⟨v, rfl, StrV.of_own (base := w.heap.size) ?_, hb⟩
  have e1 : nmL (if R.down then [] else R.A) = (nmsR R).map Value.string := by unfold nmL nmsR; rw [List.map_map]; rfl
  have e2 : (if R.down then [] else R.A).length = (nmsR R).length := by unfold nmsR; rw [List.length_map]
  rw [e1, e2] at ho
  exact ho
set_option maxHeartbeats 1000000 in
theorem rnew_bad (r : Int) (h : r < 0 ∨ 1073741824 < r) (w : World) :
    Calls Try.prog 7 #[.int .i64 r] w fun e w' => e = .returned (.pointer none) ∧ w' = w := by
  by_cases h0 : r < 0
  · have d1 : decide (r < 0) = true := by simp; omega
    go_enter Try.func7, Try.ntmps7
    go_wp2
    go_ret
    exact ⟨rfl, rfl⟩
  · have d1 : decide (r < 0) = false := by simp; omega
    have d2 : decide (1073741824 < r) = true := by simp; omega
    go_enter Try.func7, Try.ntmps7
    go_wp2
    go_ret
    exact ⟨rfl, rfl⟩
/-- An Op in memory, whole. -/
def OpF (w : World) (g o : Nat) : Prop := ∃ (k x : Int) (s t : ByteArray) (va : Option Addr) (vc : Nat) (bs : List Int) (y : Int) (ka : Option Addr) (kc : Nat) (ks : List Int) (pa : Option Addr) (pc : Nat) (ps : List (Int × Int)), (∀ j v, (opC k x s t (.slice va bs.length vc) y (.slice ka ks.length kc) (.slice pa ps.length pc))[j]? = some v → w.cell? ⟨g, o + j, none⟩ = some v) ∧ BytesV w (.slice va bs.length vc) bs ∧ bs.length ≤ 4611686018427387904 ∧ s.size ≤ 9223372036854775807 ∧ t.size ≤ 9223372036854775807 ∧ IntsV w (.slice ka ks.length kc) ks ∧ ks.length ≤ 9223372036854775807 ∧ FltV w pa ps ∧ FW ps ∧ (pa = none → pc = 0 ∧ ps = []) ∧ ps.length * 16 ≤ 140737488351232
/-- Both disks behind k calls. -/
structure Pv (w w' : World) (bd br : Nat) (S : DS) (R : RS) (ro : Int) (k : Int) : Prop where
  tw : Tw w' bd br S R ro
  bel : Below w.heap.size w w'
  off : ∀ b, b < w.heap.size → S.role b = .none ∧ R.own b = 0
  st : S.steps ≤ k
theorem Pv.next {w w' w2 : World} {bd br : Nat} {S S' : DS} {R R' : RS} {ro k : Int} (h : Pv w w' bd br S R ro k) (hT : Tw w2 bd br S' R' ro) (hF : F2 w' w2 S R S' R') (hs : S'.steps ≤ S.steps + 1) : Pv w w2 bd br S' R' ro (k + 1) :=
  ⟨hT, ⟨hF.os.trans h.bel.os, hF.tape.trans h.bel.tape, hF.output.trans h.bel.output, Nat.le_trans h.bel.size hF.size, fun b hb => (hF.block b (Nat.lt_of_lt_of_le hb h.bel.size) (h.off b hb).1 (h.off b hb).2).trans (h.bel.block b hb)⟩, fun b hb => hF.off b (Nat.lt_of_lt_of_le hb h.bel.size) (h.off b hb).1 (h.off b hb).2, by have := h.st; omega⟩
theorem Pv.below {w w' w2 : World} {bd br : Nat} {S : DS} {R : RS} {ro k : Int} (h : Pv w w' bd br S R ro k) (hb : Below w'.heap.size w' w2) : Pv w w2 bd br S R ro k :=
  ⟨h.tw.below hb, h.bel.trans (hb.mono h.bel.size), h.off, h.st⟩
theorem Pv.new {w w1 w2 : World} {bd : Nat} {S : DS} {r : Int} (h0 : 0 ≤ r) (h1 : r ≤ 1073741824) (hD : DiskIs w1 bd S) (hb : Below w.heap.size w w1) (hS : S = { room := r, bm := w.heap.size, down := false, steps := 0, armed := 0, pl := none, plan := fun _ => 0, fs := [], fl := S.fl, role := S.role }) (hr : ∀ b, b < w.heap.size → S.role b = .none)
    (hR : RefIs w2 w1.heap.size { room := r, frm := 0, n := 0, lv := .slice none 0 0, A := [], pv := .slice none 0 0, plan := [], down := false, own := fun b => if b = w1.heap.size then 1 else 0 }) (hb2 : Below w1.heap.size w1 w2) :
    Pv w w2 bd w1.heap.size S { room := r, frm := 0, n := 0, lv := .slice none 0 0, A := [], pv := .slice none 0 0, plan := [], down := false, own := fun b => if b = w1.heap.size then 1 else 0 } r 0 := by
  have ha : absP S = [] := by rw [hS]; rfl
  refine ⟨⟨hD.below hb2, ⟨?_, by rw [hS], ⟨h0, h1⟩, by rw [ha]; exact wf_nil h0⟩, hR, ⟨PlanR.nil rfl, ?_, rfl, ⟨h0, h1⟩, wf_nil h0, List.Pairwise.nil⟩, by rw [ha]; rfl, fun b hb' => ?_, by rw [hS], by rw [hS], by rw [hS], fun x _ => by rw [hS]; rfl⟩, hb.trans (hb2.mono hb.size), fun b hb' => ⟨hr b hb', if_neg (by have := hb.size; omega)⟩, by rw [hS]; exact Int.le_refl 0⟩
  · rw [hS]
    unfold Cnt
    show (0 : Int) ≤ 0 ∧ (0 : Int) ≤ 0 ∧ (0 : Int) < 4611686018427387904
    omega
  · unfold Rn
    show (0 : Int) ≤ 0 ∧ (0 : Int) < 4611686018427387904
    omega
  · have : b = w1.heap.size := by
      by_cases e : b = w1.heap.size
      · exact e
      · exact absurd (if_neg e) hb'
    subst this
    exact hD.fresh _ (Nat.le_refl _)
end Go.Proofs.Ytllkpnlgemjgfaa
/- disk: DiskPlays' walk. -/
namespace Go.Proofs.Ytllkpnlgemjgfaa
open Go.RowKit Go.Maps Go.Joins Go.Sort
set_option linter.unusedSimpArgs false
set_option linter.unusedVariables false
set_option maxHeartbeats 4000000 in
theorem dplays_bad {w : World} (ro : Int) (h : ro < 0 ∨ 1073741824 < ro) (ov : Value) :
    Calls Try.prog 3 #[.int .i64 ro, ov] w fun e w' => e = .returned (.bool true) ∧ Below w.heap.size w w' := by
  have HR : Hid (ro < 0 ∨ 1073741824 < ro) := h
  clear h
  go_enter Try.func3, Try.ntmps3
  go_wp2_with (first
    | (go_at_call 6; refine Calls.mono (new_bad ro HR.out _) ?_; rintro e w1 ⟨rfl, rfl⟩)
    | (go_at_call 7; refine Calls.mono (rnew_bad ro HR.out _) ?_; rintro e w1 ⟨rfl, rfl⟩)
    | (go_at_call 8; refine (alive_any _).mono ?_; rintro e w13 ⟨rfl, hbl⟩))
  go_ret
  exact ⟨rfl, hbl⟩
theorem rnew_p {w w1 : World} {bd : Nat} {S : DS} {r : Int} (h0 : 0 ≤ r) (h1 : r ≤ 1073741824) (hD : DiskIs w1 bd S) (hb : Below w.heap.size w w1) (hS : S = { room := r, bm := w.heap.size, down := false, steps := 0, armed := 0, pl := none, plan := fun _ => 0, fs := [], fl := S.fl, role := S.role }) (hr : ∀ b, b < w.heap.size → S.role b = .none) :
    Calls Try.prog 7 #[.int .i64 r] w1 fun e w2 => ∃ br R, e = .returned (.pointer (some ⟨br, 0, none⟩)) ∧ Pv w w2 bd br S R r 0 := by
  refine (rnew_any r h0 h1 w1).mono ?_
  rintro e w2 ⟨rfl, hR, hB⟩
  exact ⟨_, _, rfl, Pv.new h0 h1 hD hb hS hr hR hB⟩
theorem down_R {w : World} {bd br : Nat} {S : DS} {R : RS} {ro : Int} (h : Tw w bd br S R ro) : Calls Try.prog 12 #[.pointer (some ⟨bd, 0, none⟩)] w fun e w' => e = .returned (.bool R.down) ∧ w' = w := by
  rw [← h.down]
  exact down_any h.disk
theorem steps_R {w : World} {bd br : Nat} {S : DS} {R : RS} {ro : Int} (h : Tw w bd br S R ro) : Calls Try.prog 13 #[.pointer (some ⟨bd, 0, none⟩)] w fun e w' => e = .returned (.int .i64 R.n) ∧ w' = w := by
  rw [← h.steps]
  exact steps_any h.disk
theorem below_drewN (w : World) (n : Nat) : Below w.heap.size w (w.drewN n) := ⟨rfl, rfl, rfl, Nat.le_refl _, fun _ _ => rfl⟩
set_option maxRecDepth 100000 in
set_option maxHeartbeats 8000000 in
theorem dplays_ok {w : World} (ro : Int) (h0 : 0 ≤ ro) (h1 : ro ≤ 1073741824) (oa : Option Addr) (oc n : Nat) (hov : ∀ k, k < n → ∃ g o, oa = some ⟨g, o, none⟩ ∧ OpF w g (o + k * 8)) (hn : n ≤ 4611686018427387000) :
    Calls Try.prog 3 #[.int .i64 ro, .slice oa n oc] w fun e w' => e = .returned (.bool true) ∧ Below w.heap.size w w' := by
  have HA : Hid (∀ k, k < n → ∃ g o, oa = some ⟨g, o, none⟩ ∧ OpF w g (o + k * 8)) := hov
  clear hov
  go_enter Try.func3, Try.ntmps3
  go_wp2_with (first
    | (go_at_call 6
       refine Calls.mono (new_any ro h0 h1 _) ?_
       rintro e w1 ⟨bd, S0, rfl, hD, hB, hS, hr⟩
       have D0 := rnew_p h0 h1 hD hB hS hr
       clear hD hB hS hr)
    | (go_at_call 7
       refine Calls.mono D0 ?_
       clear D0
       rintro e w2 ⟨br, R0, rfl, hP⟩
       have P0 : Hid (Pv w w2 bd br S0 R0 ro 0) := hP
       clear hP)
    | (go_at_call 8
       refine (alive_any _).mono ?_
       rintro e w3 ⟨rfl, hbl⟩
       have P1 : Hid (Pv w w3 bd br S0 R0 ro 0) := P0.out.below hbl
       clear hbl P0))
  go_loopw [8] (fun i wr => ∃ k : Nat, k ≤ n ∧ i = .int .i64 k ∧ ∃ S R, Pv w wr bd br S R ro k) (fun i _ => n - (intOf i).toNat)
  case atStart => exact ⟨0, Nat.zero_le _, rfl, S0, R0, P1.out⟩
  case round =>
    obtain ⟨k, hk, rfl, S, R, hS⟩ := hrel
    have HS : Hid (Pv w wr bd br S R ro k) := hS
    clear hS
    by_cases hkn : k < n
    · obtain ⟨g, o, rfl, kd, x, s, t, va, vc, bs, y, ka, kc, ks, pa, pc, ps, hc, hbv, hb63, hs, ht, hiv, hkl, hfv, hfw, hp0, hpl⟩ := HA.out k hkn
      have hc' : ∀ j v, (opC kd x s t (.slice va bs.length vc) y (.slice ka ks.length kc) (.slice pa ps.length pc))[j]? = some v → wr.cell? ⟨g, o + k * 8 + j, none⟩ = some v := fun j v hj => (HS.out.bel.cell (p := ⟨g, o + k * 8 + j, none⟩) (cell_lt (hc j v hj))).trans (hc j v hj)
      have c0 : wr.cell? ⟨g, o + k * 8, none⟩ = some (.int .i64 kd) := hc' 0 _ rfl
      have c1 : wr.cell? ⟨g, o + k * 8 + 1, none⟩ = some (.int .i64 x) := hc' 1 _ rfl
      have c2 : wr.cell? ⟨g, o + k * 8 + 2, none⟩ = some (.string s) := hc' 2 _ rfl
      have c3 : wr.cell? ⟨g, o + k * 8 + 3, none⟩ = some (.string t) := hc' 3 _ rfl
      have c4 : wr.cell? ⟨g, o + k * 8 + 4, none⟩ = some (.slice va bs.length vc) := hc' 4 _ rfl
      have c5 : wr.cell? ⟨g, o + k * 8 + 5, none⟩ = some (.int .u8 y) := hc' 5 _ rfl
      have c6 : wr.cell? ⟨g, o + k * 8 + 6, none⟩ = some (.slice ka ks.length kc) := hc' 6 _ rfl
      have c7 : wr.cell? ⟨g, o + k * 8 + 7, none⟩ = some (.slice pa ps.length pc) := hc' 7 _ rfl
      have HV : Hid (BytesV w (.slice va bs.length vc) bs ∧ IntsV w (.slice ka ks.length kc) ks ∧ FltV w pa ps ∧ FW ps ∧ (pa = none → pc = 0 ∧ ps = []) ∧ ps.length * 16 ≤ 140737488351232 ∧ bs.length ≤ 4611686018427387904 ∧ s.size ≤ 9223372036854775807 ∧ t.size ≤ 9223372036854775807 ∧ ks.length ≤ 9223372036854775807) := ⟨hbv, hiv, hfv, hfw, hp0, hpl, hb63, hs, ht, hkl⟩
      have hki : (k : Int) < n := by omega
      clear hc hc' hbv hiv hfv hfw hp0 hpl hb63 hs ht hkl
      go_wp2_with (first
        | (go_at_call 9
           have hfo : ∀ b o, pa = some ⟨b, o, none⟩ → ps ≠ [] → b < w.heap.size := fun b o e1 e2 => by
             cases hps : ps with
             | nil => exact absurd hps e2
             | cons p r =>
               obtain ⟨b', o', e3, h4, _⟩ := HV.out.2.2.1 0 p (by rw [hps]; rfl)
               rw [e1] at e3
               injection e3 with e3
               injection e3 with e3 _ _
               subst e3
               exact cell_lt h4
           refine Calls.mono (gdoes_any HS.out.tw (by have := HS.out.st; omega) kd x s t HV.out.2.2.2.2.2.2.2.1 HV.out.2.2.2.2.2.2.2.2.1 va vc bs (HV.out.1.below HS.out.bel) (fun b hb => ⟨Nat.lt_of_lt_of_le (HV.out.1.lt b hb) HS.out.bel.size, HS.out.off b (HV.out.1.lt b hb)⟩) HV.out.2.2.2.2.2.2.1 y
             ka kc ks (HV.out.2.1.below HS.out.bel) HV.out.2.2.2.2.2.2.2.2.2 (fun b hb => ⟨Nat.lt_of_lt_of_le (HV.out.2.1.lt b hb) HS.out.bel.size, HS.out.off b (HV.out.2.1.lt b hb)⟩) pa pc ps (HV.out.2.2.1.below HS.out.bel) HV.out.2.2.2.1 HV.out.2.2.2.2.1 HV.out.2.2.2.2.2.1 (fun b o e1 e2 => ⟨Nat.lt_of_lt_of_le (hfo b o e1 e2) HS.out.bel.size, HS.out.off b (hfo b o e1 e2)⟩)) ?_
           clear hfo
           rintro e w2 ⟨rfl, S', R', hT, hF, h1⟩
           have H2 : Hid (Pv w w2 bd br S' R' ro (k + 1)) := HS.out.next hT hF h1
           clear hT hF h1 c0 c1 c2 c3 c4 c5 c6 c7)
        | (go_at_call 10
           refine Calls.mono (list_v H2.out.tw) ?_
           rintro e w4 ⟨v4, rfl, hs4, hb4⟩
           obtain ⟨a4, k4, rfl, hc4⟩ := hs4
           have H4 : Hid (StrV w4 (.slice a4 (nmsR R').length k4) (nmsR R') ∧ Pv w w4 bd br S' R' ro (k + 1)) := ⟨⟨a4, k4, rfl, hc4⟩, H2.out.below hb4⟩
           clear hc4 hb4)
        | (go_at_call 11
           refine Calls.mono (rlist_v H4.out.2.tw) ?_
           rintro e w5 ⟨v5, rfl, hs5, hb5⟩
           obtain ⟨a5, k5, rfl, hc5⟩ := hs5
           have H5 : Hid (StrV w5 (.slice a4 (nmsR R').length k4) (nmsR R') ∧ StrV w5 (.slice a5 (nmsR R').length k5) (nmsR R') ∧ Pv w w5 bd br S' R' ro (k + 1)) := ⟨H4.out.1.below hb5, ⟨a5, k5, rfl, hc5⟩, H4.out.2.below hb5⟩
           have d5 : w5.cell? ⟨br, 5, none⟩ = some (.bool R'.down) := by rw [cell_of_block H5.out.2.2.tw.ref.disk]; rfl
           have d2 : w5.cell? ⟨br, 2, none⟩ = some (.int .i64 R'.n) := by rw [cell_of_block H5.out.2.2.tw.ref.disk]; rfl
           have hdn := fun nq => down_R (H5.out.2.2.tw.below (below_drewN w5 nq))
           have hsn := fun nq => steps_R (H5.out.2.2.tw.below (below_drewN w5 nq))
           have HD : Hid ((∀ nq, Calls Try.prog 12 #[.pointer (some ⟨bd, 0, none⟩)] (w5.drewN nq) fun e w' => e = .returned (.bool R'.down) ∧ w' = w5.drewN nq) ∧ ∀ nq, Calls Try.prog 13 #[.pointer (some ⟨bd, 0, none⟩)] (w5.drewN nq) fun e w' => e = .returned (.int .i64 R'.n) ∧ w' = w5.drewN nq) := ⟨hdn, hsn⟩
           clear hc5 hb5 hdn hsn H2 H4
           have hL1 : (nmsR R').length ≤ 1000 := by
             have h1 := H5.out.2.2.tw.hb.wf.len
             unfold absR at h1
             rw [List.length_map] at h1
             unfold nmsR
             rw [List.length_map]
             split
             · simp
             · omega
           generalize hL : nmsR R' = L at H5 hL1 ⊢
           have HL : Hid (nmsR R' = L) := hL
           clear hL))
      cases hdd : R'.down
      all_goals
        rw [hdd] at d5
        have HD2 := HD.out.1
        rw [hdd] at HD2
        have HD3 : Hid (∀ nq, Calls Try.prog 12 #[.pointer (some ⟨bd, 0, none⟩)] (w5.drewN nq) fun e w' => e = .returned (.bool _) ∧ w' = w5.drewN nq) := HD2
        clear HD2 hdd
        go_quiet (first
          | (go_at_call 12; refine Calls.quiet_of_same (HD3.out _))
          | (go_at_call 13; refine Calls.quiet_of_same (HD.out.2 _)))
        go_wp2
        go_loopw [11] (fun i w6 => ∃ m : Nat, m ≤ L.length ∧ i = .int .i64 m ∧ Below w5.heap.size w5 w6) (fun i _ => L.length - (intOf i).toNat)
        case atStart => exact ⟨0, Nat.zero_le _, rfl, below_drewN w5 _⟩
        case round =>
          obtain ⟨m, hm, rfl, hb6⟩ := hrel
          have H6 : Hid (Below w5.heap.size w5 wr ∧ StrV wr (.slice a4 L.length k4) L ∧ StrV wr (.slice a5 L.length k5) L) := ⟨hb6, H5.out.1.below hb6, H5.out.2.1.below hb6⟩
          clear hb6
          by_cases hml : m < L.length
          · obtain ⟨b, hb⟩ : ∃ b, L[m]? = some b := ⟨_, List.getElem?_eq_getElem hml⟩
            obtain ⟨x4, y4, z4, hc4⟩ := H6.out.2.1
            obtain ⟨g4, rfl, q4⟩ := hc4 m b hb
            obtain ⟨x5, y5, z5, hc5⟩ := H6.out.2.2
            obtain ⟨g5, rfl, q5⟩ := hc5 m b hb
            injection z4 with z4 _ t4
            injection z5 with z5 _ t5
            subst z4 z5 t4 t5
            have hmi : (m : Int) < L.length := by omega
            clear hc4 hc5 hb
            go_wp2
            go_quiet (fail)
            go_wp2
            go_roundw
            case rel => exact ⟨m + 1, by omega, by go_num, H6.out.1.trans ((below_drewN _ _).mono H6.out.1.size)⟩
            case measure => simp [intOf]; omega
          · have hmi : decide ((m : Int) < L.length) = false := by simp; omega
            go_wp2
            go_roundw
            case rel => exact ⟨k + 1, by omega, by go_num, S', R', H5.out.2.2.below H6.out.1⟩
            case measure => simp [intOf]; omega
    · have hki : decide ((k : Int) < n) = false := by simp; omega
      go_wp2
      go_ret
      exact ⟨rfl, HS.out.bel⟩
theorem dplays_any {w : World} (ro : Int) (oa : Option Addr) (oc n : Nat) (hov : ∀ k, k < n → ∃ g o, oa = some ⟨g, o, none⟩ ∧ OpF w g (o + k * 8)) (hn : n ≤ 4611686018427387000) :
    Calls Try.prog 3 #[.int .i64 ro, .slice oa n oc] w fun e w' => e = .returned (.bool true) ∧ Below w.heap.size w w' := by
  by_cases h : ro < 0 ∨ 1073741824 < ro
  · exact dplays_bad ro h _
  · exact dplays_ok ro (by omega) (by omega) oa oc n hov hn
end Go.Proofs.Ytllkpnlgemjgfaa
