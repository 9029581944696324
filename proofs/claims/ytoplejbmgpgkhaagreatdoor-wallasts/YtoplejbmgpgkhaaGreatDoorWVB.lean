/- wal: WalLasts' walk. -/
import Derived.Test.YtoplejbmgpgkhaaGreatDoorWVA
namespace Go.Proofs.YtoplejbmgpgkhaaGreatDoor
open Go.RowKit Go.Maps Go.Joins Go.Sort
set_option linter.unusedVariables false
set_option linter.unusedSimpArgs false
theorem conv_any {w : World} {ad : Addr} {cap : Nat} {xs : List Int} (h : ∀ j u, (vB xs)[j]? = some u → w.cell? (ad.add j) = some u) : (convert 36 9 (.slice (some ad) xs.length cap)).run Tryz.prog w = .ok (.string (strOfNums xs)) w := by
  have hl : (loadCells ad xs.length).run Tryz.prog w = .ok (xs.map (Value.int .u8)).toArray w := by
    have := run_loadCells_list (P := Tryz.prog) w ad (vB xs) (fun j v hj => h j v hj)
    simpa [vB] using this
  rw [run_convert_bytes_string w 36 9 5 _ xs.length cap Tryz.underlying36 Tryz.underlying5 Tryz.underlying9, run_bytesToString w _ xs.length cap xs hl, foldl_push_bytes]
  simp [strOfNums, ByteArray.empty, ByteArray.emptyWithCapacity]
  rfl
/-- Same of the same bytes. -/
theorem same_b {w : World} {a b : Value} {xs : List Int} (ha : BytesV w a xs) (hb : BytesV w b xs) : Calls Tryz.prog 22 #[a, b] w fun e w' => e = .returned (.bool true) ∧ w' = w := by
  have key : ∀ v, BytesV w v xs → (∃ a l c, v = .slice a l c) ∧ (convert 36 9 v).run Tryz.prog w = .ok (.string (strOfNums xs)) w := fun v hv => by
    rcases hv with ⟨rfl, rfl⟩ | ⟨ad, cap, rfl, hc⟩
    · exact ⟨⟨_, _, _, rfl⟩, run_convert_bytes_nil w 36 5 Tryz.underlying36 Tryz.underlying5 0 0 9 Tryz.underlying9⟩
    · exact ⟨⟨_, _, _, rfl⟩, conv_any hc⟩
  obtain ⟨⟨_, _, _, rfl⟩, h1⟩ := key a ha
  obtain ⟨⟨_, _, _, rfl⟩, h2⟩ := key b hb
  clear ha hb key
  go_enter Tryz.func22, Tryz.ntmps22
  go_wp2
  go_ret
  exact ⟨by simp, rfl⟩
theorem own_bv {w : World} {base : Nat} {v : Value} {xs : List Int} (h : w.ownsRow base 5 1 v xs.length (vB xs)) : BytesV w v xs := by
  rcases id h.2 with ⟨rfl, h0⟩ | ⟨g, cap, cur, rfl, _⟩
  · exact Or.inl ⟨rfl, List.eq_nil_of_length_eq_zero h0⟩
  · refine Or.inr ⟨⟨g, 0, none⟩, cap, rfl, fun j u hu => ?_⟩
    exact h.cells (g := g) rfl j u hu
theorem LI.up {W wr : World} {bd bl : Nat} {v : Value} {vs : List Value} {rs : List (List Int)} {sc st st' : Nat} (h : LI W wr bd bl v vs rs sc st) (hs : st ≤ st') : LI W wr bd bl v vs rs sc st' := by
  obtain ⟨S, L, A, P, ini, la, h1, h2, h3, h4, h5, h6⟩ := h.log
  exact ⟨h.own, S, L, A, P, ini, la, h1, h2, h3, by omega, h5, h6⟩
theorem own_cell {w : World} {base : Nat} {xa : Option Addr} {n xc : Nat} {vs : List Value} (h : w.ownsRow base 36 1 (.slice xa n xc) vs.length vs) {j : Nat} {u : Value} (hj : vs[j]? = some u) : ∃ g, xa = some ⟨g, 0, none⟩ ∧ w.cell? ⟨g, j, none⟩ = some u := by
  rcases id h.2 with ⟨_, h0⟩ | ⟨g, cap, cur, e, _⟩
  · have : vs = [] := List.eq_nil_of_length_eq_zero (by simpa using h0)
    rw [this] at hj
    simp at hj
  · injection e with e1 e2 e3
    subst e1
    have := h.cells (g := g) rfl j u hj
    rw [Addr.add_lit] at this
    exact ⟨g, rfl, by simpa using this⟩
theorem lo_end {W wr : World} {bl : Nat} {v : Value} {vs : List Value} {L : LS} (h : LO W wr bl v vs L) : Calls Tryz.prog 48 #[.pointer (some ⟨bl, 0, none⟩)] wr fun e w' => e = .returned (.int .i64 (L.rs.length : Nat)) ∧ LO W w' bl v vs L := by
  refine (end_any h.log h.ln).mono ?_
  rintro e w' ⟨rfl, m, rfl⟩
  have e1 : endL L = (L.rs.length : Nat) := by
    have := h.fst
    unfold endL
    omega
  exact ⟨by rw [e1], h.below (below_drewN' _ _)⟩
theorem lo_first {W wr : World} {bl : Nat} {v : Value} {vs : List Value} {L : LS} (h : LO W wr bl v vs L) : Calls Tryz.prog 47 #[.pointer (some ⟨bl, 0, none⟩)] wr fun e w' => e = .returned (.int .i64 0) ∧ LO W w' bl v vs L := by
  refine (first_any h.log).mono ?_
  rintro e w' ⟨rfl, rfl⟩
  exact ⟨by rw [h.fst], h⟩
theorem lo_get {W wr : World} {bl : Nat} {v : Value} {vs : List Value} {L : LS} (h : LO W wr bl v vs L) {j : Nat} {q : Value × List Int} (hq : L.rs[j]? = some q) (hl : q.2.length ≤ 1000) : Calls Tryz.prog 20 #[.pointer (some ⟨bl, 0, none⟩), .int .i64 (j : Nat)] wr fun e w' => ∃ xv, e = .returned (.tuple #[xv, .int .i64 0]) ∧ BytesV w' xv q.2 ∧ LO W w' bl v vs L := by
  refine (get_here h.log h.ln j (j : Nat) (by have := h.fst; omega) hq (by omega)).mono ?_
  rintro e w' ⟨xv, rfl, ho, hb⟩
  exact ⟨xv, rfl, own_bv ho, h.below hb⟩
theorem last_add {W w5 : World} {bd bl : Nat} {v5 : Value} {rs : List (Value × List Int)} {p : Value × List Int} {va : Option Addr} {vc sc st : Nat} (hp : p.1 = .slice va p.2.length vc) (h : LI W w5 bd bl v5 (rs.map (·.1) ++ [.slice va p.2.length vc]) (rs.map (·.2) ++ [p.2]) sc st) : LI W w5 bd bl v5 ((rs ++ [p]).map (·.1)) ((rs ++ [p]).map (·.2)) sc st := by
  rw [List.map_append, List.map_append]
  show LI W w5 bd bl v5 (rs.map (·.1) ++ [p.1]) (rs.map (·.2) ++ [p.2]) sc st
  rw [hp]
  exact h
/-- A list of bools in memory. -/
def BoolsV (w : World) (a : Option Addr) (bs : List Bool) : Prop := ∀ (j : Nat) (x : Bool), bs[j]? = some x → ∃ b o, a = some ⟨b, o, none⟩ ∧ w.cell? ⟨b, o + j, none⟩ = some (.bool x)
set_option maxRecDepth 100000 in
set_option maxHeartbeats 8000000 in
theorem lasts_easy {W : World} (hV : Vars W) (most : Int) (v1 v2 v3 v4 : Value) (h : most < 1) :
    Calls Tryz.prog 6 #[.int .i64 most, v1, v2, v3, v4] W fun e w' => e = .returned (.bool true) ∧ Below W.heap.size W w' := by
  have HV : Hid _ := hV
  have h1' : decide (most < 1) = true := by simpa using h
  clear hV h
  go_enter Tryz.func6, Tryz.ntmps6
  go_wp2_with (first
    | (go_at_call 11
       refine Calls.mono (alive_any HV.out) ?_
       rintro e w2 ⟨rfl, hb2⟩
       have HB : Hid _ := hb2
       clear hb2))
  go_returns
  exact ⟨rfl, HB.out⟩
theorem li_new {W wr : World} {bd : Nat} {S : DS} (h : Dk W wr bd S 1073741824 (newA 1073741824)) (most : Int) (hm : 1 ≤ most) :
    Calls Tryz.prog 12 #[.pointer (some ⟨bd, 0, none⟩), .string logB, .int .i64 most] wr fun e w' => ∃ bl S' L A, e = .returned (.tuple #[.pointer (some ⟨bl, 0, none⟩), .int .i64 0]) ∧ Lg W w' bd bl S' L 1073741824 A ⟨[], [], 0, false, most⟩ ∧ A.l = [] ∧ A.steps = 0 := by
  refine (dk_open h rfl (by decide) (fun p hp => by cases hp) most hm).mono ?_
  rintro e w' ⟨c, bl, S', L', A', P', rfl, h1, h2, h3⟩
  have e0 : srtI (numsOf (nmS (newA 1073741824).l)) = [] := srtI_nil
  rw [e0] at h3
  obtain ⟨rfl, rfl, rfl⟩ := h3
  exact ⟨bl, S', L', _, by rw [if_pos rfl], h2 rfl, rfl, rfl⟩
theorem li_start {W wr : World} {bd bl : Nat} {S : DS} {L : LS} {A : DA} {most : Int} (h : Lg W wr bd bl S L 1073741824 A ⟨[], [], 0, false, most⟩) (hl : A.l = []) (hs : A.steps = 0) : LI W wr bd bl (.slice none 0 0) [] [] 0 0 :=
  ⟨World.ownsRow_nil _ _ _ _, S, L, A, _, [], none, h, hl ▸ LV.empty most, (fun p hp => by rw [hl] at hp; cases hp), by omega, rfl, fun b hb => by cases hb⟩
set_option maxRecDepth 100000 in
set_option maxHeartbeats 16000000 in
theorem lasts_any {W : World} (hV : Vars W) (most : Int) (a : Option Addr) (C : Nat) (ins : List (Value × List Int)) (hrs : RowsV W a ins) (hl : ins.length ≤ 9000000000000) (sa : Option Addr) (sC : Nat) (bs : List Bool) (hbs : BoolsV W sa bs) (pa : Option Addr) (pC : Nat) (ps : List (Int × Int)) (hps : FltV W pa ps) (hpw : FW ps) (hpl : ps.length * 16 ≤ 140737488351232) (kv : Value) (ks : List Int) (hkv : IntsV W kv ks) (hkl : ks.length ≤ 9223372036854775807) :
    Calls Tryz.prog 6 #[.int .i64 most, .slice a ins.length C, .slice sa bs.length sC, .slice pa ps.length pC, kv] W fun e w' => e = .returned (.bool true) ∧ Below W.heap.size W w' := by
  by_cases hc : most < 1
  · exact lasts_easy hV most _ _ _ _ hc
  have H0 : Hid (Vars W ∧ RowsV W a ins ∧ BoolsV W sa bs ∧ FltV W pa ps ∧ FW ps ∧ ps.length * 16 ≤ 140737488351232 ∧ IntsV W kv ks ∧ ks.length ≤ 9223372036854775807 ∧ 1 ≤ most) := ⟨hV, hrs, hbs, hps, hpw, hpl, hkv, hkl, by omega⟩
  have hm1 : decide (most < 1) = false := by simp; omega
  obtain ⟨kva, kvc, rfl, _⟩ := id hkv
  clear hV hrs hbs hps hpw hpl hkv hkl hc
  go_enter Tryz.func6, Tryz.ntmps6
  go_wp2_with (first
    | (go_at_call 9
       refine Calls.mono (dk_new H0.out.1 1073741824 (by omega) (by omega)) ?_
       rintro e w1 ⟨bd, S1, rfl, hd1⟩
       have H1 : Hid (Dk W w1 bd S1 1073741824 (newA 1073741824)) := hd1
       clear hd1)
    | (go_at_call 11
       refine Calls.mono (alive_any (Dk.vars H1.out)) ?_
       rintro e w2 ⟨rfl, hb2⟩
       have H2 : Hid (Dk W w2 bd S1 1073741824 (newA 1073741824)) := Dk.below H1.out hb2
       clear hb2)
    | (go_at_call 12
       refine Calls.mono (li_new H2.out most H0.out.2.2.2.2.2.2.2.2) ?_
       rintro e w3 ⟨bl, S3, L3, A3, rfl, hd3, hl3, hs3⟩
       have H3 : Hid (Lg W w3 bd bl S3 L3 1073741824 A3 ⟨[], [], 0, false, most⟩ ∧ A3.l = [] ∧ A3.steps = 0) := ⟨hd3, hl3, hs3⟩
       clear hd3 hl3 hs3)
    | (go_at_call 26
       refine Calls.mono (plan_any pa pC ps (fun j p hj => by
         obtain ⟨b, o, e, h1, h2⟩ := H0.out.2.2.2.1 j p hj
         exact ⟨b, o, e, (World.cell?_of_block (a := ⟨b, o + j * 2, none⟩) (H3.out.1.fr.block b (cell_lt h1))).trans h1, (World.cell?_of_block (a := ⟨b, o + j * 2 + 1, none⟩) (H3.out.1.fr.block b (cell_lt h2))).trans h2⟩) H0.out.2.2.2.2.2.1) ?_
       rintro e w4 ⟨oa, oc, rfl, hf4, hb4⟩
       have H4 : Hid (Lg W w4 bd bl S3 L3 1073741824 A3 ⟨[], [], 0, false, most⟩ ∧ FltV w4 oa ps) := ⟨H3.out.1.below hb4, hf4⟩
       clear hf4 hb4))
  refine Calls.mono (lg_arm H4.out.1 oa oc ps H4.out.2 H0.out.2.2.2.2.1) ?_
  rintro e w5 (⟨S5, A5, rfl, hd5, hl5, hs5⟩ | ⟨rfl, hb5⟩)
  rotate_left
  · have HB : Hid _ := hb5
    clear hb5
    go_wp2
    go_returns
    exact ⟨rfl, HB.out⟩
  have H5 : Hid (LI W w5 bd bl (.slice none 0 0) [] [] 0 0) := li_start hd5 (hl5.trans H3.out.2.1) (hs5.trans H3.out.2.2)
  clear hd5 hl5 hs5
  go_wp2_with fail
  go_loopw [15, 16, 17] (fun v s i wr => ∃ (k : Nat) (rs : List (Value × List Int)) (sc : Nat), k ≤ ins.length ∧ i = .int .i64 (k : Nat) ∧ s = .int .i64 (sc : Nat) ∧ LI W wr bd bl v (rs.map (·.1)) (rs.map (·.2)) sc (3 * k) ∧ ∀ p ∈ rs, p ∈ ins ∧ p.2.length ≤ 1000) (fun _ _ i _ => ins.length - (intOf i).toNat)
  case atStart => exact ⟨0, [], 0, Nat.zero_le _, rfl, rfl, H5.out, fun p hp => by cases hp⟩
  case round =>
    obtain ⟨k, rs, sc, hk, rfl, rfl, hli, hmem⟩ := hrel
    obtain ⟨xa, xc, hxv⟩ := row_form hli.own
    rw [List.length_map] at hxv
    subst hxv
    have HR : Hid (LI W wr bd bl (.slice xa rs.length xc) (rs.map (·.1)) (rs.map (·.2)) sc (3 * k) ∧ ∀ p ∈ rs, p ∈ ins ∧ p.2.length ≤ 1000) := ⟨hli, hmem⟩
    clear hli hmem
    by_cases hkl : k < ins.length
    · obtain ⟨p, hp⟩ : ∃ p, ins[k]? = some p := ⟨_, List.getElem?_eq_getElem hkl⟩
      obtain ⟨b, o, va, vc, ha, hcell, hpv, hbv, hby⟩ := H0.out.2.1 k p hp
      subst ha
      rw [hpv] at hcell hbv
      have hcw : wr.cell? ⟨b, o + k, none⟩ = some (.slice va p.2.length vc) := (World.cell?_of_block (a := ⟨b, o + k, none⟩) ((LI.bel HR.out.1).block b (cell_lt hcell))).trans hcell
      have hki : (k : Int) < ins.length := by omega
      have HBV : Hid (BytesV W (.slice va p.2.length vc) p.2 ∧ p ∈ ins ∧ p.1 = .slice va p.2.length vc ∧ W.cell? ⟨b, o + k, none⟩ = some (.slice va p.2.length vc)) := ⟨hbv, List.mem_of_getElem? hp, hpv, hcell⟩
      clear hcell hpv hbv hby hp
      by_cases hg : 1000 < (p.2.length : Int)
      · go_wp2
        go_returns
        exact ⟨rfl, LI.bel HR.out.1⟩
      · have hA := li_append HR.out.1 (by omega) va vc p.2 HBV.out.1 (by omega)
        have HA : Hid _ := hA
        have hg' : decide (1000 < (p.2.length : Int)) = false := by simpa using hg
        have HG : Hid (p.2.length ≤ 1000) := (by show p.2.length ≤ 1000; omega)
        clear hA hg
        have HK : Hid (3 * k + 2 ≤ 40000000000000) := (by show 3 * k + 2 ≤ 40000000000000; omega)
        go_wp2_with fail
        refine Calls.mono HA.out ?_
        rintro e w4 ⟨c, rfl, hl4⟩
        by_cases hc0 : c = 0
        · subst hc0
          rw [if_pos rfl] at hl4
          have HL4 : Hid (LI W w4 bd bl (.slice xa rs.length xc) (rs.map (·.1)) (rs.map (·.2) ++ [p.2]) sc (3 * k + 2)) := hl4
          clear hl4
          have hcw4 : w4.cell? ⟨b, o + k, none⟩ = some (.slice va p.2.length vc) := (World.cell?_of_block (a := ⟨b, o + k, none⟩) ((LI.bel HL4.out).block b (cell_lt HBV.out.2.2.2))).trans HBV.out.2.2.2
          have HP : Hid (∀ q ∈ rs ++ [p], q ∈ ins ∧ q.2.length ≤ 1000) := fun q hq => (List.mem_append.1 hq).elim (HR.out.2 q) (fun h => (List.mem_singleton.1 h) ▸ ⟨HBV.out.2.1, HG.out⟩)
          by_cases hsl : k < bs.length
          · obtain ⟨x, hx⟩ : ∃ x, bs[k]? = some x := ⟨_, List.getElem?_eq_getElem hsl⟩
            have hsi : (k : Int) < bs.length := by omega
            obtain ⟨sb, so, hsa, hsc⟩ := H0.out.2.2.1 k x hx
            subst hsa
            cases x with
            | false =>
              have HSC : Hid (W.cell? ⟨sb, so + k, none⟩ = some (.bool false)) := hsc
              clear hx hsc
              go_wp2_with (first
                | (at_builtin
                   have hB := heap_alloc_new w4 (.cells #[.slice va p.2.length vc] 36)
                   have ho1 := HL4.out.own.alloc (.cells #[.slice va p.2.length vc] 36)
                   refine wpList_append_v rfl _ _ rfl W.heap.size (.slice xa rs.length xc) (rs.map (·.1)) (.slice va p.2.length vc) ⟨_, _, _, rfl⟩ rfl ho1 w4.heap.size hB rfl (by have := (LI.len HL4.out).1; simp at this ⊢; omega) (by have := (LI.bel HL4.out).size; simp; omega) ?_
                   intro v5 w5 ho hg ha
                   have hg5 : w4.grownBy w5 (Value.slice xa rs.length xc).ownBlock := (World.grownBy_alloc w4 _ _).trans hg
                   have ha5 : v5.ownBlock = (Value.slice xa rs.length xc).ownBlock ∨ ∀ b, v5.ownBlock = some b → w4.heap.size ≤ b := by
                     rcases ha with ha | ha
                     · exact Or.inl ha
                     · exact Or.inr (fun b hb => by rw [ha] at hb; injection hb with hb; simp at hb; omega)
                   have hL6 := last_add HBV.out.2.2.1 (LI.add HL4.out hg5 ho ha5)
                   obtain ⟨ya, yc, hyv⟩ := row_form hL6.own
                   simp only [List.length_map, List.length_append, List.length_cons, List.length_nil, Nat.zero_add] at hyv
                   subst hyv
                   have HL : Hid (LI W w5 bd bl (.slice ya (rs.length + 1) yc) ((rs ++ [p]).map (·.1)) ((rs ++ [p]).map (·.2)) sc (3 * k + 2)) := hL6
                   have hsw : w5.cell? ⟨sb, so + k, none⟩ = some (.bool false) := (World.cell?_of_block (a := ⟨sb, so + k, none⟩) ((LI.bel hL6).block sb (cell_lt HSC.out))).trans HSC.out
                   clear ho hg ha hg5 ha5 hB ho1 hL6))
              refine ⟨⟨k + 1, rs ++ [p], sc, by omega, by go_num, rfl, LI.up HL.out (by omega), HP.out⟩, ?_⟩
              simp [intOf]
              omega
            | true =>
              have HSC : Hid (W.cell? ⟨sb, so + k, none⟩ = some (.bool true)) := hsc
              clear hx hsc
              go_wp2_with (first
                | (at_builtin
                   have hB := heap_alloc_new w4 (.cells #[.slice va p.2.length vc] 36)
                   have ho1 := HL4.out.own.alloc (.cells #[.slice va p.2.length vc] 36)
                   refine wpList_append_v rfl _ _ rfl W.heap.size (.slice xa rs.length xc) (rs.map (·.1)) (.slice va p.2.length vc) ⟨_, _, _, rfl⟩ rfl ho1 w4.heap.size hB rfl (by have := (LI.len HL4.out).1; simp at this ⊢; omega) (by have := (LI.bel HL4.out).size; simp; omega) ?_
                   intro v5 w5 ho hg ha
                   have hg5 : w4.grownBy w5 (Value.slice xa rs.length xc).ownBlock := (World.grownBy_alloc w4 _ _).trans hg
                   have ha5 : v5.ownBlock = (Value.slice xa rs.length xc).ownBlock ∨ ∀ b, v5.ownBlock = some b → w4.heap.size ≤ b := by
                     rcases ha with ha | ha
                     · exact Or.inl ha
                     · exact Or.inr (fun b hb => by rw [ha] at hb; injection hb with hb; simp at hb; omega)
                   have hL6 := last_add HBV.out.2.2.1 (LI.add HL4.out hg5 ho ha5)
                   obtain ⟨ya, yc, hyv⟩ := row_form hL6.own
                   simp only [List.length_map, List.length_append, List.length_cons, List.length_nil, Nat.zero_add] at hyv
                   subst hyv
                   have HL : Hid (LI W w5 bd bl (.slice ya (rs.length + 1) yc) ((rs ++ [p]).map (·.1)) ((rs ++ [p]).map (·.2)) sc (3 * k + 2)) := hL6
                   have hsw : w5.cell? ⟨sb, so + k, none⟩ = some (.bool true) := (World.cell?_of_block (a := ⟨sb, so + k, none⟩) ((LI.bel hL6).block sb (cell_lt HSC.out))).trans HSC.out
                   clear ho hg ha hg5 ha5 hB ho1 hL6)
                | (go_at_call 16
                   refine Calls.mono (li_sync HL.out HK.out) ?_
                   rintro e w6 ⟨c2, rfl, hl6⟩
                   have H6 : Hid _ := hl6
                   clear hl6))
              · rename_i hc2
                have hc0 : c2 = 0 := by simpa using hc2
                subst hc0
                have h6 := H6.out
                rw [if_pos rfl] at h6
                refine ⟨⟨k + 1, rs ++ [p], ((rs ++ [p]).map (·.2)).length, by omega, by go_num, by simp, LI.up h6 (by omega), HP.out⟩, ?_⟩
                simp [intOf]
                omega
              · rename_i hc2
                have hc0 : ¬ c2 = 0 := by simpa using hc2
                have h6 := H6.out
                rw [if_neg hc0] at h6
                refine ⟨⟨k + 1, rs ++ [p], sc, by omega, by go_num, rfl, LI.up h6 (by omega), HP.out⟩, ?_⟩
                simp [intOf]
                omega
          · have hsi : decide ((k : Int) < bs.length) = false := by simp; omega
            go_wp2_with (first
              | (at_builtin
                 have hB := heap_alloc_new w4 (.cells #[.slice va p.2.length vc] 36)
                 have ho1 := HL4.out.own.alloc (.cells #[.slice va p.2.length vc] 36)
                 refine wpList_append_v rfl _ _ rfl W.heap.size (.slice xa rs.length xc) (rs.map (·.1)) (.slice va p.2.length vc) ⟨_, _, _, rfl⟩ rfl ho1 w4.heap.size hB rfl (by have := (LI.len HL4.out).1; simp at this ⊢; omega) (by have := (LI.bel HL4.out).size; simp; omega) ?_
                 intro v5 w5 ho hg ha
                 have hg5 : w4.grownBy w5 (Value.slice xa rs.length xc).ownBlock := (World.grownBy_alloc w4 _ _).trans hg
                 have ha5 : v5.ownBlock = (Value.slice xa rs.length xc).ownBlock ∨ ∀ b, v5.ownBlock = some b → w4.heap.size ≤ b := by
                   rcases ha with ha | ha
                   · exact Or.inl ha
                   · exact Or.inr (fun b hb => by rw [ha] at hb; injection hb with hb; simp at hb; omega)
                 have hL6 := last_add HBV.out.2.2.1 (LI.add HL4.out hg5 ho ha5)
                 obtain ⟨ya, yc, hyv⟩ := row_form hL6.own
                 simp only [List.length_map, List.length_append, List.length_cons, List.length_nil, Nat.zero_add] at hyv
                 subst hyv
                 have HL : Hid (LI W w5 bd bl (.slice ya (rs.length + 1) yc) ((rs ++ [p]).map (·.1)) ((rs ++ [p]).map (·.2)) sc (3 * k + 2)) := hL6
                 clear ho hg ha hg5 ha5 hB ho1 hL6))
            refine ⟨⟨k + 1, rs ++ [p], sc, by omega, by go_num, rfl, LI.up HL.out (by omega), HP.out⟩, ?_⟩
            simp [intOf]
            omega
        · rw [if_neg hc0] at hl4
          have HL : Hid (LI W w4 bd bl (.slice xa rs.length xc) (rs.map (·.1)) (rs.map (·.2)) sc (3 * k + 2)) := hl4
          have HP : Hid (∀ q ∈ rs, q ∈ ins ∧ q.2.length ≤ 1000) := HR.out.2
          have hc1 : (c == 0) = false := by simpa using hc0
          clear hl4
          by_cases hsl : k < bs.length
          · obtain ⟨x, hx⟩ : ∃ x, bs[k]? = some x := ⟨_, List.getElem?_eq_getElem hsl⟩
            have hsi : (k : Int) < bs.length := by omega
            obtain ⟨sb, so, hsa, hsc⟩ := H0.out.2.2.1 k x hx
            subst hsa
            cases x with
            | false =>
              have HSC : Hid (W.cell? ⟨sb, so + k, none⟩ = some (.bool false)) := hsc
              clear hx hsc
              have hsw : w4.cell? ⟨sb, so + k, none⟩ = some (.bool false) := (World.cell?_of_block (a := ⟨sb, so + k, none⟩) ((LI.bel HL.out).block sb (cell_lt HSC.out))).trans HSC.out
              go_wp2_with fail
              refine ⟨⟨k + 1, rs, sc, by omega, by go_num, rfl, LI.up HL.out (by omega), HP.out⟩, ?_⟩
              simp [intOf]
              omega
            | true =>
              have HSC : Hid (W.cell? ⟨sb, so + k, none⟩ = some (.bool true)) := hsc
              clear hx hsc
              have hsw : w4.cell? ⟨sb, so + k, none⟩ = some (.bool true) := (World.cell?_of_block (a := ⟨sb, so + k, none⟩) ((LI.bel HL.out).block sb (cell_lt HSC.out))).trans HSC.out
              go_wp2_with (first
                | (go_at_call 16
                   refine Calls.mono (li_sync HL.out HK.out) ?_
                   rintro e w6 ⟨c2, rfl, hl6⟩
                   have H6 : Hid _ := hl6
                   clear hl6))
              · rename_i hc2
                have hc0 : c2 = 0 := by simpa using hc2
                subst hc0
                have h6 := H6.out
                rw [if_pos rfl] at h6
                refine ⟨⟨k + 1, rs, ((rs).map (·.2)).length, by omega, by go_num, by simp, LI.up h6 (by omega), HP.out⟩, ?_⟩
                simp [intOf]
                omega
              · rename_i hc2
                have hc0 : ¬ c2 = 0 := by simpa using hc2
                have h6 := H6.out
                rw [if_neg hc0] at h6
                refine ⟨⟨k + 1, rs, sc, by omega, by go_num, rfl, LI.up h6 (by omega), HP.out⟩, ?_⟩
                simp [intOf]
                omega
          · have hsi : decide ((k : Int) < bs.length) = false := by simp; omega
            go_wp2_with fail
            refine ⟨⟨k + 1, rs, sc, by omega, by go_num, rfl, LI.up HL.out (by omega), HP.out⟩, ?_⟩
            simp [intOf]
            omega
    · have hki : decide ((k : Int) < ins.length) = false := by simp; omega
      have HK : Hid (3 * k ≤ 40000000000000) := (by show 3 * k ≤ 40000000000000; omega)
      go_wp2_with (first
        | (go_at_call 23
           refine Calls.mono (li_boot HR.out.1 _ ks H0.out.2.2.2.2.2.2.1 H0.out.2.2.2.2.2.2.2.1) ?_
           rintro e w4 ⟨rfl, hb4⟩
           have H4' : Hid (LB W w4 bd (.slice xa rs.length xc) (rs.map (·.1)) (rs.map (·.2)) sc (3 * k)) := hb4
           clear hb4))
      refine Calls.mono (lb_open H4'.out HK.out most H0.out.2.2.2.2.2.2.2.2) ?_
      rintro e w6 ⟨bl2, L6, rfl, ho6, hs6, hp6⟩
      have H6 : Hid (LO W w6 bl2 (.slice xa rs.length xc) (rs.map (·.1)) L6 ∧ L6.rs.map (·.2) <+: rs.map (·.2)) := ⟨ho6, hp6⟩
      have hle : L6.rs.length ≤ rs.length := by
        have := hp6.length_le
        simpa using this
      have hd1 : decide ((L6.rs.length : Int) < (sc : Int)) = false := by simp; omega
      have hd2 : decide ((rs.length : Int) < (L6.rs.length : Int)) = false := by simp; omega
      have hd3 : decide (L6.rs.length < sc) = false := by simp; omega
      have hd4 : decide (rs.length < L6.rs.length) = false := by simp; omega
      have hd5 : ¬ L6.rs.length < sc := by omega
      have hd6 : ¬ rs.length < L6.rs.length := by omega
      have hbn : L6.rs.length ≤ 1099511627776 := ho6.ln.2
      clear ho6 hp6
      go_wp2_with (first
        | (go_at_call 47
           refine Calls.mono (lo_first H6.out.1) ?_
           rintro e w7 ⟨rfl, ho7⟩
           have H7 : Hid (LO W w7 bl2 (.slice xa rs.length xc) (rs.map (·.1)) L6) := ho7
           clear ho7)
        | (go_at_call 48
           refine Calls.mono (lo_end H7.out) ?_
           rintro e w8 ⟨rfl, ho8⟩
           have H8 : Hid (LO W w8 bl2 (.slice xa rs.length xc) (rs.map (·.1)) L6) := ho8
           clear ho8)
        | (go_at_call 48
           refine Calls.mono (lo_end H8.out) ?_
           rintro e w9 ⟨rfl, ho9⟩
           have H9 : Hid (LO W w9 bl2 (.slice xa rs.length xc) (rs.map (·.1)) L6) := ho9
           clear ho9))
      go_loopw [19] (fun i wr => ∃ (j : Nat), j ≤ L6.rs.length ∧ i = .int .i64 (j : Nat) ∧ LO W wr bl2 (.slice xa rs.length xc) (rs.map (·.1)) L6) (fun i _ => L6.rs.length - (intOf i).toNat)
      case atStart => exact ⟨0, Nat.zero_le _, rfl, H9.out⟩
      case round =>
        obtain ⟨j, hj, rfl, hlo⟩ := hrel
        have HLO : Hid (LO W wr bl2 (.slice xa rs.length xc) (rs.map (·.1)) L6) := hlo
        clear hlo
        by_cases hjl : j < L6.rs.length
        · obtain ⟨q, hq⟩ : ∃ q, L6.rs[j]? = some q := ⟨_, List.getElem?_eq_getElem hjl⟩
          obtain ⟨p, hp⟩ : ∃ p, rs[j]? = some p := ⟨_, List.getElem?_eq_getElem (by omega)⟩
          have hqp : q.2 = p.2 := by
            obtain ⟨t, ht⟩ := H6.out.2
            have h1 : (rs.map (·.2))[j]? = some p.2 := by rw [List.getElem?_map, hp]; rfl
            rw [← ht, List.getElem?_append_left (by rw [List.length_map]; exact hjl), List.getElem?_map, hq] at h1
            exact Option.some.inj h1
          obtain ⟨hpi, hpl⟩ := HR.out.2 p (List.mem_of_getElem? hp)
          obtain ⟨i, hi⟩ := List.mem_iff_getElem?.1 hpi
          obtain ⟨b, o, va, vc, ha, hcell, hpv, hbv, hby⟩ := H0.out.2.1 i p hi
          have hvj : (rs.map (·.1))[j]? = some (.slice va p.2.length vc) := by rw [List.getElem?_map, hp]; exact congrArg some hpv
          obtain ⟨g, hxa, _⟩ := own_cell HLO.out.own hvj
          subst hxa
          rw [hpv] at hbv
          have hji : (j : Int) < L6.rs.length := by omega
          have hjr : (j : Int) < rs.length := by omega
          have HQ : Hid (L6.rs[j]? = some q ∧ q.2.length ≤ 1000 ∧ (rs.map (·.1))[j]? = some (.slice va p.2.length vc) ∧ BytesV W (.slice va p.2.length vc) p.2 ∧ q.2 = p.2) := ⟨hq, by rw [hqp]; exact hpl, hvj, hbv, hqp⟩
          clear hq hp hqp hpi hpl hi ha hcell hpv hbv hby hvj
          go_wp2_with (first
            | (go_at_call 48
               refine Calls.mono (lo_end HLO.out) ?_
               rintro e wa ⟨rfl, hoa⟩
               have HA1 : Hid (LO W wa bl2 (.slice (some ⟨g, 0, none⟩) rs.length xc) (rs.map (·.1)) L6) := hoa
               clear hoa)
            | (go_at_call 20
               refine Calls.mono (lo_get HA1.out HQ.out.1 HQ.out.2.1) ?_
               rintro e wb ⟨xv, rfl, hxb, hob⟩
               have HB1 : Hid (LO W wb bl2 (.slice (some ⟨g, 0, none⟩) rs.length xc) (rs.map (·.1)) L6 ∧ BytesV wb xv p.2) := ⟨hob, HQ.out.2.2.2.2 ▸ hxb⟩
               have hcb : wb.cell? ⟨g, j, none⟩ = some (.slice va p.2.length vc) := by
                 obtain ⟨g', e1, e2⟩ := own_cell hob.own HQ.out.2.2.1
                 injection e1 with e1
                 injection e1 with e1 _ _
                 subst e1
                 exact e2
               clear hob hxb)
            | (go_at_call 22
               refine Calls.mono (same_b HB1.out.2 (BytesV.keep HQ.out.2.2.2.1 (fun b hb => HB1.out.1.fr.block b (BytesV.lt HQ.out.2.2.2.1 b hb)))) ?_
               rintro e wc ⟨rfl, hwc⟩
               obtain rfl := hwc.symm
               clear hwc))
          go_roundw
          case rel => exact ⟨j + 1, by omega, by go_num, HB1.out.1⟩
          case measure => simp [intOf]; omega
        · have hji : decide ((j : Int) < L6.rs.length) = false := by simp; omega
          go_wp2_with (first
            | (go_at_call 48
               refine Calls.mono (lo_end HLO.out) ?_
               rintro e wa ⟨rfl, hoa⟩
               have HA1 : Hid (LO W wa bl2 (.slice xa rs.length xc) (rs.map (·.1)) L6) := hoa
               clear hoa))
          go_returns
          exact ⟨rfl, HA1.out.fr⟩
end Go.Proofs.YtoplejbmgpgkhaaGreatDoor
