/- net: NetTimes, the walk. -/
import Derived.Test.YtemapnfbmhjlbaaPA
import Derived.Deep.RegionHeld3
namespace Go.Proofs.Ytemapnfbmhjlbaa
open Go.RowKit Go.Maps Go.Joins
set_option linter.unusedSimpArgs false
set_option linter.unusedVariables false
set_option maxRecDepth 100000 in
set_option maxHeartbeats 8000000 in
theorem times_big {w : World} (da ma : Option Addr) (n m dc mc : Nat) (hn : n ≤ 9223372036854775807) (hm : m ≤ 9223372036854775807) (h : 1000 < n ∨ 1000 < m) :
    Calls Try.prog 6 #[.slice da n dc, .slice ma m mc] w fun e w' => e = .returned (.bool true) ∧ Below w.heap.size w w' := by
  rcases (show (1000 : Int) < n ∨ (¬ (1000 : Int) < n ∧ (1000 : Int) < m) by omega) with h1 | ⟨h1, h2⟩
  all_goals
    clear h hn hm
    go_enter Try.func6, Try.ntmps6
    go_wp2_with (first
      | (go_at_call 8
         refine Calls.mono (New_ok 1 (by decide) (by decide)) ?_
         rintro e w1 ⟨rfl, hn, hb1⟩
         have HB : Hid (Below w.heap.size w w1) := hb1
         clear hn hb1
         obtain ⟨b, hb⟩ : ∃ b, b = w.heap.size := ⟨_, rfl⟩
         rw [← hb]
         clear hb)
      | (go_at_call 10; refine (alive_any _).mono ?_; rintro e w6 ⟨rfl, hb⟩; have HB6 : Hid (Below w.heap.size w w6) := HB.out.trans (hb.mono HB.out.size); clear hb HB))
    go_ret
    exact ⟨rfl, HB6.out⟩
/-- Within the first loop. -/
structure TL (w w1 wr : World) (b : Nat) (N1 N : NS) (A : NA) (ds : List Int) (s : Nat) (k : Nat) : Prop where
  st : St w1 wr b N1 N A 0
  g : TmG ds A
  ck : A.clk = 0
  len : A.tm.length = s
  sk : s ≤ k
/-- Within the second. -/
structure TM2 (w w1 wr : World) (b : Nat) (N1 N : NS) (A : NA) (ds : List Int) (s t : Nat) (la : Int) : Prop where
  st : St w1 wr b N1 N A 0
  g : TmG ds A
  len : t + A.tm.length = s
  la : la ≤ A.clk
/-- Within the third: j of what was told are done. -/
structure TM3 (w w1 wr : World) (b : Nat) (N1 N : NS) (A : NA) (ds : List Int) (s t : Nat) (la : Int) (base : Nat) (v : Value) (l : List TM) (j : Nat) : Prop where
  st : St w1 wr b N1 N A 0
  g : TmG ds A
  len : t + (l.length - j) + A.tm.length = s
  la : la ≤ A.clk
  row : wr.ownsRow base 63 3 v l.length (tmL l)
  own : ∀ g, v.ownBlock = some g → N.own g = 0
  told : ∀ t ∈ l, (∃ j : Nat, t.tg = j ∧ ds[j]? = some t.at_) ∧ t.at_ = A.clk
set_option maxRecDepth 100000 in
set_option maxHeartbeats 16000000 in
/-- NetTimes -/
theorem times_any {w : World} (da ma : Option Addr) (dc mc : Nat) (ds ms : List Int) (hdv : IntsV w (.slice da ds.length dc) ds) (hmv : IntsV w (.slice ma ms.length mc) ms) (hd9 : ds.length ≤ 1000) (hm9 : ms.length ≤ 1000) :
    Calls Try.prog 6 #[.slice da ds.length dc, .slice ma ms.length mc] w fun e w' => e = .returned (.bool true) ∧ Below w.heap.size w w' := by
  obtain ⟨n, hnn⟩ : ∃ n, n = ds.length := ⟨_, rfl⟩
  obtain ⟨m, hmm⟩ : ∃ m, m = ms.length := ⟨_, rfl⟩
  have HA : Hid ((∀ (j : Nat) (x : Int), ds[j]? = some x → ∃ b o, da = some ⟨b, o, none⟩ ∧ w.cell? ⟨b, o + j, none⟩ = some (.int .i64 x)) ∧ (∀ (j : Nat) (x : Int), ms[j]? = some x → ∃ b o, ma = some ⟨b, o, none⟩ ∧ w.cell? ⟨b, o + j, none⟩ = some (.int .i64 x)) ∧ n = ds.length ∧ m = ms.length) := by
    obtain ⟨_, _, e1, h1⟩ := hdv
    obtain ⟨_, _, e2, h2⟩ := hmv
    injection e1 with e1
    injection e2 with e2
    subst e1 e2
    exact ⟨h1, h2, hnn, hmm⟩
  rw [← hnn] at hd9 ⊢
  rw [← hmm] at hm9 ⊢
  have h1 : ¬ (1000 : Int) < n := by omega
  have h2 : ¬ (1000 : Int) < m := by omega
  clear hnn hmm hdv hmv
  go_enter Try.func6, Try.ntmps6
  go_wp2_with (first
    | (go_at_call 8
       refine Calls.mono (New_ok 1 (by decide) (by decide)) ?_
       rintro e w1 ⟨rfl, hn, hb1⟩
       obtain ⟨b, hb⟩ : ∃ b, b = w.heap.size := ⟨_, rfl⟩
       have hs1 := St.new (w := w) 1 hn
       rw [← hb] at hs1 ⊢
       obtain ⟨N1, hN1⟩ : ∃ N1, N1 = newN b 1 := ⟨_, rfl⟩
       rw [← hN1] at hs1
       have HB : Hid (Below w.heap.size w w1 ∧ b = w.heap.size ∧ N1 = newN b 1) := ⟨hb1, hb, hN1⟩
       have H1 : Hid (St w1 w1 b N1 N1 (A0 1) 0) := hs1
       clear hn hb1 hs1 hb hN1)
    | (go_at_call 10; refine (alive_any _).mono ?_; rintro e w2 ⟨rfl, hb⟩; have H2 : Hid (St w1 w2 b N1 N1 (A0 1) 0) := H1.out.below hb; clear hb H1))
  go_loopw [7, 8] (fun s i wr => ∃ (k sn : Nat), k ≤ n ∧ sn ≤ 1000 ∧ s = .int .i64 sn ∧ i = .int .i64 k ∧ ∃ N A, Hid (TL w w1 wr b N1 N A ds sn k)) (fun _ i _ => n - (intOf i).toNat)
  case atStart => exact ⟨0, 0, Nat.zero_le _, Nat.zero_le _, rfl, rfl, N1, A0 1, H2.out, fun t ht => (by cases ht), rfl, rfl, Nat.le_refl _⟩
  case round =>
    obtain ⟨k, sn, hk, hs9, rfl, rfl, N, A, HJ⟩ := hrel
    by_cases hlt : k < n
    · obtain ⟨d, hd⟩ : ∃ d, ds[k]? = some d := ⟨_, List.getElem?_eq_getElem (by have := HA.out.2.2.1; omega)⟩
      obtain ⟨db, o, rfl, hc0⟩ := HA.out.1 k d hd
      have hc : wr.cell? ⟨db, o + k, none⟩ = some (.int .i64 d) := ((HJ.out.st.bel HB.out).cell (p := ⟨db, o + k, none⟩) (cell_lt hc0)).trans hc0
      have hki : (k : Int) < n := by omega
      obtain ⟨c, A', hR⟩ : ∃ c A', nSet A 0 k d = (c, A') := ⟨_, _, rfl⟩
      have hx := tm_set HJ.out.g HJ.out.ck hd hR
      have hcall := HJ.out.st.set (by decide) 0 k d
      rw [hR] at hcall
      have HC : Hid _ := hcall
      have HX : Hid _ := hx
      clear hc0 hd hR hx hcall
      by_cases hcz : c = 0
      · subst hcz
        go_wp2_with (go_at_call 18; refine Calls.mono HC.out ?_; rintro e w2 ⟨rfl, N', h2, f2⟩; have H2 : Hid (St w1 w2 b N1 N' A' 0) := h2; clear h2 f2 HC)
        go_roundw
        case rel =>
          have hx := HX.out
          have hs := HJ.out.sk
          have hl := HJ.out.len
          simp only [if_true] at hx
          exact ⟨k + 1, sn + 1, by omega, by omega, by go_num, by go_num, N', A', H2.out, hx.1, hx.2.1, by omega, by omega⟩
        case measure => simp [intOf]; omega
      · go_wp2_with (go_at_call 18; refine Calls.mono HC.out ?_; rintro e w2 ⟨rfl, N', h2, f2⟩; have H2 : Hid (St w1 w2 b N1 N' A' 0) := h2; clear h2 f2 HC)
        go_roundw
        case rel =>
          have hx := HX.out
          have hs := HJ.out.sk
          have hl := HJ.out.len
          rw [if_neg hcz] at hx
          exact ⟨k + 1, sn, by omega, by omega, rfl, by go_num, N', A', H2.out, hx.1, hx.2.1, by omega, by omega⟩
        case measure => simp [intOf]; omega
    · obtain rfl : n = k := by omega
      have HT0 : Hid (TM2 w w1 wr b N1 N A ds sn 0 0) := ⟨HJ.out.st, HJ.out.g, by rw [HJ.out.len]; omega, by rw [HJ.out.ck]; exact Int.le_refl _⟩
      clear HJ hlt hk h1 h2
      go_wp2_with fail
      go_loopw [9, 10, 11] (fun t la i wr => ∃ (j tn : Nat) (lz : Int), j ≤ m ∧ tn ≤ sn ∧ t = .int .i64 tn ∧ la = .int .i64 lz ∧ i = .int .i64 j ∧ ∃ N A, Hid (TM2 w w1 wr b N1 N A ds sn tn lz)) (fun _ _ i _ => m - (intOf i).toNat)
      case atStart => exact ⟨0, 0, 0, Nat.zero_le _, Nat.zero_le _, rfl, rfl, rfl, N, A, HT0.out⟩
      case round =>
        clear HT0
        obtain ⟨j, tn, lz, hj, ht9, rfl, rfl, rfl, N, A, HJ⟩ := hrel
        by_cases hlt : j < m
        · obtain ⟨d, hd⟩ : ∃ d, ms[j]? = some d := ⟨_, List.getElem?_eq_getElem (by have := HA.out.2.2.2; omega)⟩
          obtain ⟨mb, o, hma, hc0⟩ := HA.out.2.1 j d hd
          subst hma
          have hc : wr.cell? ⟨mb, o + j, none⟩ = some (.int .i64 d) := ((HJ.out.st.bel HB.out).cell (p := ⟨mb, o + j, none⟩) (cell_lt hc0)).trans hc0
          have hji : (j : Int) < m := by omega
          obtain ⟨l, A', hR⟩ : ∃ l A', nTick A d = (l, A') := ⟨_, _, rfl⟩
          have hx := tm_tick (most := d) HJ.out.st.ok HJ.out.g
          have hcall := HJ.out.st.tick (by decide) d
          simp only [hR] at hcall hx
          have HC : Hid _ := hcall
          have HX : Hid _ := hx
          clear hc0 hd hR hx hcall
          obtain ⟨L, hL⟩ : ∃ L, L = l.length := ⟨_, rfl⟩
          obtain ⟨B0, hB0⟩ : ∃ x, x = wr.heap.size := ⟨_, rfl⟩
          have HB0 : Hid (B0 = wr.heap.size) := hB0
          clear hB0
          go_wp2_with (go_at_call 23; refine Calls.mono HC.out ?_; rintro e w2 ⟨v, rfl, hr, N', h2, f2, ho⟩; obtain ⟨va, vc, rfl⟩ := row_form hr; rw [← hL]; have H5 : Hid (TM3 w w1 w2 b N1 N' A' ds sn tn lz B0 (.slice va L vc) l 0 ∧ L = l.length) := ⟨⟨h2, HX.out.1, by have := HX.out.2.2.1; have := HJ.out.len; omega, Int.le_trans HJ.out.la HX.out.2.1, by rw [hL, HB0.out]; exact hr, by rw [hL]; exact ho, HX.out.2.2.2⟩, hL⟩; clear h2 f2 hr ho HC HX hL)
          have HM : Hid (j < m ∧ L = l.length) := ⟨hlt, H5.out.2⟩
          have hLs : tn + L ≤ sn := by have := H5.out.1.len; have := H5.out.2; omega
          clear hlt HJ hc hji HB0
          go_loopw [9, 10, 13] (fun t la i wr => ∃ (k : Nat) (lz : Int), k ≤ L ∧ t = .int .i64 ((tn + k : Nat) : Int) ∧ la = .int .i64 lz ∧ i = .int .i64 k ∧ ∃ N, Hid (TM3 w w1 wr b N1 N A' ds sn (tn + k) lz B0 (.slice va L vc) l k)) (fun _ _ i _ => L - (intOf i).toNat)
          case atStart => exact ⟨0, lz, Nat.zero_le _, by rw [Nat.add_zero], rfl, rfl, N', H5.out.1⟩
          case round =>
            clear H5
            obtain ⟨k, lz, hk, rfl, rfl, rfl, N, HJ⟩ := hrel
            by_cases hlt : k < L
            · obtain ⟨x, hx⟩ : ∃ x, l[k]? = some x := ⟨_, List.getElem?_eq_getElem (by have := HM.out.2; omega)⟩
              have hrow := HJ.out.row
              rw [← HM.out.2] at hrow
              obtain ⟨g, o, hva, c0, c1, c2⟩ := (TmV.of (l := l) (c := vc) (by rw [← HM.out.2]; exact hrow)).at_ k x hx
              obtain ⟨⟨jt, htg, hdj⟩, hat⟩ := HJ.out.told x (List.mem_of_getElem? hx)
              obtain ⟨db, od, hda, hc0⟩ := HA.out.1 jt _ hdj
              have hjn := (List.getElem?_eq_some_iff.1 hdj).1
              obtain ⟨xn, xt, T⟩ := x
              simp only at htg hdj hat c0 c1 c2 hc0
              subst htg hva hda
              have cd : wr.cell? ⟨db, od + jt, none⟩ = some (.int .i64 T) := ((HJ.out.st.bel HB.out).cell (p := ⟨db, od + jt, none⟩) (cell_lt hc0)).trans hc0
              have hkL : (k : Int) < L := by omega
              have hjn' : (jt : Int) < n := by have := HA.out.2.2.1; omega
              have hla : ¬ T < lz := by have := HJ.out.la; omega
              have HD : Hid (T = A'.clk ∧ l[k]? = some ⟨xn, jt, T⟩ ∧ w.cell? ⟨db, od + jt, none⟩ = some (.int .i64 T) ∧ k < L) := ⟨hat, hx, hc0, hlt⟩
              have HS : Hid (wr.cell? ⟨g, o + k * 3 + 1, none⟩ = some (.int .i64 jt) ∧ wr.cell? ⟨g, o + k * 3 + 2, none⟩ = some (.int .i64 T) ∧ wr.cell? ⟨db, od + jt, none⟩ = some (.int .i64 T)) := ⟨c1, c2, cd⟩
              clear hx hrow c0 c1 c2 hdj hat hc0 hjn hlt cd
              go_wp2_with fail
              refine wp_region_held_drew (S := fun w' => w'.cell? ⟨g, o + k * 3 + 1, none⟩ = some (.int .i64 jt) ∧ w'.cell? ⟨g, o + k * 3 + 2, none⟩ = some (.int .i64 T) ∧ w'.cell? ⟨db, od + jt, none⟩ = some (.int .i64 T)) (by kernel_rfl) HS.out (fun hHeld => ?_)
              refine wpAnyH_take (i := 0) (v := .slice (some ⟨g, o, none⟩) L vc) rfl (by kernel_rfl) (by kernel_rfl) (by kernel_rfl) (fun _ _ _ h => h) (Or.inl ⟨by rfl, fun w9 hSw => ?_⟩) hHeld ?_
              · go_simp
              simp only [List.getElem_toArray, List.getElem_cons_succ, List.getElem_cons_zero, Act.put, List.setIfInBounds_toArray, List.set_cons_zero, List.set_cons_succ]
              refine wpAnyH_take (i := 1) (v := .int .i64 k) rfl (by kernel_rfl) (by kernel_rfl) (by kernel_rfl) (fun _ _ _ h => h) (Or.inl ⟨by rfl, fun w9 hSw => ?_⟩) hHeld ?_
              · go_simp
              simp only [List.getElem_toArray, List.getElem_cons_succ, List.getElem_cons_zero, Act.put, List.setIfInBounds_toArray, List.set_cons_zero, List.set_cons_succ]
              refine wpAnyH_take (i := 2) (v := .pointer (some ⟨g, o + k * 3, none⟩)) rfl (by kernel_rfl) (by kernel_rfl) (by kernel_rfl) (fun _ _ _ h => h) (Or.inl ⟨by rfl, fun w9 hSw => ?_⟩) hHeld ?_
              · go_simp
              simp only [List.getElem_toArray, List.getElem_cons_succ, List.getElem_cons_zero, Act.put, List.setIfInBounds_toArray, List.set_cons_zero, List.set_cons_succ]
              refine wpAnyH_take (i := 3) (v := .pointer (some ⟨g, o + k * 3 + 2, none⟩)) rfl (by kernel_rfl) (by kernel_rfl) (by kernel_rfl) (fun _ _ _ h => h) (Or.inl ⟨by rfl, fun w9 hSw => ?_⟩) hHeld ?_
              · go_simp
              simp only [List.getElem_toArray, List.getElem_cons_succ, List.getElem_cons_zero, Act.put, List.setIfInBounds_toArray, List.set_cons_zero, List.set_cons_succ]
              refine wpAnyH_take (i := 4) (v := .int .i64 T) rfl (by kernel_rfl) (by kernel_rfl) (by kernel_rfl) (fun _ _ _ h => h) (Or.inl ⟨by rfl, fun w9 hSw => ?_⟩) hHeld ?_
              · obtain ⟨c1, c2, cd⟩ := hSw
                go_simp
              simp only [List.getElem_toArray, List.getElem_cons_succ, List.getElem_cons_zero, Act.put, List.setIfInBounds_toArray, List.set_cons_zero, List.set_cons_succ]
              refine wpAnyH_take (i := 5) (v := .pointer (some ⟨b, 0, none⟩)) rfl (by kernel_rfl) (by kernel_rfl) (by kernel_rfl) (fun _ _ _ h => h) (Or.inl ⟨by rfl, fun w9 hSw => ?_⟩) hHeld ?_
              · go_simp
              simp only [List.getElem_toArray, List.getElem_cons_succ, List.getElem_cons_zero, Act.put, List.setIfInBounds_toArray, List.set_cons_zero, List.set_cons_succ]
              refine wpAnyH_ready (rs := [6]) (by kernel_rfl) (by simp) ?_
              refine AllReadyH.cons rfl (fun K hK => ?_) AllReadyH.nil
              have HJ2 : Hid (St w1 wr.drew b N1 N A' 0 ∧ TM3 w w1 wr b N1 N A' ds sn (tn + k) lz B0 (.slice (some ⟨g, o, none⟩) L vc) l k) := ⟨HJ.out.st.below ⟨rfl, rfl, rfl, Nat.le_refl _, fun _ _ => rfl⟩, HJ.out⟩
              have HR : Hid (wr.drew.ownsRow B0 63 3 (.slice (some ⟨g, o, none⟩) L vc) l.length (tmL l)) := ownsRow_heap HJ.out.row (fun _ _ => rfl)
              clear HJ HS
              generalize wr.drew = wd at hHeld HJ2 HR ⊢
              go_simp
              refine Calls.mono HJ2.out.1.now ?_
              rintro e w2 ⟨rfl, N2, h2, f2⟩
              rw [← HD.out.1]
              have HJ3 : Hid (TM3 w w1 w2 b N1 N2 A' ds sn (tn + k) lz B0 (.slice (some ⟨g, o, none⟩) L vc) l k) := by
                have hh := f2.rowk HR.out HJ2.out.2.own
                exact ⟨h2, HJ2.out.2.g, HJ2.out.2.len, HJ2.out.2.la, hh.1, hh.2, HJ2.out.2.told⟩
              have hH2 : w2.cell? ⟨g, o + k * 3 + 1, none⟩ = some (.int .i64 jt) ∧ w2.cell? ⟨g, o + k * 3 + 2, none⟩ = some (.int .i64 T) ∧ w2.cell? ⟨db, od + jt, none⟩ = some (.int .i64 T) := by
                obtain ⟨g', o', e, _, q1, q2⟩ := (TmV.of (l := l) (a := some ⟨g, o, none⟩) (n := l.length) (c := vc) (by have := HJ3.out.row; rw [HM.out.2] at this; exact this)).at_ k _ HD.out.2.1
                injection e with e
                injection e with e1 e2
                subst e1 e2
                exact ⟨q1, q2, ((HJ3.out.st.bel HB.out).cell (p := ⟨db, od + jt, none⟩) (cell_lt HD.out.2.2.1)).trans HD.out.2.2.1⟩
              clear h2 f2 HJ2 HR hHeld
              refine hK.out _ _ hH2 (fun hHeld => ?_)
              clear hK K
              try simp only [List.getElem_toArray, List.getElem_cons_succ, List.getElem_cons_zero, Act.put, List.setIfInBounds_toArray, List.set_cons_zero, List.set_cons_succ]
              refine wpAnyH_take (i := 7) (v := .bool false) rfl (by kernel_rfl) (by kernel_rfl) (by kernel_rfl) (fun _ _ _ h => h) (Or.inl ⟨by rfl, fun w9 hSw => ?_⟩) hHeld ?_
              · go_simp
              simp only [List.getElem_toArray, List.getElem_cons_succ, List.getElem_cons_zero, Act.put, List.setIfInBounds_toArray, List.set_cons_zero, List.set_cons_succ]
              refine wpAnyH_take (i := 8) (v := .bool false) rfl (by kernel_rfl) (by kernel_rfl) (by kernel_rfl) (fun _ _ _ h => h) (Or.inl ⟨by rfl, fun w9 hSw => ?_⟩) hHeld ?_
              · go_simp
              simp only [List.getElem_toArray, List.getElem_cons_succ, List.getElem_cons_zero, Act.put, List.setIfInBounds_toArray, List.set_cons_zero, List.set_cons_succ]
              refine wpAnyH_take (i := 9) (v := .slice (some ⟨g, o, none⟩) L vc) rfl (by kernel_rfl) (by kernel_rfl) (by kernel_rfl) (fun _ _ _ h => h) (Or.inl ⟨by rfl, fun w9 hSw => ?_⟩) hHeld ?_
              · go_simp
              simp only [List.getElem_toArray, List.getElem_cons_succ, List.getElem_cons_zero, Act.put, List.setIfInBounds_toArray, List.set_cons_zero, List.set_cons_succ]
              refine wpAnyH_take (i := 10) (v := .int .i64 k) rfl (by kernel_rfl) (by kernel_rfl) (by kernel_rfl) (fun _ _ _ h => h) (Or.inl ⟨by rfl, fun w9 hSw => ?_⟩) hHeld ?_
              · go_simp
              simp only [List.getElem_toArray, List.getElem_cons_succ, List.getElem_cons_zero, Act.put, List.setIfInBounds_toArray, List.set_cons_zero, List.set_cons_succ]
              refine wpAnyH_take (i := 11) (v := .pointer (some ⟨g, o + k * 3, none⟩)) rfl (by kernel_rfl) (by kernel_rfl) (by kernel_rfl) (fun _ _ _ h => h) (Or.inl ⟨by rfl, fun w9 hSw => ?_⟩) hHeld ?_
              · go_simp
              simp only [List.getElem_toArray, List.getElem_cons_succ, List.getElem_cons_zero, Act.put, List.setIfInBounds_toArray, List.set_cons_zero, List.set_cons_succ]
              refine wpAnyH_take (i := 12) (v := .pointer (some ⟨g, o + k * 3 + 2, none⟩)) rfl (by kernel_rfl) (by kernel_rfl) (by kernel_rfl) (fun _ _ _ h => h) (Or.inl ⟨by rfl, fun w9 hSw => ?_⟩) hHeld ?_
              · go_simp
              simp only [List.getElem_toArray, List.getElem_cons_succ, List.getElem_cons_zero, Act.put, List.setIfInBounds_toArray, List.set_cons_zero, List.set_cons_succ]
              refine wpAnyH_take (i := 13) (v := .int .i64 T) rfl (by kernel_rfl) (by kernel_rfl) (by kernel_rfl) (fun _ _ _ h => h) (Or.inl ⟨by rfl, fun w9 hSw => ?_⟩) hHeld ?_
              · obtain ⟨c1, c2, cd⟩ := hSw
                go_simp
              simp only [List.getElem_toArray, List.getElem_cons_succ, List.getElem_cons_zero, Act.put, List.setIfInBounds_toArray, List.set_cons_zero, List.set_cons_succ]
              refine wpAnyH_take (i := 14) (v := .int .i64 lz) rfl (by kernel_rfl) (by kernel_rfl) (by kernel_rfl) (fun _ _ _ h => h) (Or.inl ⟨by rfl, fun w9 hSw => ?_⟩) hHeld ?_
              · go_simp
              simp only [List.getElem_toArray, List.getElem_cons_succ, List.getElem_cons_zero, Act.put, List.setIfInBounds_toArray, List.set_cons_zero, List.set_cons_succ]
              refine wpAnyH_take (i := 15) (v := .bool false) rfl (by kernel_rfl) (by kernel_rfl) (by kernel_rfl) (fun _ _ _ h => h) (Or.inl ⟨by rfl, fun w9 hSw => ?_⟩) hHeld ?_
              · go_simp
              simp only [List.getElem_toArray, List.getElem_cons_succ, List.getElem_cons_zero, Act.put, List.setIfInBounds_toArray, List.set_cons_zero, List.set_cons_succ]
              refine wpAnyH_take (i := 16) (v := .bool false) rfl (by kernel_rfl) (by kernel_rfl) (by kernel_rfl) (fun _ _ _ h => h) (Or.inl ⟨by rfl, fun w9 hSw => ?_⟩) hHeld ?_
              · go_simp
              simp only [List.getElem_toArray, List.getElem_cons_succ, List.getElem_cons_zero, Act.put, List.setIfInBounds_toArray, List.set_cons_zero, List.set_cons_succ]
              refine wpAnyH_take (i := 17) (v := .bool false) rfl (by kernel_rfl) (by kernel_rfl) (by kernel_rfl) (fun _ _ _ h => h) (Or.inl ⟨by rfl, fun w9 hSw => ?_⟩) hHeld ?_
              · go_simp
              simp only [List.getElem_toArray, List.getElem_cons_succ, List.getElem_cons_zero, Act.put, List.setIfInBounds_toArray, List.set_cons_zero, List.set_cons_succ]
              refine wpAnyH_take (i := 18) (v := .slice (some ⟨g, o, none⟩) L vc) rfl (by kernel_rfl) (by kernel_rfl) (by kernel_rfl) (fun _ _ _ h => h) (Or.inl ⟨by rfl, fun w9 hSw => ?_⟩) hHeld ?_
              · go_simp
              simp only [List.getElem_toArray, List.getElem_cons_succ, List.getElem_cons_zero, Act.put, List.setIfInBounds_toArray, List.set_cons_zero, List.set_cons_succ]
              refine wpAnyH_take (i := 19) (v := .int .i64 k) rfl (by kernel_rfl) (by kernel_rfl) (by kernel_rfl) (fun _ _ _ h => h) (Or.inl ⟨by rfl, fun w9 hSw => ?_⟩) hHeld ?_
              · go_simp
              simp only [List.getElem_toArray, List.getElem_cons_succ, List.getElem_cons_zero, Act.put, List.setIfInBounds_toArray, List.set_cons_zero, List.set_cons_succ]
              refine wpAnyH_take (i := 20) (v := .pointer (some ⟨g, o + k * 3, none⟩)) rfl (by kernel_rfl) (by kernel_rfl) (by kernel_rfl) (fun _ _ _ h => h) (Or.inl ⟨by rfl, fun w9 hSw => ?_⟩) hHeld ?_
              · go_simp
              simp only [List.getElem_toArray, List.getElem_cons_succ, List.getElem_cons_zero, Act.put, List.setIfInBounds_toArray, List.set_cons_zero, List.set_cons_succ]
              refine wpAnyH_take (i := 21) (v := .pointer (some ⟨g, o + k * 3 + 1, none⟩)) rfl (by kernel_rfl) (by kernel_rfl) (by kernel_rfl) (fun _ _ _ h => h) (Or.inl ⟨by rfl, fun w9 hSw => ?_⟩) hHeld ?_
              · go_simp
              simp only [List.getElem_toArray, List.getElem_cons_succ, List.getElem_cons_zero, Act.put, List.setIfInBounds_toArray, List.set_cons_zero, List.set_cons_succ]
              refine wpAnyH_take (i := 22) (v := .int .i64 jt) rfl (by kernel_rfl) (by kernel_rfl) (by kernel_rfl) (fun _ _ _ h => h) (Or.inl ⟨by rfl, fun w9 hSw => ?_⟩) hHeld ?_
              · obtain ⟨c1, c2, cd⟩ := hSw
                go_simp
              simp only [List.getElem_toArray, List.getElem_cons_succ, List.getElem_cons_zero, Act.put, List.setIfInBounds_toArray, List.set_cons_zero, List.set_cons_succ]
              refine wpAnyH_take (i := 23) (v := .bool false) rfl (by kernel_rfl) (by kernel_rfl) (by kernel_rfl) (fun _ _ _ h => h) (Or.inl ⟨by rfl, fun w9 hSw => ?_⟩) hHeld ?_
              · go_simp
              simp only [List.getElem_toArray, List.getElem_cons_succ, List.getElem_cons_zero, Act.put, List.setIfInBounds_toArray, List.set_cons_zero, List.set_cons_succ]
              refine wpAnyH_take (i := 24) (v := .bool false) rfl (by kernel_rfl) (by kernel_rfl) (by kernel_rfl) (fun _ _ _ h => h) (Or.inl ⟨by rfl, fun w9 hSw => ?_⟩) hHeld ?_
              · go_simp
              simp only [List.getElem_toArray, List.getElem_cons_succ, List.getElem_cons_zero, Act.put, List.setIfInBounds_toArray, List.set_cons_zero, List.set_cons_succ]
              refine wpAnyH_take (i := 25) (v := .bool false) rfl (by kernel_rfl) (by kernel_rfl) (by kernel_rfl) (fun _ _ _ h => h) (Or.inl ⟨by rfl, fun w9 hSw => ?_⟩) hHeld ?_
              · go_simp
              simp only [List.getElem_toArray, List.getElem_cons_succ, List.getElem_cons_zero, Act.put, List.setIfInBounds_toArray, List.set_cons_zero, List.set_cons_succ]
              refine wpAnyH_take (i := 26) (v := .slice (some ⟨g, o, none⟩) L vc) rfl (by kernel_rfl) (by kernel_rfl) (by kernel_rfl) (fun _ _ _ h => h) (Or.inl ⟨by rfl, fun w9 hSw => ?_⟩) hHeld ?_
              · go_simp
              simp only [List.getElem_toArray, List.getElem_cons_succ, List.getElem_cons_zero, Act.put, List.setIfInBounds_toArray, List.set_cons_zero, List.set_cons_succ]
              refine wpAnyH_take (i := 27) (v := .int .i64 k) rfl (by kernel_rfl) (by kernel_rfl) (by kernel_rfl) (fun _ _ _ h => h) (Or.inl ⟨by rfl, fun w9 hSw => ?_⟩) hHeld ?_
              · go_simp
              simp only [List.getElem_toArray, List.getElem_cons_succ, List.getElem_cons_zero, Act.put, List.setIfInBounds_toArray, List.set_cons_zero, List.set_cons_succ]
              refine wpAnyH_take (i := 28) (v := .pointer (some ⟨g, o + k * 3, none⟩)) rfl (by kernel_rfl) (by kernel_rfl) (by kernel_rfl) (fun _ _ _ h => h) (Or.inl ⟨by rfl, fun w9 hSw => ?_⟩) hHeld ?_
              · go_simp
              simp only [List.getElem_toArray, List.getElem_cons_succ, List.getElem_cons_zero, Act.put, List.setIfInBounds_toArray, List.set_cons_zero, List.set_cons_succ]
              refine wpAnyH_take (i := 29) (v := .pointer (some ⟨g, o + k * 3 + 1, none⟩)) rfl (by kernel_rfl) (by kernel_rfl) (by kernel_rfl) (fun _ _ _ h => h) (Or.inl ⟨by rfl, fun w9 hSw => ?_⟩) hHeld ?_
              · go_simp
              simp only [List.getElem_toArray, List.getElem_cons_succ, List.getElem_cons_zero, Act.put, List.setIfInBounds_toArray, List.set_cons_zero, List.set_cons_succ]
              refine wpAnyH_take (i := 30) (v := .int .i64 jt) rfl (by kernel_rfl) (by kernel_rfl) (by kernel_rfl) (fun _ _ _ h => h) (Or.inl ⟨by rfl, fun w9 hSw => ?_⟩) hHeld ?_
              · obtain ⟨c1, c2, cd⟩ := hSw
                go_simp
              simp only [List.getElem_toArray, List.getElem_cons_succ, List.getElem_cons_zero, Act.put, List.setIfInBounds_toArray, List.set_cons_zero, List.set_cons_succ]
              refine wpAnyH_take (i := 31) (v := .slice (some ⟨db, od, none⟩) n dc) rfl (by kernel_rfl) (by kernel_rfl) (by kernel_rfl) (fun _ _ _ h => h) (Or.inl ⟨by rfl, fun w9 hSw => ?_⟩) hHeld ?_
              · go_simp
              simp only [List.getElem_toArray, List.getElem_cons_succ, List.getElem_cons_zero, Act.put, List.setIfInBounds_toArray, List.set_cons_zero, List.set_cons_succ]
              refine wpAnyH_take (i := 32) (v := .int .i64 n) rfl (by kernel_rfl) (by kernel_rfl) (by kernel_rfl) (fun _ _ _ h => h) (Or.inl ⟨by rfl, fun w9 hSw => ?_⟩) hHeld ?_
              · go_simp
              simp only [List.getElem_toArray, List.getElem_cons_succ, List.getElem_cons_zero, Act.put, List.setIfInBounds_toArray, List.set_cons_zero, List.set_cons_succ]
              refine wpAnyH_take (i := 33) (v := .bool false) rfl (by kernel_rfl) (by kernel_rfl) (by kernel_rfl) (fun _ _ _ h => h) (Or.inl ⟨by rfl, fun w9 hSw => ?_⟩) hHeld ?_
              · go_simp
                omega
              simp only [List.getElem_toArray, List.getElem_cons_succ, List.getElem_cons_zero, Act.put, List.setIfInBounds_toArray, List.set_cons_zero, List.set_cons_succ]
              refine wpAnyH_take (i := 34) (v := .bool false) rfl (by kernel_rfl) (by kernel_rfl) (by kernel_rfl) (fun _ _ _ h => h) (Or.inl ⟨by rfl, fun w9 hSw => ?_⟩) hHeld ?_
              · go_simp
              simp only [List.getElem_toArray, List.getElem_cons_succ, List.getElem_cons_zero, Act.put, List.setIfInBounds_toArray, List.set_cons_zero, List.set_cons_succ]
              refine wpAnyH_take (i := 35) (v := .bool false) rfl (by kernel_rfl) (by kernel_rfl) (by kernel_rfl) (fun _ _ _ h => h) (Or.inl ⟨by rfl, fun w9 hSw => ?_⟩) hHeld ?_
              · go_simp
              simp only [List.getElem_toArray, List.getElem_cons_succ, List.getElem_cons_zero, Act.put, List.setIfInBounds_toArray, List.set_cons_zero, List.set_cons_succ]
              refine wpAnyH_take (i := 36) (v := .slice (some ⟨db, od, none⟩) n dc) rfl (by kernel_rfl) (by kernel_rfl) (by kernel_rfl) (fun _ _ _ h => h) (Or.inl ⟨by rfl, fun w9 hSw => ?_⟩) hHeld ?_
              · go_simp
              simp only [List.getElem_toArray, List.getElem_cons_succ, List.getElem_cons_zero, Act.put, List.setIfInBounds_toArray, List.set_cons_zero, List.set_cons_succ]
              refine wpAnyH_take (i := 37) (v := .slice (some ⟨g, o, none⟩) L vc) rfl (by kernel_rfl) (by kernel_rfl) (by kernel_rfl) (fun _ _ _ h => h) (Or.inl ⟨by rfl, fun w9 hSw => ?_⟩) hHeld ?_
              · go_simp
              simp only [List.getElem_toArray, List.getElem_cons_succ, List.getElem_cons_zero, Act.put, List.setIfInBounds_toArray, List.set_cons_zero, List.set_cons_succ]
              refine wpAnyH_take (i := 38) (v := .int .i64 k) rfl (by kernel_rfl) (by kernel_rfl) (by kernel_rfl) (fun _ _ _ h => h) (Or.inl ⟨by rfl, fun w9 hSw => ?_⟩) hHeld ?_
              · go_simp
              simp only [List.getElem_toArray, List.getElem_cons_succ, List.getElem_cons_zero, Act.put, List.setIfInBounds_toArray, List.set_cons_zero, List.set_cons_succ]
              refine wpAnyH_take (i := 39) (v := .pointer (some ⟨g, o + k * 3, none⟩)) rfl (by kernel_rfl) (by kernel_rfl) (by kernel_rfl) (fun _ _ _ h => h) (Or.inl ⟨by rfl, fun w9 hSw => ?_⟩) hHeld ?_
              · go_simp
              simp only [List.getElem_toArray, List.getElem_cons_succ, List.getElem_cons_zero, Act.put, List.setIfInBounds_toArray, List.set_cons_zero, List.set_cons_succ]
              refine wpAnyH_take (i := 40) (v := .pointer (some ⟨g, o + k * 3 + 1, none⟩)) rfl (by kernel_rfl) (by kernel_rfl) (by kernel_rfl) (fun _ _ _ h => h) (Or.inl ⟨by rfl, fun w9 hSw => ?_⟩) hHeld ?_
              · go_simp
              simp only [List.getElem_toArray, List.getElem_cons_succ, List.getElem_cons_zero, Act.put, List.setIfInBounds_toArray, List.set_cons_zero, List.set_cons_succ]
              refine wpAnyH_take (i := 41) (v := .int .i64 jt) rfl (by kernel_rfl) (by kernel_rfl) (by kernel_rfl) (fun _ _ _ h => h) (Or.inl ⟨by rfl, fun w9 hSw => ?_⟩) hHeld ?_
              · obtain ⟨c1, c2, cd⟩ := hSw
                go_simp
              simp only [List.getElem_toArray, List.getElem_cons_succ, List.getElem_cons_zero, Act.put, List.setIfInBounds_toArray, List.set_cons_zero, List.set_cons_succ]
              refine wpAnyH_take (i := 42) (v := .pointer (some ⟨db, od + jt, none⟩)) rfl (by kernel_rfl) (by kernel_rfl) (by kernel_rfl) (fun _ _ _ h => h) (Or.inl ⟨by rfl, fun w9 hSw => ?_⟩) hHeld ?_
              · go_simp
              simp only [List.getElem_toArray, List.getElem_cons_succ, List.getElem_cons_zero, Act.put, List.setIfInBounds_toArray, List.set_cons_zero, List.set_cons_succ]
              refine wpAnyH_take (i := 43) (v := .int .i64 T) rfl (by kernel_rfl) (by kernel_rfl) (by kernel_rfl) (fun _ _ _ h => h) (Or.inl ⟨by rfl, fun w9 hSw => ?_⟩) hHeld ?_
              · obtain ⟨c1, c2, cd⟩ := hSw
                go_simp
              simp only [List.getElem_toArray, List.getElem_cons_succ, List.getElem_cons_zero, Act.put, List.setIfInBounds_toArray, List.set_cons_zero, List.set_cons_succ]
              refine wpAnyH_take (i := 44) (v := .slice (some ⟨g, o, none⟩) L vc) rfl (by kernel_rfl) (by kernel_rfl) (by kernel_rfl) (fun _ _ _ h => h) (Or.inl ⟨by rfl, fun w9 hSw => ?_⟩) hHeld ?_
              · go_simp
              simp only [List.getElem_toArray, List.getElem_cons_succ, List.getElem_cons_zero, Act.put, List.setIfInBounds_toArray, List.set_cons_zero, List.set_cons_succ]
              refine wpAnyH_take (i := 45) (v := .int .i64 k) rfl (by kernel_rfl) (by kernel_rfl) (by kernel_rfl) (fun _ _ _ h => h) (Or.inl ⟨by rfl, fun w9 hSw => ?_⟩) hHeld ?_
              · go_simp
              simp only [List.getElem_toArray, List.getElem_cons_succ, List.getElem_cons_zero, Act.put, List.setIfInBounds_toArray, List.set_cons_zero, List.set_cons_succ]
              refine wpAnyH_take (i := 46) (v := .pointer (some ⟨g, o + k * 3, none⟩)) rfl (by kernel_rfl) (by kernel_rfl) (by kernel_rfl) (fun _ _ _ h => h) (Or.inl ⟨by rfl, fun w9 hSw => ?_⟩) hHeld ?_
              · go_simp
              simp only [List.getElem_toArray, List.getElem_cons_succ, List.getElem_cons_zero, Act.put, List.setIfInBounds_toArray, List.set_cons_zero, List.set_cons_succ]
              refine wpAnyH_take (i := 47) (v := .pointer (some ⟨g, o + k * 3 + 2, none⟩)) rfl (by kernel_rfl) (by kernel_rfl) (by kernel_rfl) (fun _ _ _ h => h) (Or.inl ⟨by rfl, fun w9 hSw => ?_⟩) hHeld ?_
              · go_simp
              simp only [List.getElem_toArray, List.getElem_cons_succ, List.getElem_cons_zero, Act.put, List.setIfInBounds_toArray, List.set_cons_zero, List.set_cons_succ]
              refine wpAnyH_take (i := 48) (v := .int .i64 T) rfl (by kernel_rfl) (by kernel_rfl) (by kernel_rfl) (fun _ _ _ h => h) (Or.inl ⟨by rfl, fun w9 hSw => ?_⟩) hHeld ?_
              · obtain ⟨c1, c2, cd⟩ := hSw
                go_simp
              simp only [List.getElem_toArray, List.getElem_cons_succ, List.getElem_cons_zero, Act.put, List.setIfInBounds_toArray, List.set_cons_zero, List.set_cons_succ]
              refine wpAnyH_take (i := 49) (v := .bool false) rfl (by kernel_rfl) (by kernel_rfl) (by kernel_rfl) (fun _ _ _ h => h) (Or.inl ⟨by rfl, fun w9 hSw => ?_⟩) hHeld ?_
              · go_simp
              simp only [List.getElem_toArray, List.getElem_cons_succ, List.getElem_cons_zero, Act.put, List.setIfInBounds_toArray, List.set_cons_zero, List.set_cons_succ]
              refine wpAnyH_take (i := 50) (v := .bool false) rfl (by kernel_rfl) (by kernel_rfl) (by kernel_rfl) (fun _ _ _ h => h) (Or.inl ⟨by rfl, fun w9 hSw => ?_⟩) hHeld ?_
              · go_simp
              simp only [List.getElem_toArray, List.getElem_cons_succ, List.getElem_cons_zero, Act.put, List.setIfInBounds_toArray, List.set_cons_zero, List.set_cons_succ]
              refine wpAnyH_done (by kernel_rfl) ?_ _
              obtain ⟨_, c2, _⟩ := hH2
              clear hHeld
              go_wp2_with fail
              go_roundw
              case rel =>
                have hl := HJ3.out.len
                have hll := HM.out.2
                have hkk := HD.out.2.2.2
                exact ⟨k + 1, T, by omega, by go_num, rfl, by go_num, N2, HJ3.out.st, HJ3.out.g, by omega, by rw [HD.out.1]; exact Int.le_refl _, HJ3.out.row, HJ3.out.own, HJ3.out.told⟩
              case measure => have hkk := HD.out.2.2.2; simp [intOf]; omega
            · obtain rfl : L = k := by omega
              have HJ5 : Hid (TM2 w w1 wr b N1 N A' ds sn (tn + L) lz) := ⟨HJ.out.st, HJ.out.g, by have := HJ.out.len; have := HM.out.2; omega, HJ.out.la⟩
              clear HJ hlt
              have HM2 := HM.out.1
              go_wp2_with fail
              go_roundw
              case rel => exact ⟨j + 1, tn + L, lz, by omega, by omega, rfl, rfl, by go_num, N, A', HJ5.out⟩
              case measure => simp [intOf]; omega
        · obtain rfl : m = j := by omega
          have HT := timers_any HJ.out.st.net (HJ.out.st.nok (by decide))
          have HX : Hid (N.tm.length = A.tm.length) := by have := HJ.out.st.abs; rw [← this]; exact rfl
          have HC : Hid _ := HT
          have hle : tn + A.tm.length = sn := HJ.out.len
          obtain ⟨q, hq⟩ : ∃ q, q = N.tm.length := ⟨_, rfl⟩
          rw [← hq] at HC
          have hq2 : tn + q = sn := by rw [hq, HX.out]; exact hle
          clear hlt HT hle hq HX
          go_wp2_with (go_at_call 27; go_loud (refine Calls.mono HC.out ?_; rintro e w2 ⟨v, rfl, hr, hb⟩; obtain ⟨va, vc, rfl⟩ := row_form hr; have H6 : Hid (Below w.heap.size w w2) := (HJ.out.st.bel HB.out).trans (hb.mono (HJ.out.st.bel HB.out).size); clear hr hb HC))
          go_ret
          refine ⟨?_, H6.out⟩
          have hb : ((tn : Int) + q == (sn : Int)) = true := by simp; omega
          rw [hb]
          rfl
end Go.Proofs.Ytemapnfbmhjlbaa
