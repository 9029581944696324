/- XC, WS -/
import Derived.Test.YtoplejbmgpgkhaaGreatDoorGMN
import Derived.Test.YtoplejbmgpgkhaaGreatDoorXB
import Derived.Test.YtoplejbmgpgkhaaGreatDoorRows
import Derived.ProofKit
import Derived.LaidMore
import Derived.OpenShut
import Derived.Stop.Joined
import Derived.Stop.LaidErr
import Derived.Carry
import Derived.Lib.LaidTab
namespace Go.Proofs.YtoplejbmgpgkhaaGreatDoor
open Go.RowKit Go.Maps Go.Joins Go.Sort
set_option linter.unusedVariables false
set_option linter.unusedSimpArgs false
theorem ldx_up {A A' : DA} {P P' : PL} {n c : Int} {last : Bool} (h : LdX A P n last c A' P') (hu : Up A) : Up A' := by
  have h1 : Up (dRead A (fileB logB n)).2 := hu.next _ 0 _
  have h2 : ∀ k : Int, Up (dTru (dRead A (fileB logB n)).2 (fileB logB n) k).2 := fun k => h1.next _ 0 _
  rcases h with ⟨_, _, rfl⟩ | ⟨_, ⟨_, _, _, rfl⟩ | ⟨_, ⟨_, rfl, _⟩ | ⟨k, rs, _, _, ⟨_, _, rfl⟩ | ⟨_, _, _, _, rfl⟩⟩⟩⟩
  · exact h1
  · exact h1
  · exact h1
  · exact h1
  · exact h2 k
theorem opx_up : ∀ (ns : List Int) {A A' : DA} {P P' : PL} {c : Int}, OpX A P ns c A' P' → Up A → Up A'
  | [], A, A', P, P', c, ⟨_, h2, _⟩, hu => by rw [h2]; exact hu
  | n :: r, A, A', P, P', c, ⟨d, B, M, h1, h2⟩, hu => by
    rcases h2 with ⟨_, _, h3⟩ | ⟨_, h3⟩
    · rw [h3]; exact ldx_up h1 hu
    · exact opx_up r h3 (ldx_up h1 hu)
def otherB : ByteArray := ⟨#[111, 116, 104, 101, 114]⟩
theorem bv_x (w : World) (mk : Nat × Nat) : BytesV (w.alloc (.cells #[.int .u8 120] 5 mk)) (.slice (some ⟨w.heap.size, 0, none⟩) 1 1) [120] := by
  refine Or.inr ⟨⟨w.heap.size, 0, none⟩, 1, rfl, fun j u hu => ?_⟩
  cases j with
  | zero => rw [Addr.add_lit, ← hu]; simp [World.cell?_alloc_mark, vB]
  | succ j => simp [vB] at hu
set_option maxRecDepth 100000 in
set_option maxHeartbeats 16000000 in
theorem opens_any {W : World} (hV : Vars W) (ia : Option Addr) (iC : Nat) (ks : List Int) (hks : IntsV W (.slice ia ks.length iC) ks) (hkl : ks.length ≤ 1000000000000000000) (a : Option Addr) (C : Nat) (rs : List (Value × List Int)) (hrs : RowsV W a rs) (hl : rs.length ≤ 9000000000000) (hrl : ∀ p ∈ rs, p.2.length ≤ 140737488355328) :
    Calls Tryz.prog 5 #[.slice ia ks.length iC, .slice a rs.length C] W fun e w' => e = .returned (.bool true) ∧ Below W.heap.size W w' := by
  have hks' : ∀ j x, ks[j]? = some x → ∃ b o, ia = some ⟨b, o, none⟩ ∧ W.cell? ⟨b, o + j, none⟩ = some (.int .i64 x) := by
    obtain ⟨a', c', e, h⟩ := hks
    injection e with e1 e2 e3
    subst e1
    exact h
  have H0 : Hid (Vars W ∧ (∀ j x, ks[j]? = some x → ∃ b o, ia = some ⟨b, o, none⟩ ∧ W.cell? ⟨b, o + j, none⟩ = some (.int .i64 x)) ∧ RowsV W a rs ∧ ∀ p ∈ rs, p.2.length ≤ 140737488355328) := ⟨hV, hks', hrs, hrl⟩
  have hcv := fun (w : World) (C : Array Value) (n c : Nat) => Lib.run_convert_bytes_const (P := Tryz.prog) w 36 5 C n c Tryz.underlying36 Tryz.underlying5
  clear hV hks hks' hrs hrl
  go_enter Tryz.func5, Tryz.ntmps5
  go_wp2_with (first
    | (go_at_call 9
       refine Calls.mono (dk_new H0.out.1 1073741824 (by omega) (by omega)) ?_
       rintro e w1 ⟨bd, S1, rfl, hd1⟩
       have H1 : Hid (Dk W w1 bd S1 1073741824 (newA 1073741824)) := hd1
       clear hd1)
    | (go_at_call 10
       refine Calls.mono (d2_new H0.out.1 1073741824 (by omega) (by omega) H1.out) ?_
       rintro e w2 ⟨br, R2, rfl, hd2⟩
       have H2 : Hid (D2 W w2 bd br S1 R2 1073741824 (newA 1073741824) (newA 1073741824)) := hd2
       clear hd2))
  go_loopw [8] (fun i wr => ∃ (k : Nat) (S : DS) (R : RS) (A : DA), k ≤ ks.length ∧ k ≤ rs.length ∧ i = .int .i64 (k : Nat) ∧ D2 W wr bd br S R 1073741824 A A ∧ Up A ∧ NmB A.l ∧ A.steps ≤ (k : Int)) (fun i _ => rs.length - (intOf i).toNat)
  case atStart => exact ⟨0, S1, R2, _, Nat.zero_le _, Nat.zero_le _, rfl, H2.out, ⟨rfl, fun _ => rfl⟩, fun p hp => (by cases hp), by decide⟩
  case round =>
    obtain ⟨k, S, R, A, hk1, hk2, rfl, hd, hu, hnm, hst⟩ := hrel
    have HD0 : Hid (D2 W wr bd br S R 1073741824 A A) := hd
    have HAK : Hid (Up A ∧ NmB A.l ∧ A.steps ≤ (k : Int)) := ⟨hu, hnm, hst⟩
    clear hd hu hnm hst
    by_cases hkk : k < ks.length ∧ k < rs.length
    · obtain ⟨hkk1, hkk2⟩ := hkk
      obtain ⟨n, hn⟩ : ∃ n, ks[k]? = some n := ⟨_, List.getElem?_eq_getElem hkk1⟩
      obtain ⟨p, hp⟩ : ∃ p, rs[k]? = some p := ⟨_, List.getElem?_eq_getElem hkk2⟩
      obtain ⟨b1, o1, hia, hc1⟩ := H0.out.2.1 k n hn
      obtain ⟨b, o, va, vc, ha, hcell, hpv, hbv, hby⟩ := H0.out.2.2.1 k p hp
      subst hia
      subst ha
      rw [hpv] at hcell hbv
      have hki1 : (k : Int) < ks.length := by omega
      have hki2 : (k : Int) < rs.length := by omega
      have hcn : wr.cell? ⟨b1, o1 + k, none⟩ = some (.int .i64 n) := (World.cell?_of_block (a := ⟨b1, o1 + k, none⟩) (HD0.out.fr.block b1 (cell_lt hc1))).trans hc1
      obtain ⟨s, hs⟩ : ∃ s, s = fileB logB n := ⟨_, rfl⟩
      have HBV : Hid (BytesV W (.slice va p.2.length vc) p.2 ∧ p.2.length ≤ 4611686018427387904 ∧ s.size ≤ 1000 ∧ W.cell? ⟨b, o + k, none⟩ = some (.slice va p.2.length vc)) := ⟨hbv, by have := H0.out.2.2.2 p (List.mem_of_getElem? hp); omega, by rw [hs]; have := fileB_size n; omega, hcell⟩
      have HS : Hid (s = fileB logB n) := hs
      clear hc1 hcell hpv hbv hby hp hn hs
      go_wp2_with (first
        | (go_at_call 28
           refine Calls.mono (rfile_any logB (by decide) n) ?_
           rw [← HS.out]
           rintro e w4 ⟨rfl, hb4⟩
           have H4 : Hid (D2 W w4 bd br S R 1073741824 A A) := D2.below HD0.out hb4
           have hcw : w4.cell? ⟨b, o + k, none⟩ = some (.slice va p.2.length vc) := (World.cell?_of_block (a := ⟨b, o + k, none⟩) (H4.out.fr.block b (cell_lt HBV.out.2.2.2))).trans HBV.out.2.2.2
           clear hb4 hcn))
      refine wp_region_held_drew (S := fun w' => w'.cell? ⟨b, o + k, none⟩ = some (.slice va p.2.length vc)) (by kernel_rfl) hcw (fun hHeld => ?_)
      refine tk 0 (.pointer (some ⟨bd, 0, none⟩)) (fun w9 hSw => ?_) hHeld ?_
      · go_simp
      simp only [sm]
      refine tk 1 (.string s) (fun w9 hSw => ?_) hHeld ?_
      · go_simp
      simp only [sm]
      refine tk 2 (.slice (some ⟨b, o, none⟩) rs.length C) (fun w9 hSw => ?_) hHeld ?_
      · go_simp
      simp only [sm]
      refine tk 3 (.int .i64 (k : Nat)) (fun w9 hSw => ?_) hHeld ?_
      · go_simp
      simp only [sm]
      refine tk 4 (.pointer (some ⟨b, o + k, none⟩)) (fun w9 hSw => ?_) hHeld ?_
      · go_simp
      simp only [sm]
      refine tk 5 (.slice va p.2.length vc) (fun w9 hSw => ?_) hHeld ?_
      · have hc := hSw
        go_simp
      simp only [sm]
      refine tk 7 (.pointer (some ⟨br, 0, none⟩)) (fun w9 hSw => ?_) hHeld ?_
      · go_simp
      simp only [sm]
      refine tk 8 (.string s) (fun w9 hSw => ?_) hHeld ?_
      · go_simp
      simp only [sm]
      refine tk 9 (.slice (some ⟨b, o, none⟩) rs.length C) (fun w9 hSw => ?_) hHeld ?_
      · go_simp
      simp only [sm]
      refine tk 10 (.int .i64 (k : Nat)) (fun w9 hSw => ?_) hHeld ?_
      · go_simp
      simp only [sm]
      refine tk 11 (.pointer (some ⟨b, o + k, none⟩)) (fun w9 hSw => ?_) hHeld ?_
      · go_simp
      simp only [sm]
      refine tk 12 (.slice va p.2.length vc) (fun w9 hSw => ?_) hHeld ?_
      · have hc := hSw
        go_simp
      simp only [sm]
      have HD : D2 W w4.drew bd br S R 1073741824 A A := H4.out.below ⟨rfl, rfl, rfl, Nat.le_refl _, fun _ _ => rfl⟩
      generalize w4.drew = wa at hHeld HD ⊢
      refine rd 6 (fun K hK => ?_)
      go_simp
      refine Calls.mono (d2_app1 HD s HBV.out.2.2.1 va vc p.2 (HBV.out.1.keep (fun b hb => HD.fr.block b (HBV.out.1.lt b hb))) (fun b hb => (HD.off b (HBV.out.1.lt b hb)).1) HBV.out.2.1 (by have := HAK.out.2.2; omega)) ?_
      rintro e wb ⟨S', rfl, HD1, _⟩
      have hSb : wb.cell? ⟨b, o + k, none⟩ = some (.slice va p.2.length vc) := (World.cell?_of_block (a := ⟨b, o + k, none⟩) (HD1.fr.block b (cell_lt HBV.out.2.2.2))).trans HBV.out.2.2.2
      clear HD hHeld
      obtain ⟨c, hc⟩ : ∃ c, (dApp A s p.2).1 = c := ⟨_, rfl⟩
      rw [hc]
      go_wp2_with fail
      refine hK.out _ _ hSb (fun hHeld => ?_)
      clear hK K
      try simp only [sm]
      refine rd 13 (fun K hK => ?_)
      go_simp
      refine Calls.mono (d2_app2 HD1 s HBV.out.2.2.1 va vc p.2 (HBV.out.1.keep (fun b hb => HD1.fr.block b (HBV.out.1.lt b hb))) (fun b hb => (HD1.off b (HBV.out.1.lt b hb)).2) HBV.out.2.1 (by have := HAK.out.2.2; omega) rfl) ?_
      rintro e wc ⟨R', rfl, HD2, _⟩
      have hSc : wc.cell? ⟨b, o + k, none⟩ = some (.slice va p.2.length vc) := (World.cell?_of_block (a := ⟨b, o + k, none⟩) (HD2.fr.block b (cell_lt HBV.out.2.2.2))).trans HBV.out.2.2.2
      clear HD1 hHeld hSb
      rw [hc]
      go_wp2_with fail
      refine hK.out _ _ hSc (fun hHeld => ?_)
      clear hK K
      try simp only [sm]
      refine tk 14 (.bool false) (fun w9 hSw => ?_) hHeld ?_
      · go_simp
      simp only [sm]
      refine wpAnyH_done (by kernel_rfl) ?_ _
      have H9 : Hid (D2 W wc bd br S' R' 1073741824 (dApp A s p.2).2 (dApp A s p.2).2) := HD2
      clear HD2 hHeld hSc hc hcw
      go_wp2
      go_roundw
      case rel => exact ⟨k + 1, S', R', _, by omega, by omega, by go_num, H9.out, HAK.out.1.next _ 0 _, HAK.out.2.1.dApp _ _, by have h1 := HAK.out.2.2; have h2 := (dDo_steps A s (eApp A.l A.room s p.2) (lApp A.l A.room s p.2)).2; have h3 : (dApp A s p.2).2.steps ≤ A.steps + 1 := h2; omega⟩
      case measure => simp [intOf]; omega
    · have hcond : (decide ((k : Int) < ks.length) && decide ((k : Int) < rs.length)) = false := by simp; omega
      by_cases hq1 : k < ks.length
      · have hd1 : decide ((k : Int) < (ks.length : Int)) = true := by simpa using hq1
        have hd1' : (k : Int) < (ks.length : Int) := by omega
        have hd2 : decide ((k : Int) < (rs.length : Int)) = false := by simp; omega
        have hd3 : ¬ k < rs.length := by omega
        have hd4 : decide (k < rs.length) = false := by simp; omega
        clear hkk
        go_wp2_with (first
          | (go_at_call 45
             go_loud (refine Calls.mono (d2_app1 (D2.below HD0.out (by go_grown)) otherB (by decide) (some ⟨wr.heap.size, 0, none⟩) 1 [120] (bv_x wr _) (fun b hb => (by have e : some wr.heap.size = some b := hb; injection e with e; rw [← e]; exact HD0.out.disk.fresh _ (Nat.le_refl _))) (by decide) (by have := HAK.out.2.2; omega)) ?_)
             rintro e w4 ⟨S4, rfl, hd4, _⟩
             have H4 : Hid (D2 W w4 bd br S4 R 1073741824 (dApp A otherB [120]).2 A) := hd4
             clear hd4)
          | (go_at_call 46
             refine Calls.mono (d2_app2 (D2.below H4.out (by go_grown)) otherB (by decide) (some ⟨w4.heap.size, 0, none⟩) 1 [120] (bv_x w4 _) (fun b hb => (by have e : some w4.heap.size = some b := hb; injection e with e; rw [← e]; exact H4.out.ref.fresh _ (Nat.le_refl _))) (by decide) (by have := HAK.out.2.2; omega) rfl) ?_
             rintro e w5 ⟨R5, rfl, hd5, _⟩
             have H5 : Hid (D2 W w5 bd br S4 R5 1073741824 (dApp A otherB [120]).2 (dApp A otherB [120]).2) := hd5
             clear hd5))
        have HA5 : Hid (Up (dApp A otherB [120]).2 ∧ NmB (dApp A otherB [120]).2.l ∧ (dApp A otherB [120]).2.steps < 4611686018427387800) := ⟨HAK.out.1.next _ 0 _, HAK.out.2.1.dApp _ _, by have h1 := HAK.out.2.2; have h2 : (dApp A otherB [120]).2.steps ≤ A.steps + 1 := (dDo_steps A otherB (eApp A.l A.room otherB [120]) (lApp A.l A.room otherB [120])).2; omega⟩
        obtain ⟨A5, hA5⟩ : ∃ A5, (dApp A otherB [120]).2 = A5 := ⟨_, rfl⟩
        rw [hA5] at H5 HA5
        clear hA5
        refine Calls.mono (d2_open1 H5.out HA5.out.1.dn HA5.out.2.2 HA5.out.2.1 10 (by omega)) ?_
        rintro e w6 ⟨c, bl, S6, L6, A6, rfl, hd6, hl6, hn6, hr6, ho6⟩
        have H6 : Hid (D2 W w6 bd br S6 R5 1073741824 A6 A5 ∧ LogIs w6 bl L6 ∧ (c = 0 → LN L6) ∧ (∀ b, R5.own b ≠ 0 → L6.own b = 0) ∧ OpX A5 ⟨[], [], 0, false, 10⟩ (srtI (numsOf (nmS A5.l))) c A6 (absL L6)) := ⟨hd6, hl6, hn6, hr6, ho6⟩
        clear hd6 hl6 hn6 hr6 ho6
        obtain ⟨v1, hv1⟩ : ∃ v1, (if c = 0 then Value.pointer (some ⟨bl, 0, none⟩) else Value.pointer none) = v1 := ⟨_, rfl⟩
        rw [hv1]
        have HV1 : Hid _ := hv1
        clear hv1
        go_wp2_with fail
        refine Calls.mono (d2_open2 H6.out.1 H6.out.2.1 H6.out.2.2.2.1 HA5.out.1.dn HA5.out.2.2 HA5.out.2.1 10 (by omega)) ?_
        rintro e w7 ⟨c', bq, R7, Q7, B7, rfl, hd7, hl7, hq7, ho7, hf7⟩
        obtain ⟨ec, eA, eP⟩ := opx_one _ H6.out.2.2.2.2 ho7
        subst ec
        subst eA
        have hu7 : Up A6 := opx_up _ H6.out.2.2.2.2 HA5.out.1
        have H7 : Hid (D2 W w7 bd br S6 R7 1073741824 A6 A6 ∧ LogIs w7 bl L6 ∧ QIs w7 bq Q7 ∧ (c = 0 → absL L6 = absG Q7) ∧ (c = 0 → Q7.frm = (absG Q7).fst) ∧ Up A6) := ⟨hd7, hl7, hq7, eP, hf7, hu7⟩
        clear hd7 hl7 hq7 eP hf7 ho7 hu7
        have HNM : Hid ((nmS A6.l).length ≤ 1000) := (by
          show (nmS A6.l).length ≤ 1000
          have h1 := H7.out.1.gb.wf.len
          rw [show absP S6 = A6.l from congrArg DA.l H7.out.1.a] at h1
          unfold nmS
          rw [List.length_map]
          omega)
        by_cases hc0 : c = 0
        · subst hc0
          have hv := HV1.out
          rw [if_pos rfl] at hv
          subst hv
          rw [if_pos rfl]
          have hP7 := H7.out.2.2.2.1 rfl
          have hS1 : Q7.rs.map (·.2) = L6.rs.map (·.2) := (congrArg PL.rs hP7).symm
          have hS2 : Q7.frm = Proofs.YtoplejbmgpgkhaaGreatDoor.fst L6 := (H7.out.2.2.2.2.1 rfl).trans (congrArg PL.fst hP7).symm
          have hS3 : ∀ p ∈ L6.rs, p.2.length ≤ 65536 := fun p hp => opx_small _ H6.out.2.2.2.2 rfl (fun r hr => by cases hr) p.2 (List.mem_map.2 ⟨p, hp, rfl⟩)
          have hS4 : LN L6 := H6.out.2.2.1 rfl
          have HSM : Hid (Q7.rs.map (·.2) = L6.rs.map (·.2) ∧ Q7.frm = Proofs.YtoplejbmgpgkhaaGreatDoor.fst L6 ∧ (∀ p ∈ L6.rs, p.2.length ≤ 65536) ∧ LN L6) := ⟨hS1, hS2, hS3, hS4⟩
          clear hP7 hS1 hS2 hS3 hS4
          go_wp2_with (first
            | (go_at_call 33
               refine Calls.mono (dk_list (D2.dk H7.out.1) H7.out.2.2.2.2.2.dn) ?_
               rintro e w8 ⟨v8, rfl, hv8, hb8⟩
               have H8 : Hid (D2 W w8 bd br S6 R7 1073741824 A6 A6 ∧ LogIs w8 bl L6 ∧ QIs w8 bq Q7 ∧ StrV w8 v8 (nmS A6.l)) := ⟨D2.below H7.out.1 hb8, H7.out.2.1.below hb8, H7.out.2.2.1.below hb8, hv8⟩
               clear hv8 hb8)
            | (go_at_call 34
               refine Calls.mono (d2_list H8.out.1 H7.out.2.2.2.2.2.dn) ?_
               rintro e w9 ⟨v9, rfl, hv9, hb9⟩
               have H9 : Hid (D2 W w9 bd br S6 R7 1073741824 A6 A6 ∧ LogIs w9 bl L6 ∧ QIs w9 bq Q7 ∧ StrV w9 v8 (nmS A6.l) ∧ StrV w9 v9 (nmS A6.l)) := ⟨D2.below H8.out.1 hb9, H8.out.2.1.below hb9, H8.out.2.2.1.below hb9, H8.out.2.2.2.below hb9, hv9⟩
               clear hv9 hb9)
            | (go_at_call 32
               refine Calls.mono (names_s H9.out.2.2.2.1 H9.out.2.2.2.2 HNM.out) ?_
               rintro e wa ⟨rfl, hba⟩
               have HA : Hid (D2 W wa bd br S6 R7 1073741824 A6 A6 ∧ LogIs wa bl L6 ∧ QIs wa bq Q7) := ⟨D2.below H9.out.1 hba, H9.out.2.1.below hba, H9.out.2.2.1.below hba⟩
               clear hba)
            | (go_at_call 11
               refine Calls.mono (alive_any (D2.vars HA.out.1)) ?_
               rintro e wb ⟨rfl, hbb⟩
               have HB : Hid (D2 W wb bd br S6 R7 1073741824 A6 A6 ∧ LogIs wb bl L6 ∧ QIs wb bq Q7) := ⟨D2.below HA.out.1 hbb, HA.out.2.1.below hbb, HA.out.2.2.below hbb⟩
               clear hbb)
            | (go_at_call 35
               refine Calls.mono (same_q HB.out.2.1 HSM.out.2.2.2 HB.out.2.2 HSM.out.1 HSM.out.2.1 HSM.out.2.2.1) ?_
               rintro e wc ⟨rfl, hbc⟩
               have HC : Hid (Below W.heap.size W wc) := HB.out.1.fr.trans (hbc.mono HB.out.1.fr.size)
               clear hbc))
          go_returns
          exact ⟨rfl, HC.out⟩
        · have hv := HV1.out
          rw [if_neg hc0] at hv
          subst hv
          rw [if_neg hc0]
          clear hc0
          go_wp2_with (first
            | (go_at_call 33
               refine Calls.mono (dk_list (D2.dk H7.out.1) H7.out.2.2.2.2.2.dn) ?_
               rintro e w8 ⟨v8, rfl, hv8, hb8⟩
               have H8 : Hid (D2 W w8 bd br S6 R7 1073741824 A6 A6 ∧ StrV w8 v8 (nmS A6.l)) := ⟨D2.below H7.out.1 hb8, hv8⟩
               clear hv8 hb8)
            | (go_at_call 34
               refine Calls.mono (d2_list H8.out.1 H7.out.2.2.2.2.2.dn) ?_
               rintro e w9 ⟨v9, rfl, hv9, hb9⟩
               have H9 : Hid (D2 W w9 bd br S6 R7 1073741824 A6 A6 ∧ StrV w9 v8 (nmS A6.l) ∧ StrV w9 v9 (nmS A6.l)) := ⟨D2.below H8.out.1 hb9, H8.out.2.below hb9, hv9⟩
               clear hv9 hb9)
            | (go_at_call 32
               refine Calls.mono (names_s H9.out.2.1 H9.out.2.2 HNM.out) ?_
               rintro e wa ⟨rfl, hba⟩
               have HA : Hid (D2 W wa bd br S6 R7 1073741824 A6 A6) := D2.below H9.out.1 hba
               clear hba)
            | (go_at_call 11
               refine Calls.mono (alive_any (D2.vars HA.out)) ?_
               rintro e wb ⟨rfl, hbb⟩
               have HB : Hid (D2 W wb bd br S6 R7 1073741824 A6 A6) := D2.below HA.out hbb
               clear hbb))
          go_returns
          exact ⟨rfl, HB.out.fr⟩
      · have hd1 : decide ((k : Int) < (ks.length : Int)) = false := by simpa using hq1
        have hd4 : decide (k < ks.length) = false := by simpa using hq1
        clear hkk
        go_wp2_with (first
          | (go_at_call 45
             go_loud (refine Calls.mono (d2_app1 (D2.below HD0.out (by go_grown)) otherB (by decide) (some ⟨wr.heap.size, 0, none⟩) 1 [120] (bv_x wr _) (fun b hb => (by have e : some wr.heap.size = some b := hb; injection e with e; rw [← e]; exact HD0.out.disk.fresh _ (Nat.le_refl _))) (by decide) (by have := HAK.out.2.2; omega)) ?_)
             rintro e w4 ⟨S4, rfl, hd4, _⟩
             have H4 : Hid (D2 W w4 bd br S4 R 1073741824 (dApp A otherB [120]).2 A) := hd4
             clear hd4)
          | (go_at_call 46
             refine Calls.mono (d2_app2 (D2.below H4.out (by go_grown)) otherB (by decide) (some ⟨w4.heap.size, 0, none⟩) 1 [120] (bv_x w4 _) (fun b hb => (by have e : some w4.heap.size = some b := hb; injection e with e; rw [← e]; exact H4.out.ref.fresh _ (Nat.le_refl _))) (by decide) (by have := HAK.out.2.2; omega) rfl) ?_
             rintro e w5 ⟨R5, rfl, hd5, _⟩
             have H5 : Hid (D2 W w5 bd br S4 R5 1073741824 (dApp A otherB [120]).2 (dApp A otherB [120]).2) := hd5
             clear hd5))
        have HA5 : Hid (Up (dApp A otherB [120]).2 ∧ NmB (dApp A otherB [120]).2.l ∧ (dApp A otherB [120]).2.steps < 4611686018427387800) := ⟨HAK.out.1.next _ 0 _, HAK.out.2.1.dApp _ _, by have h1 := HAK.out.2.2; have h2 : (dApp A otherB [120]).2.steps ≤ A.steps + 1 := (dDo_steps A otherB (eApp A.l A.room otherB [120]) (lApp A.l A.room otherB [120])).2; omega⟩
        obtain ⟨A5, hA5⟩ : ∃ A5, (dApp A otherB [120]).2 = A5 := ⟨_, rfl⟩
        rw [hA5] at H5 HA5
        clear hA5
        refine Calls.mono (d2_open1 H5.out HA5.out.1.dn HA5.out.2.2 HA5.out.2.1 10 (by omega)) ?_
        rintro e w6 ⟨c, bl, S6, L6, A6, rfl, hd6, hl6, hn6, hr6, ho6⟩
        have H6 : Hid (D2 W w6 bd br S6 R5 1073741824 A6 A5 ∧ LogIs w6 bl L6 ∧ (c = 0 → LN L6) ∧ (∀ b, R5.own b ≠ 0 → L6.own b = 0) ∧ OpX A5 ⟨[], [], 0, false, 10⟩ (srtI (numsOf (nmS A5.l))) c A6 (absL L6)) := ⟨hd6, hl6, hn6, hr6, ho6⟩
        clear hd6 hl6 hn6 hr6 ho6
        obtain ⟨v1, hv1⟩ : ∃ v1, (if c = 0 then Value.pointer (some ⟨bl, 0, none⟩) else Value.pointer none) = v1 := ⟨_, rfl⟩
        rw [hv1]
        have HV1 : Hid _ := hv1
        clear hv1
        go_wp2_with fail
        refine Calls.mono (d2_open2 H6.out.1 H6.out.2.1 H6.out.2.2.2.1 HA5.out.1.dn HA5.out.2.2 HA5.out.2.1 10 (by omega)) ?_
        rintro e w7 ⟨c', bq, R7, Q7, B7, rfl, hd7, hl7, hq7, ho7, hf7⟩
        obtain ⟨ec, eA, eP⟩ := opx_one _ H6.out.2.2.2.2 ho7
        subst ec
        subst eA
        have hu7 : Up A6 := opx_up _ H6.out.2.2.2.2 HA5.out.1
        have H7 : Hid (D2 W w7 bd br S6 R7 1073741824 A6 A6 ∧ LogIs w7 bl L6 ∧ QIs w7 bq Q7 ∧ (c = 0 → absL L6 = absG Q7) ∧ (c = 0 → Q7.frm = (absG Q7).fst) ∧ Up A6) := ⟨hd7, hl7, hq7, eP, hf7, hu7⟩
        clear hd7 hl7 hq7 eP hf7 ho7 hu7
        have HNM : Hid ((nmS A6.l).length ≤ 1000) := (by
          show (nmS A6.l).length ≤ 1000
          have h1 := H7.out.1.gb.wf.len
          rw [show absP S6 = A6.l from congrArg DA.l H7.out.1.a] at h1
          unfold nmS
          rw [List.length_map]
          omega)
        by_cases hc0 : c = 0
        · subst hc0
          have hv := HV1.out
          rw [if_pos rfl] at hv
          subst hv
          rw [if_pos rfl]
          have hP7 := H7.out.2.2.2.1 rfl
          have hS1 : Q7.rs.map (·.2) = L6.rs.map (·.2) := (congrArg PL.rs hP7).symm
          have hS2 : Q7.frm = Proofs.YtoplejbmgpgkhaaGreatDoor.fst L6 := (H7.out.2.2.2.2.1 rfl).trans (congrArg PL.fst hP7).symm
          have hS3 : ∀ p ∈ L6.rs, p.2.length ≤ 65536 := fun p hp => opx_small _ H6.out.2.2.2.2 rfl (fun r hr => by cases hr) p.2 (List.mem_map.2 ⟨p, hp, rfl⟩)
          have hS4 : LN L6 := H6.out.2.2.1 rfl
          have HSM : Hid (Q7.rs.map (·.2) = L6.rs.map (·.2) ∧ Q7.frm = Proofs.YtoplejbmgpgkhaaGreatDoor.fst L6 ∧ (∀ p ∈ L6.rs, p.2.length ≤ 65536) ∧ LN L6) := ⟨hS1, hS2, hS3, hS4⟩
          clear hP7 hS1 hS2 hS3 hS4
          go_wp2_with (first
            | (go_at_call 33
               refine Calls.mono (dk_list (D2.dk H7.out.1) H7.out.2.2.2.2.2.dn) ?_
               rintro e w8 ⟨v8, rfl, hv8, hb8⟩
               have H8 : Hid (D2 W w8 bd br S6 R7 1073741824 A6 A6 ∧ LogIs w8 bl L6 ∧ QIs w8 bq Q7 ∧ StrV w8 v8 (nmS A6.l)) := ⟨D2.below H7.out.1 hb8, H7.out.2.1.below hb8, H7.out.2.2.1.below hb8, hv8⟩
               clear hv8 hb8)
            | (go_at_call 34
               refine Calls.mono (d2_list H8.out.1 H7.out.2.2.2.2.2.dn) ?_
               rintro e w9 ⟨v9, rfl, hv9, hb9⟩
               have H9 : Hid (D2 W w9 bd br S6 R7 1073741824 A6 A6 ∧ LogIs w9 bl L6 ∧ QIs w9 bq Q7 ∧ StrV w9 v8 (nmS A6.l) ∧ StrV w9 v9 (nmS A6.l)) := ⟨D2.below H8.out.1 hb9, H8.out.2.1.below hb9, H8.out.2.2.1.below hb9, H8.out.2.2.2.below hb9, hv9⟩
               clear hv9 hb9)
            | (go_at_call 32
               refine Calls.mono (names_s H9.out.2.2.2.1 H9.out.2.2.2.2 HNM.out) ?_
               rintro e wa ⟨rfl, hba⟩
               have HA : Hid (D2 W wa bd br S6 R7 1073741824 A6 A6 ∧ LogIs wa bl L6 ∧ QIs wa bq Q7) := ⟨D2.below H9.out.1 hba, H9.out.2.1.below hba, H9.out.2.2.1.below hba⟩
               clear hba)
            | (go_at_call 11
               refine Calls.mono (alive_any (D2.vars HA.out.1)) ?_
               rintro e wb ⟨rfl, hbb⟩
               have HB : Hid (D2 W wb bd br S6 R7 1073741824 A6 A6 ∧ LogIs wb bl L6 ∧ QIs wb bq Q7) := ⟨D2.below HA.out.1 hbb, HA.out.2.1.below hbb, HA.out.2.2.below hbb⟩
               clear hbb)
            | (go_at_call 35
               refine Calls.mono (same_q HB.out.2.1 HSM.out.2.2.2 HB.out.2.2 HSM.out.1 HSM.out.2.1 HSM.out.2.2.1) ?_
               rintro e wc ⟨rfl, hbc⟩
               have HC : Hid (Below W.heap.size W wc) := HB.out.1.fr.trans (hbc.mono HB.out.1.fr.size)
               clear hbc))
          go_returns
          exact ⟨rfl, HC.out⟩
        · have hv := HV1.out
          rw [if_neg hc0] at hv
          subst hv
          rw [if_neg hc0]
          clear hc0
          go_wp2_with (first
            | (go_at_call 33
               refine Calls.mono (dk_list (D2.dk H7.out.1) H7.out.2.2.2.2.2.dn) ?_
               rintro e w8 ⟨v8, rfl, hv8, hb8⟩
               have H8 : Hid (D2 W w8 bd br S6 R7 1073741824 A6 A6 ∧ StrV w8 v8 (nmS A6.l)) := ⟨D2.below H7.out.1 hb8, hv8⟩
               clear hv8 hb8)
            | (go_at_call 34
               refine Calls.mono (d2_list H8.out.1 H7.out.2.2.2.2.2.dn) ?_
               rintro e w9 ⟨v9, rfl, hv9, hb9⟩
               have H9 : Hid (D2 W w9 bd br S6 R7 1073741824 A6 A6 ∧ StrV w9 v8 (nmS A6.l) ∧ StrV w9 v9 (nmS A6.l)) := ⟨D2.below H8.out.1 hb9, H8.out.2.below hb9, hv9⟩
               clear hv9 hb9)
            | (go_at_call 32
               refine Calls.mono (names_s H9.out.2.1 H9.out.2.2 HNM.out) ?_
               rintro e wa ⟨rfl, hba⟩
               have HA : Hid (D2 W wa bd br S6 R7 1073741824 A6 A6) := D2.below H9.out.1 hba
               clear hba)
            | (go_at_call 11
               refine Calls.mono (alive_any (D2.vars HA.out)) ?_
               rintro e wb ⟨rfl, hbb⟩
               have HB : Hid (D2 W wb bd br S6 R7 1073741824 A6 A6) := D2.below HA.out hbb
               clear hbb))
          go_returns
          exact ⟨rfl, HB.out.fr⟩
end Go.Proofs.YtoplejbmgpgkhaaGreatDoor
namespace Go.Proofs.YtoplejbmgpgkhaaGreatDoor
open Go.ChangeShapes Go.WideShapes Go.ChangeAt Go.WideElems Go.RowKit
theorem own : ownKnob Tryz.prog.godebug = none := by kernel_rfl
theorem laidOut : laidOutB Tryz.prog = true := by kernel_rfl
abbrev laidP : List (String × DataW Unit) := [("math/bits.deBruijn32tab", Rows.laid_math_bits_deBruijn32tab), ("math/bits.deBruijn64tab", Rows.laid_math_bits_deBruijn64tab), ("internal/strconv.uint64pow10", Rows.laid_internal_strconv_uint64pow10), ("strconv.ErrRange", Rows.laid_strconv_ErrRange), ("strconv.ErrSyntax", Rows.laid_strconv_ErrSyntax), ("conclave/wal.halfSums", Rows.laid_conclave_wal_halfSums)]
set_option maxRecDepth 100000 in
theorem door_met (os : Os) (args : Array Value) : laidMetH Tryz.prog laidP ((World.doorLaid Tryz.prog 400 os).forCall (fun _ _ => 0) ⟨#[], args, []⟩).memory :=
  laidMetH_of_parts3 (fuel := 8) (laidMet_of_run' 8 (by kernel_rfl) (by kernel_rfl)) (by kernel_rfl) (by kernel_rfl)
theorem star : "*" ++ "errors.errorString" = "*errors.errorString" := by decide
theorem row191 (u : TypeId) (h : Tryz.prog.typeName? 3 u = some "*errors.errorString") : u = 191 :=
  typeName_ptr_named (nm := "errors.errorString") (by rw [star]; kernel_rfl) (by kernel_rfl) (by decide) u (by rw [star]; exact h)
/-- What the condition on the variables gives the walks. -/
theorem vars_of_laid {W : World} (h : laidMetH Tryz.prog laidP W) : Vars W := by
  rw [MakeChecks.laidMetH_plain _ _ _ (by kernel_rfl)] at h
  have h2 := h.tail.tail
  have ht := Lib.tabIs_of_head (k := .u64) (zs := Lib.pow10Tab) (g := 3) (t := 187) (e := 160) (n := 20) (by kernel_rfl) (by kernel_rfl) Tryz.underlying187 Tryz.underlying160 (by kernel_rfl) (by kernel_rfl) h2
  obtain ⟨a0, sa, hva, _, _, _⟩ := laid_sentinel h2.tail gRan (by kernel_rfl) (ti := 122) Tryz.underlying122 row191 Tryz.underlying191 Tryz.underlying193 rfl rfl Tryz.underlying9 (by kernel_rfl) (by kernel_rfl)
  obtain ⟨b0, sb, hvb, _, _, _⟩ := laid_sentinel h2.tail.tail gSyn (by kernel_rfl) (ti := 122) Tryz.underlying122 row191 Tryz.underlying191 Tryz.underlying193 rfl rfl Tryz.underlying9 (by kernel_rfl) (by kernel_rfl)
  have hh := Lib.tabIs_of_head (k := .u32) (zs := (List.range 16).map fun i => J (tab i)) (g := 0) (t := 114) (e := 66) (n := 16) (by kernel_rfl) (by kernel_rfl) Tryz.underlying114 Tryz.underlying66 (by kernel_rfl) (by kernel_rfl) h2.tail.tail.tail
  refine ⟨fun i hi => ?_, ht, ⟨_, _, hvb⟩, ⟨_, _, hva⟩⟩
  rw [World.var?_cell (P := Tryz.prog) (n := "conclave/wal.halfSums") (by kernel_rfl) hh i]
  rw [List.getElem?_toArray, List.getElem?_map, List.getElem?_map, List.getElem?_range hi]
  rfl
end Go.Proofs.YtoplejbmgpgkhaaGreatDoor
