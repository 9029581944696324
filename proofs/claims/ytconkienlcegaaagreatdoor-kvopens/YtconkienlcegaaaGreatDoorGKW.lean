/- KU, KV, KW -/
import Derived.Test.YtconkienlcegaaaGreatDoorGDD
import Derived.Test.YtconkienlcegaaaGreatDoorGKT
namespace Go.Proofs.YtconkienlcegaaaGreatDoor
open Go.RowKit Go.Maps Go.Joins Go.Shelf
set_option linter.unusedSimpArgs false
set_option linter.unusedVariables false
def valK (m : List (List UInt8 × Value × List Int)) (k : List UInt8) : Value := match lookG m k with | some p => p.1 | none => .slice none 0 0
def bytK (m : List (List UInt8 × Value × List Int)) (k : List UInt8) : List Int := match lookG m k with | some p => p.2 | none => []
theorem zero23 (w : World) : (zeroValue 23).run Tryz.prog w = .ok (.slice none 0 0) w := by kernel_rfl
theorem klook {w : World} {bm n : Nat} {m : List (List UInt8 × Value × List Int)} (h : w.ownsMap Tryz.prog 9 Rv bm n (toDk m)) {key : List Int} (hl : key.length ≤ 140737488355328 ∧ ∀ p ∈ m, okS p.2.1 = true) :
 (Instr.lookup 94 (.map (some bm)) (.string (strOfNums key)) true).run Tryz.prog w = .ok (.tuple #[valK m (kS key), .bool (lookG m (kS key)).isSome]) w := by
 obtain ⟨v, ps, hrun, hv⟩ := h.look_ok law9 Tryz.underlying94 (zero23 _) (zd := .nil) (zp := []) (show Rv (.slice none 0 0) = some (.nil, []) from by simp [Rv, okS, sv]) (kS_key hl.1); rw [hrun, has_toDk]; rw [at_toDk] at hv; obtain ⟨h1, h2⟩ := Rv_inv hv
 replace h2 : (match lookG m (kS key) with | some g => sv g.1 | none => .nil) = sv v := congrArg Prod.fst h2
 have e : v = valK m (kS key) := by
  unfold valK; cases hq : lookG m (kS key) with
  | none =>
    rw [hq] at h2; exact sv_inj h1 rfl h2.symm
  | some p =>
    rw [hq] at h2; exact sv_inj h1 (hl.2 _ (look_mem' hq)) h2.symm
 rw [e]
theorem valK_ok {w : World} {D : Nat → Prop} {b bl bm : Nat} {br : Bool} {m : List (List UInt8 × Value × List Int)} (h : KS w D b bl br bm m) (k : List UInt8) : BytesV w (valK m k) (bytK m k) ∧ (bytK m k).length ≤ 140737488355328 := by
 unfold valK bytK; cases hq : lookG m k with
 | none => exact ⟨Or.inl ⟨rfl, rfl⟩, by simp⟩
 | some p => exact ⟨(h.vals _ (look_mem' hq)).2.is, (h.vals _ (look_mem' hq)).2.len⟩
set_option maxHeartbeats 4000000 in
theorem kget_any {w : World} {D : Nat → Prop} {b bl bm : Nat} {br : Bool} {m : List (List UInt8 × Value × List Int)} (h : KS w D b bl br bm m) {ak : Option Addr} {ck : Nat} {key : List Int} (hk : BytesV w (.slice ak key.length ck) key) (hkl : key.length ≤ 140737488355328) :
 Calls Tryz.prog 24 #[.pointer (some ⟨b, 0, none⟩), .slice ak key.length ck] w fun e w' => ∃ v, e = .returned (.tuple #[v, .bool (lookG m (kS key)).isSome]) ∧ w'.ownsRow w.heap.size 5 1 v (bytK m (kS key)).length (vB (bytK m (kS key))) ∧ Below w.heap.size w w' := by
 obtain ⟨hbv, hbl⟩ := valK_ok h (kS key); obtain ⟨ax, cx, hvx⟩ := hbv.form'; obtain ⟨nx, hnx⟩ : ∃ nx, nx = (bytK m (kS key)).length := ⟨_, rfl⟩
 obtain ⟨nk, hnk⟩ : ∃ nk, nk = key.length := ⟨_, rfl⟩
 obtain ⟨hs, hhs⟩ : ∃ hs, (lookG m (kS key)).isSome = hs := ⟨_, rfl⟩
 rw [← hnx] at hvx; have HVX : Hid (valK m (kS key) = .slice ax nx cx ∧ (lookG m (kS key)).isSome = hs) := ⟨hvx, hhs⟩
 have HKL : Hid (key.length ≤ 140737488355328 ∧ ∀ p ∈ m, okS p.2.1 = true) := ⟨hkl, fun p hp => (h.vals p hp).1⟩
 have HS : Hid ((fun w' => w'.heap[b]? = some (.cells #[.pointer (some ⟨bl, 0, none⟩), .map (some bm), .bool br] 96) ∧ w'.ownsMap Tryz.prog 9 Rv bm m.length (toDk m) ∧ BytesV w' (.slice ak nk ck) key) w.drew) := ⟨h.st, h.mp, by rw [hnk]; exact hk⟩
 have HC : Hid (BytesV w.drew (.slice ax nx cx) (bytK m (kS key)) ∧ (bytK m (kS key)).length ≤ 140737488355328) := ⟨by rw [← hvx]; exact hbv.keep fun _ _ => rfl, hbl⟩
 rw [hhs, ← hnk]; clear h hk hkl hbv hbl hvx hnx hnk hhs; go_enter Tryz.func24, Tryz.ntmps24; go_wp2_with fail; refine wp_region_held_drew (S := fun w' => w'.heap[b]? = some (.cells #[.pointer (some ⟨bl, 0, none⟩), .map (some bm), .bool br] 96) ∧ w'.ownsMap Tryz.prog 9 Rv bm m.length (toDk m) ∧ BytesV w' (.slice ak nk ck) key) (by kernel_rfl) HS.out (fun hHeld => ?_); refine tk 0 (.pointer (some ⟨b, 0, none⟩)) (fun w9 hSw => ?_) hHeld ?_
 · go_simp
 simp only [sm]; refine tk 1 (.pointer (some ⟨b, 0, none⟩)) (fun w9 hSw => ?_) hHeld ?_
 · go_simp
 simp only [sm]; refine tk 2 (.pointer (some ⟨b, 1, none⟩)) (fun w9 hSw => ?_) hHeld ?_
 · go_simp
 simp only [sm]; refine tk 3 (.map (some bm)) (fun w9 hSw => ?_) hHeld ?_
 · have y1 : w9.cell? ⟨b, 1, none⟩ = some (.map (some bm)) := (cell_of_block hSw.1 1).trans rfl
   go_simp
 simp only [sm]; refine tk 4 (.slice ak nk ck) (fun w9 hSw => ?_) hHeld ?_
 · go_simp
 simp only [sm]; refine tk 5 (.string (strOfNums key)) (fun w9 hSw => ?_) hHeld ?_
 · have y9 := kconv_b hSw.2.2
   go_simp
 simp only [sm]; refine tk 6 (.tuple #[.slice ax nx cx, .bool hs]) (fun w9 hSw => ?_) hHeld ?_
 · have y9 := klook hSw.2.1 HKL.out (key := key)
   rw [HVX.out.1, HVX.out.2] at y9; go_simp
 simp only [sm]; refine tk 7 (.tuple #[.slice ax nx cx, .bool hs]) (fun w9 hSw => ?_) hHeld ?_
 · go_simp
 simp only [sm]; refine tk 8 (.slice ax nx cx) (fun w9 hSw => ?_) hHeld ?_
 · go_simp
 simp only [sm]; refine tk 9 (.bool hs) (fun w9 hSw => ?_) hHeld ?_
 · go_simp
 simp only [sm]; refine tk 10 (.slice ax nx cx) (fun w9 hSw => ?_) hHeld ?_
 · go_simp
 simp only [sm]; refine tk 11 (.bool hs) (fun w9 hSw => ?_) hHeld ?_
 · go_simp
 simp only [sm]; refine wpAnyH_done (by kernel_rfl) ?_ _; clear hHeld; go_wp2_with fail; refine Calls.mono (bclone_any (.slice ax nx cx) _ HC.out.1 HC.out.2) ?_; rintro e w1 ⟨v1, rfl, hrow, hb1⟩; obtain ⟨a1, c1, rfl⟩ := row_form hrow; have H1 : Hid _ := And.intro hrow hb1; clear hrow hb1; go_wp2; go_ret2; exact ⟨_, rfl, H1.out.1, ⟨H1.out.2.os, H1.out.2.tape, H1.out.2.output, H1.out.2.size, H1.out.2.block⟩⟩
set_option maxHeartbeats 4000000 in
theorem klen_any {w : World} {D : Nat → Prop} {b bl bm : Nat} {br : Bool} {m : List (List UInt8 × Value × List Int)} (h : KS w D b bl br bm m) :
 Calls Tryz.prog 27 #[.pointer (some ⟨b, 0, none⟩)] w fun e w' => e = .returned (.int .i64 m.length) ∧ w' = w := by
 have c1 : w.cell? ⟨b, 1, none⟩ = some (.map (some bm)) := (cell_of_block h.st 1).trans rfl; have HO : Hid (w.ownsMap Tryz.prog 9 Rv bm m.length (toDk m)) := h.mp; have hsz := size_toDk m; clear h; go_enter Tryz.func27, Tryz.ntmps27; go_wp2_with (first
  | (at_len
     refine wpList_len_own _ rfl _ 94 rfl 9 23 Tryz.underlying94 Rv bm m.length (toDk m) rfl HO.out ?_; rw [hsz]))
 go_returns
 exact ⟨rfl, rfl⟩
def ch1 : Ch := { key := [97], val := [98, 99], gone := false }
def rec1 : List Int := [0, 0, 1, 97, 0, 0, 0, 2, 98, 99]
theorem rec1_eq : recB [ch1] = rec1 := by decide +kernel
theorem enc1 : encK [ch1] = [0, 1, 97, 0, 0, 0, 2, 98, 99] := by decide +kernel
theorem ok1 : okL [ch1] := fun c hc => by
 obtain rfl := List.mem_singleton.1 hc; exact ⟨⟨by decide, by decide⟩, by decide, fun h => by cases h⟩
theorem kb1 : KByt (encK [ch1]) := by
 rw [enc1]; intro c hc; simp at hc; omega
def t1 := pApp A0 P0 rec1
def t2 := pSync t1.2.1 t1.2.2
def A5 : DA := ⟨bootT t2.2.1.l [], false, t2.2.1.steps, t2.2.1.armed, fun _ => 0, t2.2.1.room⟩
theorem t1_0 : t1.1 = 0 := by decide +kernel
theorem t2_0 : t2.1 = 0 := by decide +kernel
theorem okP0 : okP A0 P0 := by unfold okP; decide +kernel
theorem okP1 : okP t1.2.1 t1.2.2 := by unfold okP; decide +kernel
theorem took_rec {k : Nat} {rs : List (List Int)} (h : Took (frameB rec1) k rs) (hk : k = (frameB rec1).length ∨ (nx ((frameB rec1).drop k)).1 ≠ 0) : rs = [rec1] ∧ k = 22 := by
 have n1 : nx ((frameB rec1).drop 0) = (0, 22, rec1) := by decide +kernel
 have n2 : (frameB rec1).length = 22 := by decide +kernel
 cases h with
 | nil => rcases hk with hk | hk
          · rw [n2] at hk; cases hk
          · rw [n1] at hk; exact absurd rfl hk
 | step h1 h2 h3 =>
   cases h1 with
   | nil => rw [n1]; exact ⟨rfl, rfl⟩
   | step h4 h5 h6 =>
     cases h4 with
     | nil => rw [n1, n2] at h2; simp at h2
     | step h7 h8 h9 =>
       have h0 := (Took.step (Took.step h7 h8 h9) h5 h6).le; rw [n2] at h0; have h1 := h0.1; have h2 := h0.2; simp only [List.length_append, List.length_cons, List.length_nil] at h2; omega
theorem ad_open5 {w0 w : World} {bd : Nat} {S : DS} (h : Ad w0 w bd S A5) : Calls Tryz.prog 40 #[.pointer (some ⟨bd, 0, none⟩), .string logB, .int .i64 100] w fun e w' => ∃ bl S' L A', e = .returned (.tuple #[.pointer (some ⟨bl, 0, none⟩), .int .i64 0]) ∧ Al w0 w' bd bl S' L A' ⟨[0], [rec1], 22, false, 100⟩ ∧ True := by
 have v0 := h.v0; have hl : absP S = A5.l := congrArg DA.l h.a; have hd : S.down = false := congrArg DA.down h.a; have hs : S.steps = A5.steps := congrArg DA.steps h.a; have hs4 : A5.steps = 2 := by decide +kernel
 have hn4 : numsOf (nmS A5.l) = [0] := by decide +kernel
 have hd4 : (dRead A5 (fileB logB 0)).1 = 0 := by decide +kernel
 have hb4 : dBytes A5 (fileB logB 0) = frameB rec1 := by decide +kernel
 have hz4 : ∀ s ∈ nmS A5.l, s.size ≤ 1000 := by decide +kernel
 refine (open_one h.disk h.gb h.vars (fun b hb => h.off b (by omega)) hd (by omega) (by rw [hl]; exact hz4) 100 (by omega) (n := 0) (by rw [hl]; exact hn4)).mono ?_; rintro e w' (⟨hne, _⟩ | ⟨n, c, bl, S', L', hne, he, hdl, hof, hr⟩)
 · rw [hl, hn4] at hne
   cases hne
 · rw [hl, hn4] at hne
   obtain rfl : (0 : Int) = n := by injection hne
   unfold LdR at hr; rw [h.a, hb4] at hr; have hfr : Below w0.heap.size w0 w' := ⟨hof.os.trans h.fr.os, hof.tape.trans h.fr.tape, hof.output.trans h.fr.output, Nat.le_trans h.fr.size hof.size, fun b hb => (hof.block b (Nat.lt_of_lt_of_le hb h.fr.size) (h.off b hb)).trans (h.fr.block b hb)⟩
   have hoff : ∀ b, b < w0.heap.size → S'.role b = .none ∧ L'.own b = 0 := fun b hb => hof.off b (Nat.lt_of_lt_of_le hb h.fr.size) (h.off b hb)
   rcases hr with ⟨q, _⟩ | ⟨_, ⟨rfl, _, k, rs, ht, hk, hx, _⟩ | ⟨k, rs, ht, ⟨hL, hN⟩, hk⟩⟩
   · exact absurd hd4 q
   · obtain ⟨_, rfl⟩ := took_rec ht (Or.inr hx)
     exact absurd hk (by decide +kernel)
   · rcases hk with ⟨hk, rfl, _⟩ | ⟨hk, hx, _⟩
     · obtain ⟨rfl, rfl⟩ := took_rec ht (Or.inl hk)
       rw [if_pos rfl] at he; exact ⟨bl, S', L', _, he, ⟨hdl, rfl, hL, hN, hfr, hoff⟩, trivial⟩
     · obtain ⟨_, rfl⟩ := took_rec ht (Or.inr (by rw [hx]; decide))
       exact absurd hk (by decide +kernel)
theorem chs1 (w : World) : ChsV (((w.alloc (.cells #[.int .u8 97] 5 (1, 2))).alloc (.cells #[.int .u8 98, .int .u8 99] 5 (2, 3))).alloc (.cells #[.slice (some ⟨w.heap.size, 0, none⟩) 1 1, .slice (some ⟨w.heap.size + 1, 0, none⟩) 2 2, .bool false] 90)) (fun x => x < (((w.alloc (.cells #[.int .u8 97] 5 (1, 2))).alloc (.cells #[.int .u8 98, .int .u8 99] 5 (2, 3))).alloc (.cells #[.slice (some ⟨w.heap.size, 0, none⟩) 1 1, .slice (some ⟨w.heap.size + 1, 0, none⟩) 2 2, .bool false] 90)).heap.size) (.slice (some ⟨w.heap.size + 1 + 1, 0, none⟩) 1 1) [ch1] := by
 have hh := fun k o hk => allocs_heap [Obj.cells #[.int .u8 97] 5 (1, 2), .cells #[.int .u8 98, .int .u8 99] 5 (2, 3), .cells #[.slice (some ⟨w.heap.size, 0, none⟩) 1 1, .slice (some ⟨w.heap.size + 1, 0, none⟩) 2 2, .bool false] 90] w k o hk
 have hsz := allocs_size [Obj.cells #[.int .u8 97] 5 (1, 2), .cells #[.int .u8 98, .int .u8 99] 5 (2, 3), .cells #[.slice (some ⟨w.heap.size, 0, none⟩) 1 1, .slice (some ⟨w.heap.size + 1, 0, none⟩) 2 2, .bool false] 90] w; have e : [Obj.cells #[.int .u8 97] 5 (1, 2), .cells #[.int .u8 98, .int .u8 99] 5 (2, 3), .cells #[.slice (some ⟨w.heap.size, 0, none⟩) 1 1, .slice (some ⟨w.heap.size + 1, 0, none⟩) 2 2, .bool false] 90].foldl World.alloc w = ((w.alloc (.cells #[.int .u8 97] 5 (1, 2))).alloc (.cells #[.int .u8 98, .int .u8 99] 5 (2, 3))).alloc (.cells #[.slice (some ⟨w.heap.size, 0, none⟩) 1 1, .slice (some ⟨w.heap.size + 1, 0, none⟩) 2 2, .bool false] 90) := rfl; rw [e] at hh hsz; generalize ((w.alloc (.cells #[.int .u8 97] 5 (1, 2))).alloc (.cells #[.int .u8 98, .int .u8 99] 5 (2, 3))).alloc (.cells #[.slice (some ⟨w.heap.size, 0, none⟩) 1 1, .slice (some ⟨w.heap.size + 1, 0, none⟩) 2 2, .bool false] 90) = V at hh hsz ⊢; have h0 : V.heap[w.heap.size]? = some (.cells #[.int .u8 97] 5 (1, 2)) := hh 0 _ rfl; have h1 := hh 1 _ rfl; have h2 := hh 2 _ rfl; have hk : KBD V (fun x => x < V.heap.size) (.slice (some ⟨w.heap.size, 0, none⟩) 1 1) [97] := by
  refine ⟨Or.inr ⟨_, _, rfl, fun j u hu => ?_⟩, fun x hx => ?_, by simp⟩
  · rw [Addr.add_lit, Nat.zero_add, cell_of_block h0]
    simpa [vB] using hu
  · have h9 := dBlock_own hx
    injection h9 with h9
    rw [← h9]; exact heap_lt h0
 have hv : KBD V (fun x => x < V.heap.size) (.slice (some ⟨w.heap.size + 1, 0, none⟩) 2 2) [98, 99] := by
  refine ⟨Or.inr ⟨_, _, rfl, fun j u hu => ?_⟩, fun x hx => ?_, by simp⟩
  · rw [Addr.add_lit, Nat.zero_add, cell_of_block h1]
    simpa [vB] using hu
  · have h9 := dBlock_own hx
    injection h9 with h9
    rw [← h9]; exact heap_lt h1
 have hone : ∀ (i : Nat) (c : Ch), [ch1][i]? = some c → i = 0 ∧ c = ch1 := fun i c hc => by
  cases i with
  | zero => simp at hc; exact ⟨rfl, hc.symm⟩
  | succ i => simp at hc
 refine ChsV.mk [ch1] (some ⟨w.heap.size + 1 + 1, 0, none⟩) 1 (w.heap.size + 1 + 1) 0 (fun _ => .slice (some ⟨w.heap.size, 0, none⟩) 1 1) (fun _ => .slice (some ⟨w.heap.size + 1, 0, none⟩) 2 2) (by simp) (by omega) (by simp) (fun _ => rfl) (fun _ => heap_lt h2) ?_ ?_ ?_ ?_ ?_
 · intro i c hc
   obtain ⟨rfl, rfl⟩ := hone i c hc; exact (cell_of_block h2 0).trans rfl
 · intro i c hc
   obtain ⟨rfl, rfl⟩ := hone i c hc; exact (cell_of_block h2 1).trans rfl
 · intro i c hc
   obtain ⟨rfl, rfl⟩ := hone i c hc; exact (cell_of_block h2 2).trans rfl
 · intro i c hc
   obtain ⟨rfl, rfl⟩ := hone i c hc; exact hk
 · intro i c hc
   obtain ⟨rfl, rfl⟩ := hone i c hc; exact hv
theorem put_nil1 : doPs [] [ch1] = [(kS [97], [98, 99])] := by decide +kernel
theorem m_one {m : List (List UInt8 × Value × List Int)} (h : mk m = [(kS [97], [98, 99])]) : m.length = 1 ∧ bytK m (kS [97]) = [98, 99] ∧ (lookG m (kS [97])).isSome = true := by
 cases m with
 | nil => simp [mk, mapG] at h
 | cons p r =>
   cases r with
   | cons q t => simp [mk, mapG] at h
   | nil =>
     simp [mk, mapG] at h
     obtain ⟨h1, h2⟩ := h; refine ⟨rfl, ?_, ?_⟩
     · simp [bytK, lookG, h1, h2]
     · simp [lookG, h1]
theorem kconvA (w : World) : (convert 23 23 (.slice (some ⟨w.heap.size, 0, none⟩) 1 1)).run Tryz.prog (w.alloc (.cells #[.int .u8 97] 5)) = .ok (.slice (some ⟨w.heap.size, 0, none⟩) 1 1) (w.alloc (.cells #[.int .u8 97] 5 (1, 2))) := Lib.run_convert_bytes_const (P := Tryz.prog) w 23 5 #[.int .u8 97] 1 1 Tryz.underlying23 Tryz.underlying5
theorem kconvB (w : World) : (convert 23 23 (.slice (some ⟨w.heap.size + 1, 0, none⟩) 2 2)).run Tryz.prog ((w.alloc (.cells #[.int .u8 97] 5 (1, 2))).alloc (.cells #[.int .u8 98, .int .u8 99] 5)) = .ok (.slice (some ⟨w.heap.size + 1, 0, none⟩) 2 2) ((w.alloc (.cells #[.int .u8 97] 5 (1, 2))).alloc (.cells #[.int .u8 98, .int .u8 99] 5 (2, 3))) := run_convert_bytes_const_at (P := Tryz.prog) (w.alloc (.cells #[.int .u8 97] 5 (1, 2))) 23 5 #[.int .u8 98, .int .u8 99] 2 2 (w.heap.size + 1) (by simp) Tryz.underlying23 Tryz.underlying5
set_option maxRecDepth 100000 in
set_option maxHeartbeats 8000000 in
theorem kalive_any {w : World} (hV : Vars w) : Calls Tryz.prog 10 #[] w fun e w' => e = .returned (.bool true) ∧ Below w.heap.size w w' := by
 have hv5 : 5 ≤ w.heap.size := by have := hV.lt; omega
 have HV : Hid (Vars w ∧ 5 ≤ w.heap.size) := ⟨hV, hv5⟩
 clear hV hv5; have hcvA := kconvA; have hcvB := kconvB; have T1 : Hid True := trivial; go_enter Tryz.func10, Tryz.ntmps10; go_wp2_with (first
  | (have _ := T1
     go_at_call 8
     clear T1; refine Calls.mono (ad_new HV.out.1) ?_; rintro e w1 ⟨bd, S1, rfl, hd1⟩; have HO1 : Hid (∀ (_ : Unit), _) := fun _ => kopen_any (QA := fun A => A = A0) (ls := []) HV.out.2 ((ad_open hd1).mono fun e w' ⟨bl, L, he, hal⟩ => ⟨bl, S1, L, A0, he, hal, rfl⟩) rfl (fun l hl => by cases hl) (by simp) (fun x hx => by cases hx)
     clear hd1; have T2 : Hid True := trivial)
  | (have _ := T2
     go_at_call 11
     clear T2; refine Calls.mono (HO1.out ()) ?_; rintro e w2 ⟨bl2, b2, bm2, S2, L2, A2, m2, rfl, hk2, rfl, hm2, hl2⟩; have HK2 : Hid (AK w w2 bd bl2 b2 bm2 S2 L2 A0 P0 false m2 ∧ mk m2 = [] ∧ m2.length = 0) := ⟨hk2, hm2, by simpa using hl2⟩
     clear hk2 hm2 hl2 HO1; have T3 : Hid True := trivial)
  | (have _ := T3
     go_at_call 13
     clear T3; refine Calls.mono (put_ok (HK2.out.1.below (w' := ((w2.alloc (.cells #[.int .u8 97] 5 (1, 2))).alloc (.cells #[.int .u8 98, .int .u8 99] 5 (2, 3))).alloc (.cells #[.slice (some ⟨w2.heap.size, 0, none⟩) 1 1, .slice (some ⟨w2.heap.size + 1, 0, none⟩) 2 2, .bool false] 90)) (by go_grown)) okP0 (chs1 w2) ok1 kb1 (by rw [enc1]; decide) (by rw [HK2.out.2.2]; decide) (by have := rec1_eq; unfold recB at this; rw [this]; exact t1_0) (by have := rec1_eq; unfold recB at this; rw [this]; exact okP1) (by have := rec1_eq; unfold recB at this; rw [this]; exact t2_0)) ?_; rintro e w3 ⟨rfl, S3, L3, m3, hk3, hm3, hl3⟩; have hk3' : AK w w3 bd bl2 b2 bm2 S3 L3 t2.2.1 t2.2.2 false m3 := by
      have := rec1_eq; unfold recB at this; rw [this] at hk3; exact hk3
     have HK3 : Hid (AK w w3 bd bl2 b2 bm2 S3 L3 t2.2.1 t2.2.2 false m3) := hk3'; clear hk3 hk3' hm3 hl3; have T4 : Hid True := trivial)
  | (have _ := T4
     go_at_call 18
     clear T4; refine Calls.mono (al_boot HK3.out.al HV.out.2) ?_; rintro e w4 ⟨rfl, S4, hd4⟩; have HO4 : Hid (∀ (_ : Unit), _) := fun _ => kopen_any (QA := fun _ => True) (ls := [[ch1]]) HV.out.2 (ad_open5 hd4) (by rw [List.map_cons, rec1_eq]; rfl) (fun l hl => by obtain rfl := List.mem_singleton.1 hl; exact ⟨ok1, kb1, by rw [enc1]; decide⟩) (by simp) (fun x hx => by simp at hx; omega)
     clear hd4; have T5 : Hid True := trivial)
  | (have _ := T5
     go_at_call 11
     clear T5; refine Calls.mono (HO4.out ()) ?_; rintro e w5 ⟨bl5, b5, bm5, S5, L5, A5', m5, rfl, hk5, _, hm5, hl5⟩; have hm5' : mk m5 = [(kS [97], [98, 99])] := by rw [hm5]; exact put_nil1
     have HK5 : Hid (AK w w5 bd bl5 b5 bm5 S5 L5 A5' ⟨[0], [rec1], 22, false, 100⟩ false m5 ∧ m5.length = 1 ∧ bytK m5 (kS [97]) = [98, 99] ∧ (lookG m5 (kS [97])).isSome = true) := ⟨hk5, m_one hm5'⟩
     clear hk5 hm5 hl5 hm5' HO4; have T6 : Hid True := trivial)
  | (have _ := T6
     go_at_call 24
     clear T6; refine Calls.mono (kget_any (HK5.out.1.below (w' := w5.alloc (.cells #[.int .u8 97] 5 (1, 2))) (by go_grown)).ks (key := [97]) (Or.inr ⟨⟨w5.heap.size, 0, none⟩, 1, rfl, fun j u hu => by rw [Addr.add_lit, Nat.zero_add, cell_of_block (heap_alloc_new _ _)]; simpa [vB] using hu⟩) (by simp)) ?_; rintro e w6 ⟨v6, rfl, hrow, hb6⟩; rw [HK5.out.2.2.1] at hrow; rw [HK5.out.2.2.2]; obtain ⟨a6, c6, rfl⟩ := row_form hrow; have HK6 : Hid (AK w w6 bd bl5 b5 bm5 S5 L5 A5' ⟨[0], [rec1], 22, false, 100⟩ false m5 ∧ BytesV w6 (.slice a6 2 c6) [98, 99]) := ⟨(HK5.out.1.below (w' := w5.alloc (.cells #[.int .u8 97] 5 (1, 2))) (by go_grown)).below hb6, BytesV.of_own hrow⟩
     clear hrow hb6; have T7 : Hid True := trivial)
  | (have _ := T7
     go_at_call 31
     clear T7; refine Calls.mono (batch_any (chs1 w6)) ?_; rintro e w7 ⟨hb7, hr7⟩; have hb67 : Below w6.heap.size w6 w7 := Below.trans (by go_grown) (hb7.mono (by simp; omega)); obtain ⟨a7, c7, rfl, hrow7⟩ : ∃ a7 c7, e = .returned (.tuple #[.slice a7 9 c7, .int .i64 0]) ∧ BytesV w7 (.slice a7 9 c7) [0, 1, 97, 0, 0, 0, 2, 98, 99] := by
      rcases hr7 with ⟨⟨c, hc, hno⟩, _⟩ | ⟨_, ⟨_, v1, he, hrow⟩ | ⟨hbig, _⟩⟩
      · exact absurd (ok1 c hc).1 hno
      · rw [enc1] at hrow
        obtain ⟨a1, c1, rfl⟩ := row_form hrow; exact ⟨a1, c1, he, BytesV.of_own hrow⟩
      · rw [enc1] at hbig; simp at hbig
     have h6v : BytesV w7 (.slice a6 2 c6) [98, 99] := HK6.out.2.keep fun x hx => hb67.block x (HK6.out.2.lt x hx)
     have hcv := kconv_b h6v; have HK7 : Hid (AK w w7 bd bl5 b5 bm5 S5 L5 A5' ⟨[0], [rec1], 22, false, 100⟩ false m5 ∧ BytesV w7 (.slice a7 9 c7) [0, 1, 97, 0, 0, 0, 2, 98, 99]) := ⟨HK6.out.1.below hb67, hrow7⟩
     have hst : strOfNums [98, 99] = ⟨#[98, 99]⟩ := by decide +kernel
     rw [hst] at hcv; clear hb7 hr7 hb67 hrow7 h6v hst; have T8 : Hid True := trivial)
  | (have _ := T8
     go_at_call 27
     clear T8; refine Calls.mono (klen_any HK7.out.1.ks) ?_; rintro e w8 ⟨rfl, hw8⟩; obtain rfl := hw8.symm; rw [HK5.out.2.1]; have T9 : Hid True := trivial)
  | (have _ := T9
     go_at_call 26
     clear T9; refine Calls.mono (klsame_t (xs := [0, 1, 97, 0, 0, 0, 2, 98, 99]) (HK7.out.2.keep fun x hx => heap_alloc_old _ _ _ (HK7.out.2.lt x hx)) (Or.inr ⟨⟨w7.heap.size, 0, none⟩, 9, rfl, fun j u hu => by rw [Addr.add_lit, Nat.zero_add, cell_of_block (heap_alloc_new _ _)]; simpa [vB] using hu⟩)) ?_; rintro e w9 ⟨rfl, hw9⟩; obtain rfl := hw9.symm))
 go_returns
 exact ⟨rfl, HK7.out.1.al.fr.alloc HK7.out.1.al.fr.size _⟩
end Go.Proofs.YtconkienlcegaaaGreatDoor
