/- WL0, WL1, WJ0, WN0 -/
import Derived.RangeFuncNested
import Derived.RangeFuncBound
import Derived.RangeFuncCalls
import Derived.RangeFuncLeaves
import Derived.Shelf.Abstract
import Derived.Shelf.RegionOpen
import Derived.OwnWalkIn
import Derived.TacticsInMore
import Derived.LoopNIn
import Derived.LoopIn
import Derived.Test.YtconkienlcegaaaGreatDoorGWI
namespace Go.Proofs.YtconkienlcegaaaGreatDoor
open Go.RowKit Go.Shelf
set_option linter.unusedSimpArgs false
set_option linter.unusedVariables false
/-- How a body may be left: off its end, or by a jump. -/
def offJ (R : World → Prop) (J : Code → World → Prop) : Exit → Act → World → Prop
 | .normal, _, W => R W
 | .ret, _, W => J .ret W
 | .exit id, _, W => J (.exit id) W
 | _, _, _ => False
theorem range_leave {P : Program} {n : Nat} {g : Operand} {ps : Array Tmp} {assign body : Code} {Q : Exit → Act → World → Prop} {a : Act} {w : World} {gf : Nat} {lb : Array Value}
 (hg : a.eval g = .func (.func gf) #[] lb) (eg : ∀ args w, (callFunc gf args).run P w = .ok (.enter gf args) w)
 (h : ∀ (r : Loop) (W1 : World), r.state = .ready → r.pending = none → r.tmps = a.tmps → r.params = ps → r.assign = assign → r.body = body → W1 = (w.alloc (.deferred (some []))).alloc (.loop r) →
   CallsIn Fence.wide (n - 1) P gf (#[.func (.yield (w.heap.size + 1)) #[] #[]] ++ lb) W1 fun e W' => (∃ v, e = .returned v) ∧
    ((W'.heap[w.heap.size + 1]? = some (.loop r) ∧ Q .normal { a with defers := { target := .collected w.heap.size, args := #[] } :: a.defers } (W'.putObj (w.heap.size + 1) (.loop { r with state := .exhausted }))) ∨
     ∃ c : Code, W'.heap[w.heap.size + 1]? = some (.loop { r with state := .done, pending := some c }) ∧ c.wpIn Fence.wide n P Q { a with defers := { target := .collected w.heap.size, args := #[] } :: a.defers } (W'.putObj (w.heap.size + 1) (.loop { r with state := .exhausted, pending := some c })))) :
 (Code.rangeFunc g ps assign body).wpIn Fence.wide n P Q a w := by
 refine wpIn_rangeFunc ?_; intro fn _; obtain ⟨r, hr⟩ : ∃ r : Loop, r = { state := .ready, pending := none, fn, tmps := a.tmps, params := ps, assign, body, defers := w.heap.size } := ⟨_, rfl⟩
 refine ⟨w.heap.size + 1, [{ target := .collected w.heap.size, args := #[] }], (w.alloc (.deferred (some []))).alloc (.loop r), { target := .fn (.func gf) lb, args := #[.func (.yield (w.heap.size + 1)) #[] #[]] }, (w.alloc (.deferred (some []))).alloc (.loop r), gf,
  #[.func (.yield (w.heap.size + 1)) #[] #[]] ++ lb, (w.alloc (.deferred (some []))).alloc (.loop r), ?_, ?_, fun _ _ => trivial, ?_, (fun h => by simp [Fence.wide] at h), ?_⟩
 · rw [hr]; exact run_enterLoop_outer _ _ _ _ _
 · simp only [resolve, hg]
   simp [go_sem]
 · simp [invoke, go_sem, eg]
 · refine (h r _ (by rw [hr]) (by rw [hr]) (by rw [hr]) (by rw [hr]) (by rw [hr]) (by rw [hr]) rfl).mono ?_
   rintro e W' ⟨⟨v, rfl⟩, hq⟩; rcases hq with ⟨hl, hq⟩ | ⟨c, hl, hq⟩
   · have hpe : r.pending = none := by rw [hr]
     have := run_endLoop (P := P) hl (by rw [hr]; simp); rw [hpe] at this hq; exact ⟨none, _, this, hq⟩
   · have := run_endLoop (P := P) hl (by simp)
     exact ⟨some c, _, this, hq⟩
theorem round_leave {P : Program} {m l : Nat} {args : Array Value} {W : World} {r : Loop} {R : World → Prop} {J : Code → World → Prop} (hl : W.heap[l]? = some (.loop r)) (hst : r.state = .ready) (hpe : r.pending = none) (hs : args.size = r.params.size)
 (h : ∀ rb : Loop, Hid (rb = { r with state := .busy }) → r.assign.wpIn (Fence.wide.inRound l) m P (Exit.then (fun a1 W1 => W1.heap[l]? = some (.loop r) ∧
   r.body.wpIn (Fence.wide.inRound l) m P (offJ (fun W3 => W3.heap[l]? = some (.loop rb) ∧ R (W3.putObj l (.loop r))) (fun c W3 => W3.heap[l]? = some (.loop rb) ∧ J c (W3.putObj l (.loop { r with state := .done, pending := some c })))) a1 (W1.putObj l (.loop rb))) (fun _ _ _ => False))
   { tmps := (r.params.zip args).foldl (fun t (p, v) => t.setIfInBounds p v) r.tmps, defers := [] } W) :
 YieldAt Fence.wide m P l args W fun e W' => (e = .returned (.bool true) ∧ R W') ∨ ∃ c, e = .returned (.bool false) ∧ J c W' := by
 refine ⟨r.fn, _, r.assign, r.body, run_yield hl hs, roundIn_of_wpIn trivial (wpIn_mono (h _ rfl) ?_)⟩; rintro e a1 W1 hp; cases e with
 | normal =>
   obtain ⟨hl1, hb⟩ := hp; refine ⟨_, run_beginRound hl1 hst, wpIn_mono hb ?_⟩; rintro e a3 W3 hq; cases e with
   | normal =>
     obtain ⟨hl3, hR⟩ := hq; refine ⟨_, _, run_endRound none hl3, Or.inl ⟨rfl, ?_⟩⟩; have e1 : ({ ({ r with state := .busy } : Loop) with state := if (none : Option Code).isNone then .ready else .done, pending := none } : Loop) = r := by
      cases r; simp only at hst hpe; subst hst hpe; rfl
     rw [e1]; exact hR
   | ret =>
     obtain ⟨hl3, hJ⟩ := hq; exact ⟨_, _, run_endRound (some .ret) hl3, Or.inr ⟨.ret, rfl, hJ⟩⟩
   | exit id =>
     obtain ⟨hl3, hJ⟩ := hq; exact ⟨_, _, run_endRound (some (.exit id)) hl3, Or.inr ⟨.exit id, rfl, hJ⟩⟩
   | goto t => exact hq.elim
   | panic ch => exact hq.elim
   | outgrown => exact hq.elim
 | ret => exact hp.elim
 | exit id => exact hp.elim
 | goto t => exact hp.elim
 | panic ch => exact hp.elim
 | outgrown => exact hp.elim
theorem slL2 (w : World) (g o n vc l : Nat) (L : Int) (hL : L = l) (hl : l ≤ n) : (Instr.slice 23 (.slice (some ⟨g, o, none⟩) n vc) (some (.int .i64 L)) none none).run Tryz.prog w = .ok (.slice (some ⟨g, if vc = l then o else o + l, none⟩) (n - l) (vc - l)) w := by
 subst hL; rw [run_slice_l w 23 _ n vc el36 .i64 l (by omega) (by omega), sz36]; by_cases e : vc = l
 · simp [Result.andThen, sliced, e]
 · simp [Result.andThen, sliced, e, Addr.add_lit]
theorem nx_ok {bs : List Int} (h : (nx bs).1 = 0) : 12 ≤ (nx bs).2.1 ∧ (nx bs).2.1 ≤ bs.length ∧ (nx bs).2.1 = 12 + (nx bs).2.2.length ∧ (nx bs).2.2.length ≤ 65536 := by
 unfold nx at h ⊢; split at h
 · simp at h
 · rename_i h1
   rw [if_neg h1]; split at h
   · simp at h
   · rename_i h2
     rw [if_neg h2]; split at h
     · simp at h
     · rename_i h3
       rw [if_neg h3]; split at h
       · simp at h
       · rename_i h4
         rw [if_neg h4]; have h5 : ((bs.drop 12).take (numAt bs 0).toNat).length = (numAt bs 0).toNat := by rw [List.length_take, List.length_drop]; omega
         have h6 : ¬ 65536 < (numAt bs 0).toNat := fun h => h2 (Or.inr h)
         show 12 ≤ 12 + (numAt bs 0).toNat ∧ 12 + (numAt bs 0).toNat ≤ bs.length ∧ 12 + (numAt bs 0).toNat = 12 + ((bs.drop 12).take (numAt bs 0).toNat).length ∧ ((bs.drop 12).take (numAt bs 0).toNat).length ≤ 65536; rw [h5]; omega
def slenV : Value → Nat
 | .slice _ n _ => n
 | _ => 0
set_option maxRecDepth 100000 in
set_option maxHeartbeats 4000000 in
/-- frames$1 -/
theorem frames1_in (m l X : Nat) (ba : Option Addr) (bc : Nat) (bs : List Int) (W0 : World) (J : Nat → World → Prop) (X' : World → Prop)
 (hX : W0.cell? ⟨X, 0, none⟩ = some (.slice ba bs.length bc)) (hc : bs.length ≤ bc) (hm : bc ≤ 9223372036854775807) (hl : bs.length ≤ 140737488355328) (h0 : J 0 W0)
 (hJ : ∀ k W, J k W → BytesV W (.slice ba bs.length bc) bs ∧ Half W)
 (hY : ∀ k W W2 v, k < bs.length → J k W → Below W.heap.size W W2 → W2.ownsRow W.heap.size 5 1 v (nx (bs.drop k)).2.2.length (vB (nx (bs.drop k)).2.2) → YieldAt Fence.wide m Tryz.prog l #[v, .int .i64 (nx (bs.drop k)).1] W2 fun e W' => (e = .returned (.bool true) ∧ (nx (bs.drop k)).1 = 0 ∧ J (k + (nx (bs.drop k)).2.1) W') ∨ (e = .returned (.bool false) ∧ X' W')) :
 CallsIn Fence.wide (m + 1) Tryz.prog 132 #[.func (.yield l) #[] #[], .pointer (some ⟨X, 0, none⟩)] W0 fun e W' => (∃ v, e = .returned v) ∧ (J bs.length W' ∨ X' W') := by
 refine callsIn_of_wp Tryz.func132 rfl trivial ?_ rfl; simp only [Tryz.ntmps132, List.size_toArray, List.length_cons, List.length_nil, Nat.reduceAdd, Nat.reduceSub, Array.replicate_succ, Array.replicate_zero, List.push_toArray, List.append_toArray, List.nil_append, List.cons_append]; have HY : Hid _ := hY; have HJ : Hid _ := hJ; have H0 : Hid (J 0 W0) := h0; clear hY hJ h0; obtain ⟨g0, o0, hba⟩ : ∃ g0 o0, 0 < bs.length → ba = some ⟨g0, o0, none⟩ := by
  by_cases hz : 0 < bs.length
  · obtain ⟨g, o, e, _⟩ := (HJ.out 0 W0 H0.out).1.at (k := 0) (List.getElem?_eq_getElem hz)
    exact ⟨g, o, fun _ => e⟩
  · exact ⟨0, 0, fun h => absurd h hz⟩
 have HBA : Hid (0 < bs.length → ba = some ⟨g0, o0, none⟩) := hba; clear hba; gi_wp2; gi_loopw [3] (fun v wr => ∃ (k : Nat) (a' : Option Addr), k ≤ bs.length ∧ v = .slice a' (bs.length - k) (bc - k) ∧ (k < bs.length → a' = some ⟨g0, o0 + k, none⟩) ∧ J k wr) (fun v _ => slenV v)
 case atStart => exact ⟨0, ba, Nat.zero_le _, rfl, HBA.out, H0.out⟩
 case round =>
  obtain ⟨k, a', hk, rfl, haa, hjk⟩ := hrel; have hdl : (bs.drop k).length = bs.length - k := by rw [List.length_drop]
  by_cases hlt : k < bs.length
  · obtain rfl := haa hlt
    have hbv : BytesV wr (.slice (some ⟨g0, o0 + k, none⟩) (bs.length - k) (bc - k)) (bs.drop k) := by
     have h1 := (HJ.out k wr hjk).1; rw [HBA.out (by omega)] at h1; have h2 := h1.part k (bs.length - k) (bc - k) (by omega); rw [List.take_of_length_le (by omega)] at h2; exact h2
    have HK : Hid (J k wr) := hjk; have hnx := next_any (HJ.out k wr hjk).2 (some ⟨g0, o0 + k, none⟩) (bc - k) (bs.drop k) (by rw [hdl]; exact hbv) (by rw [hdl]; omega) (by omega) (by rw [hdl]; omega); rw [hdl] at hnx; have HN : Hid _ := hnx; have hln : (0 : Int) < ((bs.length - k : Nat) : Int) := by omega
    clear hjk hbv hnx haa; obtain ⟨N, hN⟩ : ∃ N, N = bs.length - k := ⟨_, rfl⟩
    rw [← hN] at hln HN ⊢; have HNN : Hid (N = bs.length - k) := hN; clear hN hdl; have TK : Hid True := trivial; gi_wp2_with (first
     | (have _ := TK
        refine ⟨trivial, ?_⟩; gi_at_call 133; clear TK; refine (callsIn_wide.2 HN.out).mono ?_; rintro e w2 ⟨v2, rfl, ho2, hb2⟩; have H2 : Hid (w2.ownsRow wr.heap.size 5 1 v2 (nx (bs.drop k)).2.2.length (vB (nx (bs.drop k)).2.2) ∧ Below wr.heap.size wr w2) := ⟨ho2, hb2⟩
        obtain ⟨fn, tmps, assign, body, hy, hR⟩ := HY.out k wr w2 v2 hlt HK.out hb2 ho2; clear ho2 hb2))
    refine hR.mono ?_; rintro e W5 (⟨rfl, hz, hj5⟩ | ⟨rfl, hx5⟩)
    · obtain ⟨q1, q2, q3, q4⟩ := nx_ok hz
      have hdl : (bs.drop k).length = bs.length - k := by rw [List.length_drop]
      rw [hdl] at q2; obtain ⟨n, hn⟩ : ∃ n, n = (nx (bs.drop k)).2.1 := ⟨_, rfl⟩
      rw [← hn] at q1 q2 hj5 ⊢; have hsl := fun w' => slL2 w' g0 (o0 + k) N (bc - k) n n rfl (by rw [HNN.out]; exact q2)
      have H5 : Hid (J (k + n) W5 ∧ n ≤ bs.length - k ∧ 12 ≤ n) := ⟨hj5, q2, q1⟩
      clear hj5 q1 q2 q3 q4 hn hR hy hdl; gi_wp2; go_roundw
      case rel =>
       have hNN := HNN.out; have h5 := H5.out; refine ⟨k + n, some ⟨g0, if bc - k = n then o0 + k else o0 + k + n, none⟩, by omega, by rw [hNN, Nat.sub_sub, Nat.sub_sub], fun hkn => ?_, h5.1⟩; rw [if_neg (by omega), Nat.add_assoc]
      case measure => simp [slenV]; have := H5.out; have := HNN.out; omega
    · clear hR hy
      have HX5 : Hid (X' W5) := hx5; clear hx5; gi_wp2
      (try simp only [Exit.inBlock, Exit.then])
      refine bodyPost_ret (results_none rfl _ _ _) rfl ?_; exact ⟨⟨_, rfl⟩, Or.inr HX5.out⟩
  · obtain rfl : k = bs.length := by omega
    have HJ2 : Hid (J bs.length wr) := hjk; clear hjk haa hdl; rw [Nat.sub_self]; gi_wp2; go_end0; exact ⟨⟨_, rfl⟩, Or.inl HJ2.out⟩
end Go.Proofs.YtconkienlcegaaaGreatDoor
namespace Go.Proofs.YtconkienlcegaaaGreatDoor
open Go.RowKit Go.Maps Go.Joins
set_option linter.unusedSimpArgs false
set_option linter.unusedVariables false
theorem dBlock_own {v : Value} {l : List Int} {b : Nat} (h : dBlock v l = some b) : v.ownBlock = some b := by
 cases l with
 | nil => simp [dBlock] at h
 | cons a l => exact h
theorem DL.kept_rec {wA wB wC : World} {bd bl : Nat} {S : DS} {L L' : LS} {ro : Int} {p : Value × List Int} (h : DL wA bd bl S L ro) (hb : Below wA.heap.size wA wB) (hL : LogIs wC bl L') (hK : KFr wB wC L L' p) (hp : ∀ b, dBlock p.1 p.2 = some b → wA.heap.size ≤ b) (hq : L'.bd = L.bd) : DL wC bd bl S L' ro ∧ F3 wA wC S L S L' := by
 have hvl := h.vars.lt; have hsz := hb.size; have hblk : ∀ b, b < wA.heap.size → L.own b = 0 → wC.heap[b]? = wA.heap[b]? := fun b h0 h1 => (hK.block b (by omega) h1).trans (hb.block b h0)
 have hown : ∀ b, b < wA.heap.size → L.own b = 0 → L'.own b = 0 := fun b h0 h1 => hK.own b (by omega) h1 (fun hc => by have := hp b hc; omega)
 refine ⟨⟨h.disk.kept (fun b hb' => hblk b (h.disk.role_lt hb') (h.off b hb')) (Nat.le_trans hb.size hK.size), h.gb, hL, hq.trans h.bdq, fun b hb' => ?_, h.vars.kept (fun b hb' => hblk b (by omega) (h.voff b hb').2), fun b hb' => ⟨(h.voff b hb').1, hown b (by omega) (h.voff b hb').2⟩⟩, ⟨hK.os.trans hb.os, hK.tape.trans hb.tape, hK.output.trans hb.output, Nat.le_trans hb.size hK.size, fun b h0 _ h2 => hblk b h0 h2, fun b h0 h1 h2 => ⟨h1, hown b h0 h2⟩⟩⟩; rcases Nat.lt_or_ge b wA.heap.size with h1 | h1
 · by_cases h2 : L.own b = 0
   · exact absurd (hown b h1 h2) hb'
   · exact h.apart b h2
 · exact h.disk.fresh b h1
theorem BytesV.f3 {w w' : World} {S S' : DS} {L L' : LS} {v : Value} {bs : List Int} (h : BytesV w v bs) (hF : F3 w w' S L S' L') (ho : ∀ b, dBlock v bs = some b → b < w.heap.size ∧ S.role b = .none ∧ L.own b = 0) : BytesV w' v bs := h.keep (fun b hb => hF.block b (ho b hb).1 (ho b hb).2.1 (ho b hb).2.2)
/-- What Append is given. -/
structure AppIn (w : World) (bd bl : Nat) (S : DS) (L : LS) (ro : Int) (va : Option Addr) (vc : Nat) (bs : List Int) : Prop where
 dl : DL w bd bl S L ro
 bv : BytesV w (.slice va bs.length vc) bs
 off : ∀ b, dBlock (.slice va bs.length vc) bs = some b → b < w.heap.size ∧ S.role b = .none ∧ L.own b = 0
 nm : L.nm = logB
 uns : L.uns = true → L.fs ≠ []
 ln : LN L
 fl : L.fs.length ≤ 1000000000
 sz : 0 ≤ L.size ∧ L.size ≤ 4611686018427387904
 st : S.steps < 4611686018427387900
 len : bs.length ≤ 65536
theorem AppIn.cells {w : World} {bd bl : Nat} {S : DS} {L : LS} {ro : Int} {va : Option Addr} {vc : Nat} {bs : List Int} (h : AppIn w bd bl S L ro va vc bs) : ∃ fa fc, w.cell? ⟨bl, 3, none⟩ = some (.slice fa L.fs.length fc) ∧ w.cell? ⟨bl, 5, none⟩ = some (.int .i64 L.size) ∧ w.cell? ⟨bl, 2, none⟩ = some (.int .i64 L.most) := by
 obtain ⟨a, c, e⟩ := row_form h.dl.log.files; refine ⟨a, c, ?_, ?_, ?_⟩
 · rw [cell_of_block h.dl.log.log]; show some L.fv = _; rw [e]
 · rw [cell_of_block h.dl.log.log]; rfl
 · rw [cell_of_block h.dl.log.log]; rfl
theorem absL_bg (L : LS) : (absL L).bg = (L.fs.isEmpty || decide (L.most ≤ L.size)) := rfl
theorem absL_en (L : LS) : (absL L).en = endL L := by
 show L.fs.headD 0 + ((L.rs.map (·.2)).length : Int) = fst L + L.rs.length; rw [List.length_map]; rfl
theorem pSync_steps (A : DA) (P : PL) : A.steps ≤ (pSync A P).2.1.steps ∧ (pSync A P).2.1.steps ≤ A.steps + 1 := by
 unfold pSync; split
 · exact dDo_steps A (fileB logB P.last) (eFind A.l (fileB logB P.last)) (lSync A.l (fileB logB P.last))
 · show A.steps ≤ A.steps ∧ A.steps ≤ A.steps + 1
   omega
theorem pSync_rest (A : DA) (P : PL) : (pSync A P).2.2.fs = P.fs ∧ (pSync A P).2.2.rs = P.rs ∧ (pSync A P).2.2.size = P.size ∧ (pSync A P).2.2.most = P.most := by
 unfold pSync; split
 · exact ⟨rfl, rfl, rfl, rfl⟩
 · exact ⟨rfl, rfl, rfl, rfl⟩
set_option maxRecDepth 100000 in
set_option maxHeartbeats 8000000 in
theorem lappend_nil_s {w : World} {bd bl : Nat} {S : DS} {L : LS} {ro : Int} {va : Option Addr} {vc : Nat} {bs : List Int} (hI : AppIn w bd bl S L ro va vc bs) (hfs : L.fs = []) (hs : ¬ (pSync (absD S) (absL L)).1 = 0) :
 Calls Tryz.prog 83 #[.pointer (some ⟨bl, 0, none⟩), .slice va bs.length vc] w fun e w' => ∃ c S' L', e = .returned (.int .i64 c) ∧ PR w w' bd bl S L ro (pApp (absD S) (absL L) bs) c S' L' := by
 have HI : Hid (AppIn w bd bl S L ro va vc bs) := hI; have hlen0 := hI.len; have hbig : ¬ 65536 < bs.length := by omega
 have hbg : (absL L).bg = true := by rw [absL_bg]; rw [hfs]; rfl
 have hr : pApp (absD S) (absL L) bs = pSync (absD S) (absL L) := by unfold pApp; rw [if_neg hbig, if_pos hbg, if_neg hs]
 have HR : Hid _ := hr; clear hr hbg hI hlen0 hbig; obtain ⟨fa, fc, c3, c5, c2⟩ := HI.out.cells; rw [hfs] at c3; clear hfs; have hblen := HI.out.len; have hb2 : decide ((65536 : Int) < bs.length) = false := by simp; omega
 clear hblen; go_enter Tryz.func83, Tryz.ntmps83; go_wp2_with fail; go_quiet (fail); go_wp2_with (first
  | (go_at_call 42
     refine Calls.mono (end_any (HI.out.dl.log.below (below_drewN' _ _)) HI.out.ln) ?_; rintro e w1 ⟨rfl, hm1⟩; have H1 : Hid (DL w1 bd bl S L ro ∧ F3 w w1 S L S L) := (by
      obtain ⟨m, rfl⟩ := hm1; exact ⟨HI.out.dl.below ⟨rfl, rfl, rfl, Nat.le_refl _, fun _ _ => rfl⟩, F3.below ⟨rfl, rfl, rfl, Nat.le_refl _, fun _ _ => rfl⟩⟩)
     clear hm1)
  | (go_at_call 84
     refine Calls.mono (lsync_any H1.out.1 HI.out.uns HI.out.nm (by have := HI.out.st; omega)) ?_; rintro e w2 ⟨c, S2, L2, rfl, hPR, e1, e2, e3, e4⟩; have H2 : Hid (DL w2 bd bl S2 L2 ro ∧ F3 w w2 S L S2 L2 ∧ absD S2 = (pSync (absD S) (absL L)).2.1 ∧ absL L2 = (pSync (absD S) (absL L)).2.2 ∧ L2.nm = logB ∧ L2.fs = L.fs ∧ L2.rs = L.rs ∧ L2.size = L.size ∧ c = (pSync (absD S) (absL L)).1 ∧ L2.most = L.most) := ⟨hPR.dl, H1.out.2.trans hPR.f3, hPR.disk, hPR.log, hPR.nm.trans HI.out.nm, e1, e2, e3, hPR.code, e4⟩
     have hc1 : (c == 0) = false := by rw [H2.out.2.2.2.2.2.2.2.2.1]; simpa using hs
     clear hPR e1 e2 e3 e4 H1))
 go_ret; rw [HR.out]
 exact ⟨c, S2, L2, rfl, ⟨H2.out.2.2.2.2.2.2.2.2.1, H2.out.2.2.1, H2.out.2.2.2.1, H2.out.1, H2.out.2.1, H2.out.2.2.2.2.1.trans HI.out.nm.symm⟩⟩
set_option maxRecDepth 100000 in
set_option maxHeartbeats 8000000 in
theorem lappend_full_s {w : World} {bd bl : Nat} {S : DS} {L : LS} {ro : Int} {va : Option Addr} {vc : Nat} {bs : List Int} (hI : AppIn w bd bl S L ro va vc bs) (hfs : ¬ L.fs.length = 0) (hm : L.most ≤ L.size) (hs : ¬ (pSync (absD S) (absL L)).1 = 0) :
 Calls Tryz.prog 83 #[.pointer (some ⟨bl, 0, none⟩), .slice va bs.length vc] w fun e w' => ∃ c S' L', e = .returned (.int .i64 c) ∧ PR w w' bd bl S L ro (pApp (absD S) (absL L) bs) c S' L' := by
 have HI : Hid (AppIn w bd bl S L ro va vc bs) := hI; have hlen0 := hI.len; have hbig : ¬ 65536 < bs.length := by omega
 have hbg : (absL L).bg = true := by rw [absL_bg]; rw [decide_eq_true hm, Bool.or_true]
 have hr : pApp (absD S) (absL L) bs = pSync (absD S) (absL L) := by unfold pApp; rw [if_neg hbig, if_pos hbg, if_neg hs]
 have HR : Hid _ := hr; clear hr hbg hI hlen0 hbig; obtain ⟨fa, fc, c3, c5, c2⟩ := HI.out.cells; have hl3 : ((L.fs.length : Int) == 0) = false := by simpa using hfs
 have hmm : L.most ≤ L.size := hm; have hblen := HI.out.len; have hb2 : decide ((65536 : Int) < bs.length) = false := by simp; omega
 clear hblen; go_enter Tryz.func83, Tryz.ntmps83; go_wp2_with fail; go_quiet (fail); go_wp2_with (first
  | (go_at_call 42
     refine Calls.mono (end_any (HI.out.dl.log.below (below_drewN' _ _)) HI.out.ln) ?_; rintro e w1 ⟨rfl, hm1⟩; have H1 : Hid (DL w1 bd bl S L ro ∧ F3 w w1 S L S L) := (by
      obtain ⟨m, rfl⟩ := hm1; exact ⟨HI.out.dl.below ⟨rfl, rfl, rfl, Nat.le_refl _, fun _ _ => rfl⟩, F3.below ⟨rfl, rfl, rfl, Nat.le_refl _, fun _ _ => rfl⟩⟩)
     clear hm1)
  | (go_at_call 84
     refine Calls.mono (lsync_any H1.out.1 HI.out.uns HI.out.nm (by have := HI.out.st; omega)) ?_; rintro e w2 ⟨c, S2, L2, rfl, hPR, e1, e2, e3, e4⟩; have H2 : Hid (DL w2 bd bl S2 L2 ro ∧ F3 w w2 S L S2 L2 ∧ absD S2 = (pSync (absD S) (absL L)).2.1 ∧ absL L2 = (pSync (absD S) (absL L)).2.2 ∧ L2.nm = logB ∧ L2.fs = L.fs ∧ L2.rs = L.rs ∧ L2.size = L.size ∧ c = (pSync (absD S) (absL L)).1 ∧ L2.most = L.most) := ⟨hPR.dl, H1.out.2.trans hPR.f3, hPR.disk, hPR.log, hPR.nm.trans HI.out.nm, e1, e2, e3, hPR.code, e4⟩
     have hc1 : (c == 0) = false := by rw [H2.out.2.2.2.2.2.2.2.2.1]; simpa using hs
     clear hPR e1 e2 e3 e4 H1))
 go_ret; rw [HR.out]
 exact ⟨c, S2, L2, rfl, ⟨H2.out.2.2.2.2.2.2.2.2.1, H2.out.2.2.1, H2.out.2.2.2.1, H2.out.1, H2.out.2.1, H2.out.2.2.2.2.1.trans HI.out.nm.symm⟩⟩
inductive Took (bs : List Int) : Nat → List (List Int) → Prop
 | nil : Took bs 0 []
 | step {k : Nat} {rs : List (List Int)} : Took bs k rs → k < bs.length → (nx (bs.drop k)).1 = 0 → Took bs (k + (nx (bs.drop k)).2.1) (rs ++ [(nx (bs.drop k)).2.2])
theorem Took.le {bs : List Int} {k : Nat} {rs : List (List Int)} (h : Took bs k rs) : k ≤ bs.length ∧ rs.length * 12 ≤ k := by
 induction h with
 | nil => simp
 | step h1 h2 h3 ih =>
   obtain ⟨q1, q2, q3, _⟩ := nx_ok h3; rw [List.length_drop] at q2; rw [List.length_append]; simp; omega
/-- What load keeps beside the log and the disk. -/
structure Lo (W : World) (S : DS) (L : LS) (X D : Nat) (bl : Nat) (last : Bool) (v : Value) (bs : List Int) (res : Int) : Prop where
 x0 : W.heap[X]? = some (.cells #[.pointer (some ⟨bl, 0, none⟩)] 91)
 x1 : W.heap[X + 1]? = some (.cells #[.bool last] 4)
 x2 : W.heap[X + 2]? = some (.cells #[.int .i64 res] 25)
 d : W.heap[D]? = some (.deferred (some []))
 bv : BytesV W v bs
 lt : X + 2 < W.heap.size ∧ D < W.heap.size
 o0 : S.role X = .none ∧ L.own X = 0
 o1 : S.role (X + 1) = .none ∧ L.own (X + 1) = 0
 o2 : S.role (X + 2) = .none ∧ L.own (X + 2) = 0
 od : S.role D = .none ∧ L.own D = 0
 ol : S.role (D + 1) = .none ∧ L.own (D + 1) = 0
 ov : ∀ b, dBlock v bs = some b → b < W.heap.size ∧ b < D ∧ S.role b = .none ∧ L.own b = 0 ∧ X + 2 < b
 xd : X + 2 < D
theorem Lo.f3 {W W' : World} {S S' : DS} {L L' : LS} {X D bl : Nat} {last : Bool} {v : Value} {bs : List Int} {res : Int} (h : Lo W S L X D bl last v bs res) (hF : F3 W W' S L S' L') (hl : D + 1 < W.heap.size) : Lo W' S' L' X D bl last v bs res := by
 have h1 := h.lt.1; have h2 := h.lt.2; have hs := hF.size; exact ⟨(hF.block X (by omega) h.o0.1 h.o0.2).trans h.x0, (hF.block (X + 1) (by omega) h.o1.1 h.o1.2).trans h.x1, (hF.block (X + 2) (by omega) h.o2.1 h.o2.2).trans h.x2, (hF.block D (by omega) h.od.1 h.od.2).trans h.d,
  h.bv.keep (fun b hb => hF.block b (h.ov b hb).1 (h.ov b hb).2.2.1 (h.ov b hb).2.2.2.1), ⟨by omega, by omega⟩, hF.off X (by omega) h.o0.1 h.o0.2, hF.off (X + 1) (by omega) h.o1.1 h.o1.2, hF.off (X + 2) (by omega) h.o2.1 h.o2.2, hF.off D (by omega) h.od.1 h.od.2, hF.off (D + 1) hl h.ol.1 h.ol.2,
  fun b hb => ⟨by have := (h.ov b hb).1; omega, (h.ov b hb).2.1, (hF.off b (h.ov b hb).1 (h.ov b hb).2.2.1 (h.ov b hb).2.2.2.1).1, (hF.off b (h.ov b hb).1 (h.ov b hb).2.2.1 (h.ov b hb).2.2.2.1).2, (h.ov b hb).2.2.2.2⟩, h.xd⟩
/-- The loop's record turns. -/
theorem Lo.put {W : World} {S : DS} {L : LS} {X D bl : Nat} {last : Bool} {v : Value} {bs : List Int} {res : Int} (h : Lo W S L X D bl last v bs res) (o : Obj) : Lo (W.putObj (D + 1) o) S L X D bl last v bs res := by
 have h1 := h.xd; have hk : ∀ b, b < D + 1 → (W.putObj (D + 1) o).heap[b]? = W.heap[b]? := fun b hb => World.putObj_heap_other (by omega)
 have hs : (W.putObj (D + 1) o).heap.size = W.heap.size := by simp [World.putObj]
 exact ⟨(hk X (by omega)).trans h.x0, (hk (X + 1) (by omega)).trans h.x1, (hk (X + 2) (by omega)).trans h.x2, (hk D (by omega)).trans h.d, h.bv.keep (fun b hb => hk b (by have := (h.ov b hb).2.1; omega)), by rw [hs]; exact h.lt, h.o0, h.o1, h.o2, h.od, h.ol, fun b hb => by rw [hs]; exact h.ov b hb, h.xd⟩
/-- A block that is nobody's turns. -/
theorem DL.touch {W W' : World} {bd bl : Nat} {S : DS} {L : LS} {ro : Int} (h : DL W bd bl S L ro) (x : Nat) (hx : S.role x = .none ∧ L.own x = 0) (hx4 : 5 ≤ x) (hk : ∀ b, b ≠ x → W'.heap[b]? = W.heap[b]?) (hs : W.heap.size ≤ W'.heap.size) : DL W' bd bl S L ro :=
 ⟨h.disk.kept (fun b hb => hk b (fun e => hb (by rw [e]; exact hx.1))) hs, h.gb, h.log.kept (fun b hb => hk b (fun e => hb (by rw [e]; exact hx.2))) hs, h.bdq, h.apart, h.vars.kept (fun b hb => hk b (by omega)), h.voff⟩
theorem DL.put {W : World} {bd bl : Nat} {S : DS} {L : LS} {ro : Int} (h : DL W bd bl S L ro) (x : Nat) (hx : S.role x = .none ∧ L.own x = 0) (hx4 : 5 ≤ x) (o : Obj) : DL (W.putObj x o) bd bl S L ro :=
 h.touch x hx hx4 (fun b hb => World.putObj_heap_other hb) (by simp [World.putObj])
/-- As F3, up to the blocks from the N-th on. -/
structure FB (N : Nat) (w w' : World) (S : DS) (L : LS) (S' : DS) (L' : LS) : Prop where
 os : w'.os = w.os
 tape : w'.tape = w.tape
 output : w'.output = w.output
 size : w.heap.size ≤ w'.heap.size
 block : ∀ b, b < N → S.role b = .none → L.own b = 0 → w'.heap[b]? = w.heap[b]?
 off : ∀ b, b < N → S.role b = .none → L.own b = 0 → S'.role b = .none ∧ L'.own b = 0
theorem FB.f3 {N : Nat} {w w' w2 : World} {S S' S2 : DS} {L L' L2 : LS} (h : FB N w w' S L S' L') (hN : N ≤ w'.heap.size) (k : F3 w' w2 S' L' S2 L2) : FB N w w2 S L S2 L2 :=
 ⟨k.os.trans h.os, k.tape.trans h.tape, k.output.trans h.output, Nat.le_trans h.size k.size,
  fun b hb h1 h2 => (k.block b (by omega) (h.off b hb h1 h2).1 (h.off b hb h1 h2).2).trans (h.block b hb h1 h2),
  fun b hb h1 h2 => k.off b (by omega) (h.off b hb h1 h2).1 (h.off b hb h1 h2).2⟩
theorem FB.put {N : Nat} {w w' : World} {S S' : DS} {L L' : LS} (h : FB N w w' S L S' L') {x : Nat} (hx : N ≤ x) (o : Obj) : FB N w (w'.putObj x o) S L S' L' :=
 ⟨h.os, h.tape, h.output, by simpa [World.putObj] using h.size, fun b hb h1 h2 => (World.putObj_heap_other (by omega)).trans (h.block b hb h1 h2), h.off⟩
theorem FB.set {N : Nat} {w w' : World} {S S' : DS} {L L' : LS} (h : FB N w w' S L S' L') {x : Nat} (hx : N ≤ x) (i : Nat) (u : Value) : FB N w (w'.setCell ⟨x, i, none⟩ u) S L S' L' :=
 ⟨h.os, h.tape, h.output, by simpa using h.size, fun b hb h1 h2 => (Below.heap_setCell _ _ _ _ (by show b ≠ x; omega)).trans (h.block b hb h1 h2), h.off⟩
theorem FB.to {w w' : World} {S S' : DS} {L L' : LS} (h : FB w.heap.size w w' S L S' L') : F3 w w' S L S' L' := ⟨h.os, h.tape, h.output, h.size, h.block, h.off⟩
theorem F3.fb {w w' : World} {S S' : DS} {L L' : LS} (h : F3 w w' S L S' L') : FB w.heap.size w w' S L S' L' := ⟨h.os, h.tape, h.output, h.size, h.block, h.off⟩
end Go.Proofs.YtconkienlcegaaaGreatDoor
