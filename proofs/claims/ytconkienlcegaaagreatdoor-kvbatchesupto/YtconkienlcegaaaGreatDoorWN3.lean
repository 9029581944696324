/- wal: load, its loop. -/
import Derived.Test.YtconkienlcegaaaGreatDoorM21
namespace Go.Proofs.YtconkienlcegaaaGreatDoor
open Go.RowKit Go.Maps Go.Joins Go.Shelf
set_option linter.unusedSimpArgs false
set_option linter.unusedVariables false
/-- Within load's loop. -/
structure JJ (w W : World) (bd bl : Nat) (S S1 : DS) (L : LS) (ro : Int) (n : Int) (last : Bool) (v : Value) (bs : List Int) (D : Nat) (res : Int) (rc : Loop) (k : Nat) (rs : List (List Int)) (L' : LS) : Prop where
  took : Took bs k rs
  dl : DL W bd bl S1 L' ro
  fs : L'.fs = L.fs ++ [n]
  rs' : L'.rs.map (·.2) = L.rs.map (·.2) ++ rs
  size : L'.size = k
  rest : L'.uns = L.uns ∧ L'.most = L.most ∧ L'.nm = L.nm
  fb : FB w.heap.size w W S L S1 L'
  lo : Lo W S1 L' w.heap.size D bl last v bs res
  loop : W.heap[D + 1]? = some (.loop rc)
  v4 : 5 ≤ w.heap.size
theorem JJ.lt {w W : World} {bd bl : Nat} {S S1 : DS} {L L' : LS} {ro n : Int} {last : Bool} {v : Value} {bs : List Int} {D : Nat} {res : Int} {rc : Loop} {k : Nat} {rs : List (List Int)} (h : JJ w W bd bl S S1 L ro n last v bs D res rc k rs L') : D + 1 < W.heap.size := heap_lt h.loop
theorem JJ.below {w W W' : World} {bd bl : Nat} {S S1 : DS} {L L' : LS} {ro n : Int} {last : Bool} {v : Value} {bs : List Int} {D : Nat} {res : Int} {rc : Loop} {k : Nat} {rs : List (List Int)} (h : JJ w W bd bl S S1 L ro n last v bs D res rc k rs L') (hb : Below W.heap.size W W') : JJ w W' bd bl S S1 L ro n last v bs D res rc k rs L' :=
  ⟨h.took, h.dl.below hb, h.fs, h.rs', h.size, h.rest, h.fb.f3 (by have := h.fb.size; omega) (F3.below hb), h.lo.f3 (F3.below hb) h.lt, (hb.block _ h.lt).trans h.loop, h.v4⟩
theorem JJ.put {w W : World} {bd bl : Nat} {S S1 : DS} {L L' : LS} {ro n : Int} {last : Bool} {v : Value} {bs : List Int} {D : Nat} {res : Int} {rc : Loop} {k : Nat} {rs : List (List Int)} (h : JJ w W bd bl S S1 L ro n last v bs D res rc k rs L') (r2 : Loop) : JJ w (W.putObj (D + 1) (.loop r2)) bd bl S S1 L ro n last v bs D res r2 k rs L' :=
  ⟨h.took, h.dl.put (D + 1) h.lo.ol (by have := h.v4; have := h.lo.xd; omega) _, h.fs, h.rs', h.size, h.rest, h.fb.put (by have := h.lo.xd; omega) _, h.lo.put _, World.putObj_heap_same h.lt, h.v4⟩
theorem JJ.keep {w W W2 : World} {bd bl : Nat} {S S1 : DS} {L L' : LS} {ro n : Int} {last : Bool} {v : Value} {bs : List Int} {D : Nat} {res : Int} {rc : Loop} {k : Nat} {rs : List (List Int)} (h : JJ w W bd bl S S1 L ro n last v bs D res rc k rs L') {L2 : LS} {x : List Int} {z : Nat} (hd : DL W2 bd bl S1 L2 ro) (hF : F3 W W2 S1 L' S1 L2) (ht : Took bs z (rs ++ [x])) (h1 : L2.fs = L'.fs) (h2 : L2.rs.map (·.2) = L'.rs.map (·.2) ++ [x]) (h3 : L2.size = z) (h4 : L2.uns = L'.uns ∧ L2.most = L'.most ∧ L2.nm = L'.nm) : JJ w W2 bd bl S S1 L ro n last v bs D res rc z (rs ++ [x]) L2 :=
  ⟨ht, hd, h1.trans h.fs, by rw [h2, h.rs', List.append_assoc], h3, ⟨h4.1.trans h.rest.1, h4.2.1.trans h.rest.2.1, h4.2.2.trans h.rest.2.2⟩, h.fb.f3 (by have := h.fb.size; omega) hF, h.lo.f3 hF h.lt, (hF.block _ h.lt h.lo.ol.1 h.lo.ol.2).trans h.loop, h.v4⟩
/-- Load's loop was left. -/
def XX (w W : World) (bd bl : Nat) (S S1 : DS) (L : LS) (ro : Int) (n : Int) (last : Bool) (v : Value) (bs : List Int) (D : Nat) (r : Loop) : Prop :=
  ∃ k rs L', k < bs.length ∧ (((nx (bs.drop k)).1 = 10 ∧ last = true ∧ JJ w W bd bl S S1 L ro n last v bs D 0 { r with state := .done, pending := some (.exit 0) } k rs L') ∨ ((nx (bs.drop k)).1 ≠ 0 ∧ ¬ ((nx (bs.drop k)).1 = 10 ∧ last = true) ∧ JJ w W bd bl S S1 L ro n last v bs D 34 { r with state := .done, pending := some .ret } k rs L'))
theorem JJ.res {w W : World} {bd bl : Nat} {S S1 : DS} {L L' : LS} {ro n : Int} {last : Bool} {v : Value} {bs : List Int} {D : Nat} {res : Int} {rc : Loop} {k : Nat} {rs : List (List Int)} (h : JJ w W bd bl S S1 L ro n last v bs D res rc k rs L') (z : Int) : JJ w (W.setCell ⟨w.heap.size + 2, 0, none⟩ (.int .i64 z)) bd bl S S1 L ro n last v bs D z rc k rs L' := by
  have h1 := h.lo.xd
  have hk : ∀ b, b ≠ w.heap.size + 2 → (W.setCell ⟨w.heap.size + 2, 0, none⟩ (.int .i64 z)).heap[b]? = W.heap[b]? := fun b hb => Below.heap_setCell _ _ _ _ hb
  have hv := h.dl.vars.lt
  refine ⟨h.took, h.dl.touch (w.heap.size + 2) h.lo.o2 (by have := h.v4; omega) hk (by simp), h.fs, h.rs', h.size, h.rest, h.fb.set (by omega) 0 _, ⟨(hk _ (by omega)).trans h.lo.x0, (hk _ (by omega)).trans h.lo.x1, ?_, (hk _ (by omega)).trans h.lo.d, h.lo.bv.keep (fun b hb => hk b (by have := (h.lo.ov b hb).2.2.2.2; omega)), by simpa using h.lo.lt, h.lo.o0, h.lo.o1, h.lo.o2, h.lo.od, h.lo.ol, fun b hb => by simpa using h.lo.ov b hb, h.lo.xd⟩, (hk _ (by omega)).trans h.loop, h.v4⟩
  rw [block_setCell h.lo.x2]
  rfl
theorem JJ.fin {w W : World} {bd bl : Nat} {S S1 : DS} {L L' : LS} {ro n : Int} {last : Bool} {v : Value} {bs : List Int} {D : Nat} {res : Int} {rc : Loop} {k : Nat} {rs : List (List Int)} (h : JJ w W bd bl S S1 L ro n last v bs D res rc k rs L') : DL (W.putObj D (.deferred none)) bd bl S1 L' ro ∧ F3 w (W.putObj D (.deferred none)) S L S1 L' :=
  ⟨h.dl.put D h.lo.od (by have := h.v4; have := h.lo.xd; omega) _, (h.fb.put (by have := h.lo.xd; omega) _).to⟩
theorem JJ.absL {w W : World} {bd bl : Nat} {S S1 : DS} {L L' : LS} {ro n : Int} {last : Bool} {v : Value} {bs : List Int} {D : Nat} {res : Int} {rc : Loop} {k : Nat} {rs : List (List Int)} (h : JJ w W bd bl S S1 L ro n last v bs D res rc k rs L') : Proofs.YtconkienlcegaaaGreatDoor.absL L' = { Proofs.YtconkienlcegaaaGreatDoor.absL L with fs := L.fs ++ [n], rs := (Proofs.YtconkienlcegaaaGreatDoor.absL L).rs ++ rs, size := k } ∧ L'.nm = L.nm := by
  refine ⟨?_, h.rest.2.2⟩
  unfold Proofs.YtconkienlcegaaaGreatDoor.absL
  rw [h.fs, h.rs', h.size, h.rest.1, h.rest.2.1]
theorem dBytes_len {S : DS} {ro : Int} (h : GB S ro) (s : ByteArray) : (dBytes (absD S) s).length ≤ 1073741824 := by
  unfold dBytes
  split
  · cases hf : fT (absD S).l (nb s) with
    | none => simp
    | some p =>
      have h3 := (del_here (p := p) rfl (fT_mem hf).1).2
      have h4 := h.wf.sum
      have h5 := h.r0
      have e : (absD S).l = absP S := rfl
      rw [e] at h3
      show p.2.1.length ≤ _
      omega
  · simp
theorem load_start {w wq w4 w5 W1 : World} {bd bl : Nat} {S S1 : DS} {L : LS} {ro : Int} {n : Int} {last : Bool} {va : Option Addr} {vc : Nat} {bs : List Int} {v4 : Value} {D : Nat} {r : Loop} (hq : DL wq bd bl S1 L ro ∧ F3 w wq S L S1 L ∧ absD S1 = (dRead (absD S) (fileB logB n)).2 ∧ BytesV wq (.slice va bs.length vc) bs ∧ (wq.heap[w.heap.size]? = some (.cells #[.pointer (some ⟨bl, 0, none⟩)] 91) ∧ wq.heap[w.heap.size + 1]? = some (.cells #[.bool last] 4) ∧ wq.heap[w.heap.size + 2]? = some (.cells #[.int .i64 0] 25)) ∧ bs = (dBytes (absD S) (fileB logB n)) ∧ (bs.length ≤ vc ∧ vc ≤ 9223372036854775807) ∧ (∀ b, dBlock (.slice va bs.length vc) bs = some b → b < wq.heap.size ∧ S1.role b = .none ∧ L.own b = 0 ∧ w.heap.size + 2 < b) ∧ (∀ b, w.heap.size ≤ b → b < w.heap.size + 3 → S1.role b = .none ∧ L.own b = 0) ∧ w.heap.size + 3 ≤ wq.heap.size) (hd4 : DL w4 bd bl S1 (setF L v4 (L.fs ++ [n]) 0) ro) (hF4 : F3 wq w4 S1 L S1 (setF L v4 (L.fs ++ [n]) 0)) (h5 : w5 = w4.alloc (.cells #[.slice va bs.length vc] 23)) (hD : D = w5.heap.size) (hW : W1 = (w5.alloc (.deferred (some []))).alloc (.loop r)) (h0 : DL w bd bl S L ro) :
    JJ w W1 bd bl S S1 L ro n last (.slice va bs.length vc) bs D 0 r 0 [] (setF L v4 (L.fs ++ [n]) 0) := by
  obtain ⟨k1, k2, k3, k4, ⟨x0, x1, x2⟩, k6, k7, k8, k9, k10⟩ := hq
  have hb5 : Below w4.heap.size w4 w5 := by rw [h5]; go_grown
  have hs5 : w5.heap.size = w4.heap.size + 1 := by rw [h5]; simp
  have hbW : Below w5.heap.size w5 W1 := by rw [hW]; exact ((Below.refl _ _).alloc (Nat.le_refl _) _).alloc (by simp) _
  have hsW : W1.heap.size = D + 2 := by rw [hW, hD]; simp
  have hb : Below w4.heap.size w4 W1 := hb5.trans (hbW.mono hb5.size)
  have hF : F3 wq W1 S1 L S1 (setF L v4 (L.fs ++ [n]) 0) := hF4.trans (F3.below hb)
  have hs4 := hF4.size
  have hfr : ∀ b, w4.heap.size ≤ b → S1.role b = .none ∧ (setF L v4 (L.fs ++ [n]) 0).own b = 0 := fun b hb' => ⟨hd4.disk.fresh b hb', hd4.log.fresh b hb'⟩
  have ho : ∀ b, w.heap.size ≤ b → b < w.heap.size + 3 → W1.heap[b]? = wq.heap[b]? ∧ S1.role b = .none ∧ (setF L v4 (L.fs ++ [n]) 0).own b = 0 := fun b h1 h2 => ⟨hF.block b (by omega) (k9 b h1 h2).1 (k9 b h1 h2).2, hF.off b (by omega) (k9 b h1 h2).1 (k9 b h1 h2).2⟩
  refine ⟨.nil, hd4.below hb, rfl, by simp [setF], rfl, ⟨rfl, rfl, rfl⟩, k2.fb.f3 (by have := k2.size; omega) hF, ⟨(ho w.heap.size (by omega) (by omega)).1.trans x0, (ho (w.heap.size + 1) (by omega) (by omega)).1.trans x1, (ho (w.heap.size + 2) (by omega) (by omega)).1.trans x2, ?_, k4.keep (fun b hb' => hF.block b (k8 b hb').1 (k8 b hb').2.1 (k8 b hb').2.2.1), ⟨by omega, by omega⟩, (ho w.heap.size (by omega) (by omega)).2, (ho (w.heap.size + 1) (by omega) (by omega)).2, (ho (w.heap.size + 2) (by omega) (by omega)).2, hfr D (by omega), hfr (D + 1) (by omega), fun b hb' => ⟨by have := (k8 b hb').1; omega, by have := (k8 b hb').1; omega, (hF.off b (k8 b hb').1 (k8 b hb').2.1 (k8 b hb').2.2.1).1, (hF.off b (k8 b hb').1 (k8 b hb').2.1 (k8 b hb').2.2.1).2, (k8 b hb').2.2.2⟩, by omega⟩, ?_, by have := h0.vars.lt; omega⟩
  · rw [hW, hD]; exact heap_alloc2_old _ _ _
  · rw [hW, hD]; exact heap_alloc2_new _ _ _
end Go.Proofs.YtconkienlcegaaaGreatDoor
