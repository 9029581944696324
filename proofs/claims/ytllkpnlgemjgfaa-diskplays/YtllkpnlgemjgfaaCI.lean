/- disk: what the calls leave of the names and the room. -/
import Derived.Test.YtllkpnlgemjgfaaCH
namespace Go.Proofs.Ytllkpnlgemjgfaa
open Go.RowKit Go.Maps Go.Joins
set_option linter.unusedSimpArgs false
set_option linter.unusedVariables false
theorem sync_wf {l : List Tf} {ro : Int} (hs : Srt l) (h : Wf l ro) (s : ByteArray) : Wf (lSync l s) ro := by
  unfold lSync
  split
  · split
    · rename_i p hp
      have := fT_mem hp
      exact Wf.set hs h this.1 this.2 _ _ (by have := h.sum; omega) ⟨by omega, by omega⟩
    · exact h
  · exact h
theorem sync_f {l : List Tf} {m : List UInt8} {s : ByteArray} (hne : m ≠ nb s) : fT (lSync l s) m = fT l m := by
  unfold lSync
  split
  · split
    · exact fT_set hne _ _
    · rfl
  · rfl
theorem rem_wf {l : List Tf} {ro : Int} (h : Wf l ro) (s : ByteArray) : Wf (lRem l s) ro := by
  unfold lRem
  split
  · split
    · exact h.del _
    · exact h
  · exact h
theorem rem_f {l : List Tf} {m : List UInt8} {s : ByteArray} (hne : m ≠ nb s) : fT (lRem l s) m = fT l m := by
  unfold lRem
  split
  · split
    · exact fT_del hne
    · rfl
  · rfl
theorem tru_wf {l : List Tf} {ro : Int} (hs : Srt l) (h : Wf l ro) (s : ByteArray) (x : Int) : Wf (lTru l s x) ro := by
  unfold lTru
  split
  · split
    · rename_i p hp
      split
      · exact h
      · rename_i hx
        have h1 := fT_mem hp
        have h2 := List.length_take (l := p.2.1) (i := x.toNat)
        refine Wf.set hs h h1.1 h1.2 _ _ (by have := h.sum; omega) ⟨by omega, by omega⟩
    · exact h
  · exact h
theorem tru_f {l : List Tf} {m : List UInt8} {s : ByteArray} {x : Int} (hne : m ≠ nb s) : fT (lTru l s x) m = fT l m := by
  unfold lTru
  split
  · split
    · split
      · rfl
      · exact fT_set hne _ _
    · rfl
  · rfl
theorem ren_wf {l : List Tf} {ro : Int} (h : Wf l ro) (s t : ByteArray) : Wf (lRen l s t) ro := by
  unfold lRen
  split
  · split
    · rename_i p hp
      split
      · rename_i hx
        have h1 := fT_mem hp
        have h2 := del_here h1.2 h1.1
        have h3 := len_del (delT l (nb s)) (nb t)
        have h4 := sum_del (nb t) (delT l (nb s))
        have h5 := h.sum
        have h6 := h.len
        have h7 := h.safe p h1.1
        refine Wf.put (h.del _) _ ?_ ?_ ?_
        · show (delT (delT l (nb s)) (nb t)).length ≤ 15
          omega
        · show (sumT (delT (delT l (nb s)) (nb t)) : Int) + p.2.1.length ≤ ro
          omega
        · exact h7
      · exact h
    · exact h
  · exact h
theorem ren_f {l : List Tf} {m : List UInt8} {s t : ByteArray} (hne : m ≠ nb s) (hnt : m ≠ nb t) : fT (lRen l s t) m = fT l m := by
  unfold lRen
  split
  · split
    · split
      · exact (fT_put hnt).trans (fT_del hne)
      · rfl
    · rfl
  · rfl
theorem app_wf {l : List Tf} {ro : Int} (hs : Srt l) (h : Wf l ro) (s : ByteArray) (bs : List Int) : Wf (lApp l ro s bs) ro := by
  unfold lApp
  split
  · split
    · exact h
    · rename_i hn
      split
      · exact h
      · rename_i hr
        split
        · rename_i p hp
          have h1 := fT_mem hp
          have h7 := h.safe p h1.1
          refine Wf.set hs h h1.1 h1.2 _ _ ?_ ?_
          · rw [List.length_append]; omega
          · rw [List.length_append]; omega
        · rename_i hp
          have h3 := len_del l (nb s)
          have h4 := sum_del (nb s) l
          have h6 : l.length < 16 := by
            rcases Nat.lt_or_ge l.length 16 with h8 | h8
            · exact h8
            · exact absurd ⟨hp, h8⟩ hn
          refine Wf.put h _ ?_ ?_ ?_
          · show (delT l (nb s)).length ≤ 15
            omega
          · show (sumT (delT l (nb s)) : Int) + bs.length ≤ ro
            omega
          · show (0 : Int) ≤ 0 ∧ (0 : Int) ≤ bs.length
            omega
  · exact h
theorem app_f {l : List Tf} {ro : Int} {m : List UInt8} {s : ByteArray} {bs : List Int} (hne : m ≠ nb s) : fT (lApp l ro s bs) m = fT l m := by
  unfold lApp
  split
  · split
    · rfl
    · split
      · rfl
      · split
        · exact fT_set hne _ _
        · exact fT_put hne
  · rfl
/-- What does makes of the files. -/
def lOp (l : List Tf) (ro : Int) (k x : Int) (s t : ByteArray) (bs : List Int) : List Tf :=
  if k = 1 then lApp l ro s bs else if k = 2 then lSync l s else if k = 3 then lTru l s x else if k = 4 then lRen l s t else if k = 5 then lRem l s else l
theorem lOp_wf {l : List Tf} {ro : Int} (hs : Srt l) (h : Wf l ro) (k x : Int) (s t : ByteArray) (bs : List Int) : Wf (lOp l ro k x s t bs) ro := by
  unfold lOp
  repeat' split
  · exact app_wf hs h s bs
  · exact sync_wf hs h s
  · exact tru_wf hs h s x
  · exact ren_wf h s t
  · exact rem_wf h s
  · exact h
theorem lOp_f {l : List Tf} {ro : Int} {m : List UInt8} {k x : Int} {s t : ByteArray} {bs : List Int} (hne : m ≠ nb s) (hnt : m ≠ nb t) : fT (lOp l ro k x s t bs) m = fT l m := by
  unfold lOp
  repeat' split
  · exact app_f hne
  · exact sync_f hne
  · exact tru_f hne
  · exact ren_f hne hnt
  · exact rem_f hne
  · rfl
/-- does, whichever call it is. -/
theorem does_any {w : World} {bd br : Nat} {S : DS} {R : RS} {ro : Int} (h : Two w bd br S R ro) (hst : S.steps < 4611686018427387903) (hrn : R.n < 4611686018427387903) (k x : Int) (hk : 1 ≤ k ∧ k ≤ 6) (s t : ByteArray) (hs : s.size ≤ 9223372036854775807) (ht : t.size ≤ 9223372036854775807) (va : Option Addr) (vc : Nat) (bs : List Int) (hv : BytesV w (.slice va bs.length vc) bs) (hv1 : ∀ b, dBlock (.slice va bs.length vc) bs = some b → b < w.heap.size ∧ S.role b = .none ∧ R.own b = 0) (hb63 : bs.length ≤ 4611686018427387904) (y : Int) (kv pv : Value) :
    Calls Try.prog 9 #[.pointer (some ⟨bd, 0, none⟩), .pointer (some ⟨br, 0, none⟩), .agg (opC k x s t (.slice va bs.length vc) y kv pv)] w fun e w' => e = .returned (.bool true) ∧ ∃ S' R', Two w' bd br S' R' ro ∧ F2 w w' S R S' R' ∧ absP S' = lOp (absP S) ro k x s t bs ∧ S'.steps ≤ S.steps + 1 ∧ R'.n ≤ R.n + 1 := by
  have hw := lOp_wf h.disk.srt h.pb.wf k x s t bs
  have hk2 : k = 1 ∨ k = 2 ∨ k = 3 ∨ k = 4 ∨ k = 5 ∨ k = 6 := by omega
  rcases hk2 with rfl | rfl | rfl | rfl | rfl | rfl
  · exact does1 h hst hrn x s t hs ht va vc bs hv hv1 hb63 y kv pv hw
  · exact does2 h hst hrn x s t hs ht va vc bs hv hv1 hb63 y kv pv hw
  · exact does3 h hst hrn x s t hs ht va vc bs hv hv1 hb63 y kv pv hw
  · exact does4 h hst hrn x s t hs ht va vc bs hv hv1 hb63 y kv pv hw
  · exact does5 h hst hrn x s t hs ht va vc bs hv hv1 hb63 y kv pv hw
  · exact does6 h hst hrn x s t hs ht va vc bs hv hv1 hb63 y kv pv hw
end Go.Proofs.Ytllkpnlgemjgfaa
