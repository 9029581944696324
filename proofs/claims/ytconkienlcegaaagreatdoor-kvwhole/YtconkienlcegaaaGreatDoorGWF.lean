/- CB, CC, CE, CI, CK, WE, WF -/
import Derived.Test.YtconkienlcegaaaGreatDoorGCA
import Derived.Test.YtconkienlcegaaaGreatDoorGDI
namespace Go.Proofs.YtconkienlcegaaaGreatDoor
open Go.RowKit Go.Maps Go.Joins
set_option linter.unusedSimpArgs false
set_option linter.unusedVariables false
def fT (l : List Tf) (n : List UInt8) : Option Tf := l.find? fun p => p.1 == n
theorem fT_absP (S : DS) (n : List UInt8) : fT (absP S) n = (look S.fs n).map fun _ => ((n, (S.fl n).bs, (S.fl n).safe) : Tf) := by
 unfold fT absP look; rw [List.find?_map, Option.map_map]; cases h : S.fs.find? ((fun p : Tf => p.1 == n) ∘ fun p => (p.1, (S.fl p.1).bs, (S.fl p.1).safe)) with
 | none =>
   have : S.fs.find? (fun p => p.1 == n) = none := h; rw [this]; rfl
 | some p =>
   have h1 : S.fs.find? (fun p => p.1 == n) = some p := h; have h2 : p.1 = n := by simpa using List.find?_some h1
   rw [h1]; simp [h2]
theorem fT_mem {l : List Tf} {n : List UInt8} {p : Tf} (h : fT l n = some p) : p ∈ l ∧ p.1 = n := ⟨List.mem_of_find?_eq_some h, by simpa using List.find?_some h⟩
theorem fT_set {l : List Tf} {n m : List UInt8} (hne : m ≠ n) (b : List Int) (s : Int) : fT (setT l n b s) m = fT l m := by
 unfold fT setT; induction l with
 | nil => rfl
 | cons a r ih =>
   rw [List.map_cons]; by_cases e : a.1 = n
   · rw [if_pos e, List.find?_cons_of_neg (by simpa using fun h => hne h.symm), List.find?_cons_of_neg (by simpa [e] using fun h => hne h.symm)]
     exact ih
   · rw [if_neg e]
     by_cases e2 : a.1 = m
     · rw [List.find?_cons_of_pos (by simpa using e2), List.find?_cons_of_pos (by simpa using e2)]
     · rw [List.find?_cons_of_neg (by simpa using e2), List.find?_cons_of_neg (by simpa using e2)]
       exact ih
theorem fT_del {l : List Tf} {n m : List UInt8} (hne : m ≠ n) : fT (delT l n) m = fT l m := by
 unfold fT delT; induction l with
 | nil => rfl
 | cons a r ih =>
   by_cases e : a.1 = n
   · rw [List.filter_cons_of_neg (by simpa using e), List.find?_cons_of_neg (by simpa [e] using fun h => hne h.symm)]
     exact ih
   · rw [List.filter_cons_of_pos (by simpa using e)]
     by_cases e2 : a.1 = m
     · rw [List.find?_cons_of_pos (by simpa using e2), List.find?_cons_of_pos (by simpa using e2)]
     · rw [List.find?_cons_of_neg (by simpa using e2), List.find?_cons_of_neg (by simpa using e2)]
       exact ih
theorem fT_ins {x : Tf} {m : List UInt8} (hne : m ≠ x.1) : ∀ l : List Tf, fT (insT x l) m = fT l m
 | [] => by unfold fT insT; rw [List.find?_cons_of_neg (by simpa using fun h => hne h.symm)]
 | y :: r => by
   have ih := fT_ins hne r; unfold fT at ih ⊢; unfold insT; split
   · rw [List.find?_cons_of_neg (by simpa using fun h => hne h.symm)]
   · by_cases e2 : y.1 = m
     · rw [List.find?_cons_of_pos (by simpa using e2), List.find?_cons_of_pos (by simpa using e2)]
     · rw [List.find?_cons_of_neg (by simpa using e2), List.find?_cons_of_neg (by simpa using e2)]
       exact ih
theorem fT_put {l : List Tf} {x : Tf} {m : List UInt8} (hne : m ≠ x.1) : fT (putT l x) m = fT l m := by
 unfold putT; rw [fT_ins hne, fT_del hne]
/-- What a list of files keeps to. -/
structure Wf (l : List Tf) (room : Int) : Prop where
 len : l.length ≤ 16
 sum : (sumT l : Int) ≤ room
 safe : ∀ p ∈ l, 0 ≤ p.2.2 ∧ p.2.2 ≤ p.2.1.length
theorem len_ins (x : Tf) : ∀ l : List Tf, (insT x l).length = l.length + 1
 | [] => rfl
 | y :: r => by
   unfold insT; split
   · rfl
   · simp [len_ins x r]
theorem sum_ins (x : Tf) : ∀ l : List Tf, sumT (insT x l) = sumT l + x.2.1.length
 | [] => by simp [insT, sumT]
 | y :: r => by
   unfold insT; split
   · simp only [sumT]; omega
   · simp only [sumT, sum_ins x r]; omega
theorem mem_ins {x p : Tf} : ∀ {l : List Tf}, p ∈ insT x l → p = x ∨ p ∈ l
 | [], h => by simp [insT] at h; exact Or.inl h
 | y :: r, h => by
   unfold insT at h; split at h
   · exact List.mem_cons.1 h
   · rcases List.mem_cons.1 h with h | h
     · exact Or.inr (by rw [h]; exact List.mem_cons_self ..)
     · rcases mem_ins h with h | h
       · exact Or.inl h
       · exact Or.inr (List.mem_cons_of_mem _ h)
theorem len_del (l : List Tf) (n : List UInt8) : (delT l n).length ≤ l.length := List.length_filter_le _ _
theorem sum_del (n : List UInt8) : ∀ l : List Tf, sumT (delT l n) ≤ sumT l
 | [] => Nat.le_refl _
 | a :: r => by
   have ih := sum_del n r; unfold delT at ih ⊢; by_cases e : a.1 = n
   · rw [List.filter_cons_of_neg (by simpa using e)]
     simp only [sumT]; omega
   · rw [List.filter_cons_of_pos (by simpa using e)]
     simp only [sumT]; omega
theorem del_here {n : List UInt8} {p : Tf} (hn : p.1 = n) : ∀ {l : List Tf}, p ∈ l → (delT l n).length + 1 ≤ l.length ∧ sumT (delT l n) + p.2.1.length ≤ sumT l
 | [], h => by cases h
 | a :: r, h => by
   by_cases e : a.1 = n
   · have e1 : delT (a :: r) n = delT r n := by unfold delT; rw [List.filter_cons_of_neg (by simpa using e)]
     rw [e1]; have h1 := len_del r n; have h2 := sum_del n r; rcases List.mem_cons.1 h with rfl | h
     · simp only [List.length_cons, sumT]; omega
     · have := del_here hn h
       simp only [List.length_cons, sumT]; omega
   · have e1 : delT (a :: r) n = a :: delT r n := by unfold delT; rw [List.filter_cons_of_pos (by simpa using e)]
     rw [e1]; rcases List.mem_cons.1 h with rfl | h
     · exact absurd hn e
     · have := del_here hn h
       simp only [List.length_cons, sumT]; omega
theorem Wf.del {l : List Tf} {room : Int} (h : Wf l room) (n : List UInt8) : Wf (delT l n) room :=
 ⟨Nat.le_trans (len_del l n) h.len, by have := sum_del n l; have := h.sum; omega, fun p hp => h.safe p (List.mem_filter.1 hp).1⟩
theorem Wf.put {l : List Tf} {room : Int} (h : Wf l room) (x : Tf) (hl : (delT l x.1).length ≤ 15) (hs : (sumT (delT l x.1) : Int) + x.2.1.length ≤ room) (hx : 0 ≤ x.2.2 ∧ x.2.2 ≤ x.2.1.length) : Wf (putT l x) room := by
 unfold putT; refine ⟨by rw [len_ins]; omega, by rw [sum_ins]; simp; omega, fun p hp => ?_⟩; rcases mem_ins hp with rfl | hp
 · exact hx
 · exact h.safe p (List.mem_filter.1 hp).1
theorem Wf.set {l : List Tf} {room : Int} (hsrt : Srt l) (h : Wf l room) {n : List UInt8} {p : Tf} (hp : p ∈ l) (hn : p.1 = n) (b : List Int) (s : Int) (hsum : (sumT l : Int) + b.length ≤ room + p.2.1.length) (hx : 0 ≤ s ∧ s ≤ b.length) : Wf (setT l n b s) room := by
 rw [← putT_here (b := b) (s := s) hsrt ⟨p, hp, hn⟩]; have h1 := del_here hn hp; have h2 := h.len; exact h.put (n, b, s) (by show (delT l n).length ≤ 15; omega) (by show (sumT (delT l n) : Int) + b.length ≤ room; omega) hx
abbrev nb (s : ByteArray) : List UInt8 := s.data.toList
def eFind (l : List Tf) (s : ByteArray) : Int := if nameB s then (if (fT l (nb s)).isSome then 0 else 33) else 1
def lSync (l : List Tf) (s : ByteArray) : List Tf := if nameB s then (match fT l (nb s) with | some p => setT l (nb s) p.2.1 p.2.1.length | none => l) else l
def lRem (l : List Tf) (s : ByteArray) : List Tf := if nameB s then (if (fT l (nb s)).isSome then delT l (nb s) else l) else l
def eTru (l : List Tf) (s : ByteArray) (x : Int) : Int := if nameB s then (match fT l (nb s) with | some p => if x < 0 ∨ (p.2.1.length : Int) < x then 1 else 0 | none => 33) else 1
def lTru (l : List Tf) (s : ByteArray) (x : Int) : List Tf := if nameB s then (match fT l (nb s) with | some p => if x < 0 ∨ (p.2.1.length : Int) < x then l else setT l (nb s) (p.2.1.take x.toNat) x | none => l) else l
def eApp (l : List Tf) (room : Int) (s : ByteArray) (bs : List Int) : Int := if nameB s then (if fT l (nb s) = none ∧ 16 ≤ l.length then 3 else if room < (sumT l : Int) + bs.length then 30 else 0) else 1
def lApp (l : List Tf) (room : Int) (s : ByteArray) (bs : List Int) : List Tf := if nameB s then (if fT l (nb s) = none ∧ 16 ≤ l.length then l else if room < (sumT l : Int) + bs.length then l else (match fT l (nb s) with | some p => setT l (nb s) (p.2.1 ++ bs) p.2.2 | none => putT l (nb s, bs, 0))) else l
theorem okN1 (s : ByteArray) : okN [s] = nameB s := by simp [okN]
theorem fT_none {S : DS} {n : List UInt8} (h : look S.fs n = none) : fT (absP S) n = none := by rw [fT_absP, h]; rfl
theorem fT_some {S : DS} {n : List UInt8} {g : Nat} (h : look S.fs n = some g) : fT (absP S) n = some (n, (S.fl n).bs, (S.fl n).safe) := by rw [fT_absP, h]; rfl
theorem findV1 {S : DS} {ns : List ByteArray} (h : stepE S ns = 0) : findV S ns = look S.fs (ns.headD ByteArray.empty).data.toList := by simp [findV, h]
theorem nn (s : ByteArray) : (nameB s && nameB s) = nameB s := by cases nameB s <;> rfl
theorem sync_wf {l : List Tf} {ro : Int} (hs : Srt l) (h : Wf l ro) (s : ByteArray) : Wf (lSync l s) ro := by
 unfold lSync; split
 · split
   · rename_i p hp
     have := fT_mem hp; exact Wf.set hs h this.1 this.2 _ _ (by have := h.sum; omega) ⟨by omega, by omega⟩
   · exact h
 · exact h
theorem tru_wf {l : List Tf} {ro : Int} (hs : Srt l) (h : Wf l ro) (s : ByteArray) (x : Int) : Wf (lTru l s x) ro := by
 unfold lTru; split
 · split
   · rename_i p hp
     split
     · exact h
     · rename_i hx
       have h1 := fT_mem hp; have h2 := List.length_take (l := p.2.1) (i := x.toNat); refine Wf.set hs h h1.1 h1.2 _ _ (by have := h.sum; omega) ⟨by omega, by omega⟩
   · exact h
 · exact h
theorem app_wf {l : List Tf} {ro : Int} (hs : Srt l) (h : Wf l ro) (s : ByteArray) (bs : List Int) : Wf (lApp l ro s bs) ro := by
 unfold lApp; split
 · split
   · exact h
   · rename_i hn
     split
     · exact h
     · rename_i hr
       split
       · rename_i p hp
         have h1 := fT_mem hp; have h7 := h.safe p h1.1; refine Wf.set hs h h1.1 h1.2 _ _ ?_ ?_
         · rw [List.length_append]; omega
         · rw [List.length_append]; omega
       · rename_i hp
         have h3 := len_del l (nb s); have h4 := sum_del (nb s) l; have h6 : l.length < 16 := by
          rcases Nat.lt_or_ge l.length 16 with h8 | h8
          · exact h8
          · exact absurd ⟨hp, h8⟩ hn
         refine Wf.put h _ ?_ ?_ ?_
         · show (delT l (nb s)).length ≤ 15
           omega
         · show (sumT (delT l (nb s)) : Int) + bs.length ≤ ro
           omega
         · show (0 : Int) ≤ 0 ∧ (0 : Int) ≤ bs.length
           omega
 · exact h
theorem BytesV.lt {w : World} {v : Value} {bs : List Int} (h : BytesV w v bs) : ∀ b, dBlock v bs = some b → b < w.heap.size := by
 intro b hb; cases bs with
 | nil => simp [dBlock] at hb
 | cons x bs =>
   rcases h with ⟨_, h0⟩ | ⟨ad, cap, rfl, hc⟩
   · cases h0
   · have h1 := hc 0 (.int .u8 x) rfl
     have h2 := cell_lt h1; have h3 : (ad.add 0).block = ad.block := by unfold Addr.add; split <;> rfl
     have h4 : ad.block = b := by simpa [dBlock, Value.ownBlock] using hb
     omega
theorem IntsV.lt {w : World} {v : Value} {ks : List Int} (h : IntsV w v ks) : ∀ b, dBlock v ks = some b → b < w.heap.size := by
 intro b hb; cases ks with
 | nil => simp [dBlock] at hb
 | cons x ks =>
   obtain ⟨a, cap, rfl, hc⟩ := h; obtain ⟨b', o, rfl, h1⟩ := hc 0 x rfl; have h2 := cell_lt h1; have h4 : b' = b := by simpa [dBlock, Value.ownBlock] using hb
   have h5 : b' < w.heap.size := h2; omega
structure LS where
 bd : Nat
 nm : ByteArray
 most : Int
 fv : Value
 fs : List Int
 rv : Value
 rs : List (Value × List Int)
 size : Int
 uns : Bool
 own : Nat → Nat
def vI (l : List Int) : List Value := l.map (Value.int .i64)
def lC (L : LS) : Array Value := #[.pointer (some ⟨L.bd, 0, none⟩), .string L.nm, .int .i64 L.most, L.fv, L.rv, .int .i64 L.size, .bool L.uns]
/-- Block bl is a log. -/
structure LogIs (w : World) (bl : Nat) (L : LS) : Prop where
 log : w.heap[bl]? = some (.cells (lC L) 141)
 rl : L.own bl = 1
 files : w.ownsRow 0 3 1 L.fv L.fs.length (vI L.fs)
 rf : ∀ b, L.fv.ownBlock = some b → L.own b = 2
 recs : w.ownsRow 0 23 1 L.rv L.rs.length (L.rs.map (·.1))
 rr : ∀ b, L.rv.ownBlock = some b → L.own b = 3
 each : ∀ p ∈ L.rs, BytesV w p.1 p.2
 re : ∀ p ∈ L.rs, ∀ b, dBlock p.1 p.2 = some b → L.own b = 4
 fresh : ∀ b, w.heap.size ≤ b → L.own b = 0
theorem BytesV.keep {w w' : World} {v : Value} {bs : List Int} (h : BytesV w v bs) (hk : ∀ b, dBlock v bs = some b → w'.heap[b]? = w.heap[b]?) : BytesV w' v bs := by
 rcases h with h | ⟨ad, cap, rfl, hc⟩
 · exact Or.inl h
 · refine Or.inr ⟨ad, cap, rfl, fun j u hu => ?_⟩
   have hb : (ad.add j).block = ad.block := by unfold Addr.add; split <;> rfl
   refine (World.cell?_of_block (a := ad.add j) ?_).trans (hc j u hu); rw [hb]; exact hk _ (by rw [dBlock_vB hu]; rfl)
theorem LogIs.kept {w w' : World} {bl : Nat} {L : LS} (h : LogIs w bl L) (hk : ∀ b, L.own b ≠ 0 → w'.heap[b]? = w.heap[b]?) (hs : w.heap.size ≤ w'.heap.size) : LogIs w' bl L where
 log := (hk bl (by rw [h.rl]; simp)).trans h.log
 rl := h.rl
 files := ownsRow_heap h.files (fun b hb => hk b (by rw [h.rf b hb]; simp))
 rf := h.rf
 recs := ownsRow_heap h.recs (fun b hb => hk b (by rw [h.rr b hb]; simp))
 rr := h.rr
 each := fun p hp => (h.each p hp).keep (fun b hb => hk b (by rw [h.re p hp b hb]; simp))
 re := h.re
 fresh := fun b hb => h.fresh b (by omega)
theorem LogIs.lt {w : World} {bl : Nat} {L : LS} (h : LogIs w bl L) : bl < w.heap.size := heap_lt h.log
theorem LogIs.own_lt {w : World} {bl b : Nat} {L : LS} (h : LogIs w bl L) (hb : L.own b ≠ 0) : b < w.heap.size := by
 rcases Nat.lt_or_ge b w.heap.size with h1 | h1
 · exact h1
 · exact absurd (h.fresh b h1) hb
theorem LogIs.below {w w' : World} {bl : Nat} {L : LS} (h : LogIs w bl L) (hb : Below w.heap.size w w') : LogIs w' bl L := h.kept (fun b hr => hb.block b (h.own_lt hr)) hb.size
/-- What lies beside a log stays. -/
structure LFr (w w' : World) (L L' : LS) : Prop where
 os : w'.os = w.os
 tape : w'.tape = w.tape
 output : w'.output = w.output
 size : w.heap.size ≤ w'.heap.size
 block : ∀ b, b < w.heap.size → L.own b = 0 → w'.heap[b]? = w.heap[b]?
 own : ∀ b, b < w.heap.size → L.own b = 0 → L'.own b = 0
def fst (L : LS) : Int := L.fs.headD 0
def endL (L : LS) : Int := fst L + L.rs.length
/-- Numbers as they may be. -/
def LN (L : LS) : Prop := (∀ x ∈ L.fs, 0 ≤ x ∧ x < 1000000000) ∧ L.rs.length ≤ 1099511627776
theorem LN.fst {L : LS} (h : LN L) : 0 ≤ fst L ∧ fst L < 1000000000 := by
 unfold Proofs.YtconkienlcegaaaGreatDoor.fst; cases hf : L.fs with
 | nil => simp
 | cons x r => exact h.1 x (by rw [hf]; simp)
theorem vI_length (l : List Int) : (vI l).length = l.length := by simp [vI]
theorem LogIs.file {w : World} {bl : Nat} {L : LS} (h : LogIs w bl L) : ∃ a c, L.fv = .slice a L.fs.length c ∧ ∀ j x, L.fs[j]? = some x → ∃ g, a = some ⟨g, 0, none⟩ ∧ w.cell? ⟨g, j, none⟩ = some (.int .i64 x) := by
 obtain ⟨a, c, e⟩ := row_form h.files; refine ⟨a, c, e, fun j x hj => ?_⟩; have hl := (List.getElem?_eq_some_iff.1 hj).1; rcases h.files.2 with ⟨_, h0⟩ | ⟨g, cap', cur, e', _⟩
 · omega
 · rw [e] at e'
   injection e' with e1 e2 e3
   subst e1; have h0 := h.files.cells (g := g) (by rw [e]; rfl) j (.int .i64 x) (by unfold vI; rw [List.getElem?_map, hj]; rfl); rw [Addr.add_lit, Nat.zero_add] at h0; exact ⟨g, rfl, h0⟩
set_option maxHeartbeats 1000000 in
/-- First -/
theorem first_any {w : World} {bl : Nat} {L : LS} (h : LogIs w bl L) : Calls Tryz.prog 41 #[.pointer (some ⟨bl, 0, none⟩)] w fun e w' => e = .returned (.int .i64 (fst L)) ∧ w' = w := by
 have c3 : w.cell? ⟨bl, 3, none⟩ = some L.fv := by rw [cell_of_block h.log]; rfl
 obtain ⟨a, c, e, hc⟩ := h.file; rw [e] at c3; cases hf : L.fs with
 | nil =>
   rw [hf] at c3; have HF : Hid (fst L = 0) := by show fst L = 0; unfold fst; rw [hf]; rfl
   clear h hc hf e; go_enter Tryz.func41, Tryz.ntmps41; go_wp2; go_ret; rw [HF.out]; exact ⟨rfl, rfl⟩
 | cons x r =>
   obtain ⟨g, rfl, c0⟩ := hc 0 x (by rw [hf]; rfl); rw [hf] at c3; have HF : Hid (fst L = x) := by show fst L = x; unfold fst; rw [hf]; rfl
   have hl : ((x :: r).length : Int) ≠ 0 := by rw [List.length_cons]; omega
   have hl2 : (0 : Int) < (x :: r).length := by rw [List.length_cons]; omega
   have hl3 : (((x :: r).length : Int) == 0) = false := by simpa using hl
   generalize (x :: r).length = n at c3 hl hl2 hl3; clear h hc hf e; go_enter Tryz.func41, Tryz.ntmps41; go_wp2; go_ret; rw [HF.out]; exact ⟨rfl, rfl⟩
theorem LogIs.drewN {w : World} {bl : Nat} {L : LS} (h : LogIs w bl L) (n : Nat) : LogIs (w.drewN n) bl L := h.kept (fun _ _ => rfl) (Nat.le_refl _)
set_option maxHeartbeats 1000000 in
/-- End -/
theorem end_any {w : World} {bl : Nat} {L : LS} (h : LogIs w bl L) (hn : LN L) : Calls Tryz.prog 42 #[.pointer (some ⟨bl, 0, none⟩)] w fun e w' => e = .returned (.int .i64 (endL L)) ∧ ∃ m, w' = w.drewN m := by
 have c4 : w.cell? ⟨bl, 4, none⟩ = some L.rv := by rw [cell_of_block h.log]; rfl
 obtain ⟨a, c, e⟩ := row_form h.recs; rw [e] at c4; have hf := fun n => first_any (h.drewN n)
 have HF : Hid _ := hf; have hb := hn.fst; have hb2 := hn.2; have HE : Hid (endL L = fst L + L.rs.length) := rfl; clear h hf e hn; generalize fst L = F at *; go_enter Tryz.func42, Tryz.ntmps42; go_wp2_with fail; go_quiet (first | (go_at_call 41; refine Calls.quiet_of_same (HF.out _))); go_wp2; go_ret; rw [HE.out]; exact ⟨rfl, _, rfl⟩
set_option maxHeartbeats 1000000 in
/-- last -/
theorem last_any {w : World} {bl : Nat} {L : LS} (h : LogIs w bl L) {x : Int} (hx : L.fs.getLast? = some x) : Calls Tryz.prog 115 #[.pointer (some ⟨bl, 0, none⟩)] w fun e w' => e = .returned (.int .i64 x) ∧ ∃ m, w' = w.drewN m := by
 have c3 : w.cell? ⟨bl, 3, none⟩ = some L.fv := by rw [cell_of_block h.log]; rfl
 obtain ⟨a, c, e, hc⟩ := h.file; rw [e] at c3; rw [List.getLast?_eq_getElem?] at hx; obtain ⟨g, rfl, c0⟩ := hc _ x hx; have hl := (List.getElem?_eq_some_iff.1 hx).1; have hm : L.fs.length ≤ 9223372036854775807 := by
  rcases h.files.2 with ⟨_, h0⟩ | ⟨g', cap', cur, _, _, _, h1, h2, _⟩
  · omega
  · unfold maxLen at h2
    omega
 generalize L.fs.length = n at *; have h1 : 0 < n := by omega
 obtain ⟨k, rfl⟩ : ∃ k, n = k + 1 := ⟨n - 1, by omega⟩
 rw [Nat.add_sub_cancel] at c0; have q1 : (k : Int) < ((k + 1 : Nat) : Int) := by omega
 clear h hc hx e hl h1; go_enter Tryz.func115, Tryz.ntmps115; go_wp2_with fail; go_quiet (fail); go_wp2; go_ret; exact ⟨rfl, _, rfl⟩
theorem info3b : (Tryz.prog.info? 3).map (fun i => (i.zero, i.size, i.bytes)) = some (some (.int .i64 0), 1, 8) := by kernel_rfl
theorem info3c : ∃ i, Tryz.prog.info? 3 = some i ∧ i.zero = some (.int .i64 0) ∧ i.size = 1 ∧ i.bytes = 8 := by
 have := info3b; cases h : Tryz.prog.info? 3 with
 | none => rw [h] at this; cases this
 | some i =>
   rw [h] at this; simp at this; exact ⟨i, rfl, this.1, this.2.1, this.2.2⟩
theorem info36b : (Tryz.prog.info? 23).map (fun i => (i.zero, i.size, i.bytes)) = some (some (.slice none 0 0), 1, 24) := by kernel_rfl
theorem info36c : ∃ i, Tryz.prog.info? 23 = some i ∧ i.zero = some (.slice none 0 0) ∧ i.size = 1 ∧ i.bytes = 24 := by
 have := info36b; cases h : Tryz.prog.info? 23 with
 | none => rw [h] at this; cases this
 | some i =>
   rw [h] at this; simp at this; exact ⟨i, rfl, this.1, this.2.1, this.2.2⟩
theorem vI_append (a b : List Int) : vI (a ++ b) = vI a ++ vI b := by simp [vI]
/-- append(l, n) of a number. -/
theorem wpList_append_i {w : World} {ops : Array Oper} {rest : List Oper} {o : Oper} {a : Act} {Q : Exit → Act → World → Prop} (hgd : o.guard = none) (s x : Operand)
 (ho : o.op = .call { callee := .builtin .append, args := #[s, x], argTypes := #[38, 38] }) (base : Nat)
 (v : Value) (l : List Int) (n : Int) (hs : a.eval s = v) (hown : w.ownsRow base 3 1 v l.length (vI l)) (g : Nat) (hg : w.heap[g]? = some (.cells #[.int .i64 n] 3)) (hx : a.eval x = .slice (some ⟨g, 0, none⟩) 1 1)
 (hl : l.length ≤ 1000000000000) (hbase : base ≤ w.heap.size)
 (h : ∀ v' w', w'.ownsRow base 3 1 v' (l ++ [n]).length (vI (l ++ [n])) → w.grownBy w' v.ownBlock → (v'.ownBlock = v.ownBlock ∨ v'.ownBlock = some w.heap.size) → wpList Tryz.prog ops Q rest (a.put o.dst v') w') : wpList Tryz.prog ops Q (o :: rest) a w := by
 obtain ⟨i0, hi, hz0, hz1, hz2⟩ := info3c; refine wpList_append_own_at w hgd s x 38 ho base 3 i0 _ 1 8 Tryz.underlying38 hi hz0 hz1 hz2 rfl (by decide) v l.length (vI l) hs hown ⟨g, 0, none⟩ 1 1 (vI [n]) hx rfl (fun j u hu => ?_) (fun u hu => by simp [vI] at hu; subst hu; rfl) (by unfold maxLen; omega) (by omega) hbase (fun v' w' a b _ d => h v' w' ?_ b d)
 · rw [Addr.add_lit, Nat.zero_add, cell_of_block hg]
   simpa [vI] using hu
 · rw [List.length_append, vI_append]
   exact a
/-- append(l, b) of a slice. -/
theorem wpList_append_v {w : World} {ops : Array Oper} {rest : List Oper} {o : Oper} {a : Act} {Q : Exit → Act → World → Prop} (hgd : o.guard = none) (s x : Operand)
 (ho : o.op = .call { callee := .builtin .append, args := #[s, x], argTypes := #[74, 74] }) (base : Nat)
 (v : Value) (l : List Value) (n : Value) (hn : ∃ a l c, n = .slice a l c) (hs : a.eval s = v) (hown : w.ownsRow base 23 1 v l.length l) (g : Nat) (hg : w.heap[g]? = some (.cells #[n] 23)) (hx : a.eval x = .slice (some ⟨g, 0, none⟩) 1 1)
 (hl : l.length ≤ 1099511627776) (hbase : base ≤ w.heap.size)
 (h : ∀ v' w', w'.ownsRow base 23 1 v' (l ++ [n]).length (l ++ [n]) → w.grownBy w' v.ownBlock → (v'.ownBlock = v.ownBlock ∨ v'.ownBlock = some w.heap.size) → wpList Tryz.prog ops Q rest (a.put o.dst v') w') : wpList Tryz.prog ops Q (o :: rest) a w := by
 obtain ⟨i0, hi, hz0, hz1, hz2⟩ := info36c; refine wpList_append_own_at w hgd s x 74 ho base 23 i0 _ 1 24 Tryz.underlying74 hi hz0 hz1 hz2 rfl (by decide) v l.length l hs hown ⟨g, 0, none⟩ 1 1 [n] hx rfl (fun j u hu => ?_) (fun u hu => by simp at hu; subst hu; obtain ⟨_, _, _, rfl⟩ := hn; rfl) (by unfold maxLen; omega) (by omega) hbase (fun v' w' a b _ d => h v' w' ?_ b d)
 · rw [Addr.add_lit, Nat.zero_add, cell_of_block hg]
   simpa using hu
 · rw [List.length_append]
   exact a
/-- A log whose files have turned. -/
def setF (L : LS) (v : Value) (l : List Int) (z : Int) : LS := { L with fv := v, fs := l, size := z, own := fun b => if v.ownBlock = some b then 2 else L.own b }
theorem begin_end {w w2 : World} {bl : Nat} {L : LS} {v : Value} {l : List Int} {z : Int} (h : LogIs w bl L) (hg : w.grownBy w2 L.fv.ownBlock) (ho : w2.ownsRow 0 3 1 v l.length (vI l)) (ha : v.ownBlock = L.fv.ownBlock ∨ ∀ b, v.ownBlock = some b → w.heap.size ≤ b) :
 LogIs ((w2.setCell ⟨bl, 3, none⟩ v).setCell ⟨bl, 5, none⟩ (.int .i64 z)) bl (setF L v l z) ∧ LFr w ((w2.setCell ⟨bl, 3, none⟩ v).setCell ⟨bl, 5, none⟩ (.int .i64 z)) L (setF L v l z) := by
 have hlt := h.lt; have hfne : ∀ b, L.fv.ownBlock = some b → b ≠ bl := fun b hb e => by have := h.rf b hb; rw [e, h.rl] at this; cases this
 have hvne : ∀ b, v.ownBlock = some b → b ≠ bl := fun b hb => by
  rcases ha with ha | ha
  · exact hfne b (ha ▸ hb)
  · have := ha b hb; omega
 have hk : ∀ b, b ≠ bl → ((w2.setCell ⟨bl, 3, none⟩ v).setCell ⟨bl, 5, none⟩ (.int .i64 z)).heap[b]? = w2.heap[b]? := fun b hb => (Below.heap_setCell _ _ _ _ hb).trans (Below.heap_setCell _ _ _ _ hb)
 have hold : ∀ b, L.own b ≠ 0 → L.own b ≠ 2 → (setF L v l z).own b = L.own b := fun b h0 h2 => if_neg (fun hc => by
  rcases ha with ha | ha
  · exact h2 (h.rf b (ha ▸ hc))
  · have := ha b hc; have := h.own_lt h0; omega)
 have hsame : ∀ b, L.own b ≠ 0 → L.own b ≠ 1 → L.own b ≠ 2 → ((w2.setCell ⟨bl, 3, none⟩ v).setCell ⟨bl, 5, none⟩ (.int .i64 z)).heap[b]? = w.heap[b]? := fun b h0 h1 h2 => (hk b (fun e => h1 (by rw [e]; exact h.rl))).trans (hg.block b (h.own_lt h0) (fun e => h2 (h.rf b e.symm)))
 have hb2 : w2.heap[bl]? = some (.cells (lC L) 141) := (hg.block bl hlt (fun e => hfne bl e.symm rfl)).trans h.log; refine ⟨⟨?_, ?_, ?_, fun b hb => if_pos hb, ?_, fun b hb => ?_, fun p hp => ?_, fun p hp b hb => ?_, fun b hb => ?_⟩, ?_⟩
 · rw [block_setCell (block_setCell hb2 _) _]
   simp [lC, setF]
 · rw [hold bl (by rw [h.rl]; simp) (by rw [h.rl]; simp)]
   exact h.rl
 · exact ownsRow_heap ho (fun b hb => hk b (hvne b hb))
 · exact ownsRow_heap h.recs (fun b hb => hsame b (by rw [h.rr b hb]; simp) (by rw [h.rr b hb]; simp) (by rw [h.rr b hb]; simp))
 · rw [hold b (by rw [h.rr b hb]; simp) (by rw [h.rr b hb]; simp)]
   exact h.rr b hb
 · exact (h.each p hp).keep (fun b hb => hsame b (by rw [h.re p hp b hb]; simp) (by rw [h.re p hp b hb]; simp) (by rw [h.re p hp b hb]; simp))
 · rw [hold b (by rw [h.re p hp b hb]; simp) (by rw [h.re p hp b hb]; simp)]
   exact h.re p hp b hb
 · have hb' : w2.heap.size ≤ b := by simpa using hb
   show (if v.ownBlock = some b then 2 else L.own b) = 0; rw [if_neg (fun hc => by have := (ho.lt b hc).2; omega)]; exact h.fresh b (by have := hg.size; omega)
 · refine ⟨hg.os, hg.tape, hg.output, by simpa using hg.size, fun b h0 h1 => ?_, fun b h0 h1 => ?_⟩
   · exact (hk b (fun e => by rw [e, h.rl] at h1; cases h1)).trans (hg.block b h0 (fun e => by rw [h.rf b e.symm] at h1; cases h1))
   · show (if v.ownBlock = some b then 2 else L.own b) = 0
     rw [if_neg (fun hc => by
      rcases ha with ha | ha
      · rw [h.rf b (ha ▸ hc)] at h1; cases h1
      · have := ha b hc; omega)]
     exact h1
set_option maxRecDepth 100000 in
set_option maxHeartbeats 4000000 in
/-- begin -/
theorem begin_any {w : World} {bl : Nat} {L : LS} (h : LogIs w bl L) (hl : L.fs.length ≤ 1000000000000) (n : Int) :
 Calls Tryz.prog 107 #[.pointer (some ⟨bl, 0, none⟩), .int .i64 n] w fun e w' => e = .returned (.tuple #[]) ∧ ∃ v, LogIs w' bl (setF L v (L.fs ++ [n]) 0) ∧ LFr w w' L (setF L v (L.fs ++ [n]) 0) := by
 have c3 : w.cell? ⟨bl, 3, none⟩ = some L.fv := by rw [cell_of_block h.log]; rfl
 obtain ⟨fa, fc, hfv⟩ := row_form h.files; rw [hfv] at c3; have HH : Hid (LogIs w bl L ∧ L.fv = .slice fa L.fs.length fc) := ⟨h, hfv⟩
 have hlt := h.lt; clear h hfv; go_enter Tryz.func107, Tryz.ntmps107; go_wp2_with (first
  | (at_builtin
     have hB := heap_alloc_new w (.cells #[.int .i64 n] 3); have ho0 := HH.out.1.files.alloc (.cells #[.int .i64 n] 3); rw [HH.out.2] at ho0; refine wpList_append_i rfl _ _ rfl 0 (.slice fa L.fs.length fc) L.fs n rfl ho0 w.heap.size hB rfl hl (Nat.zero_le _) ?_; intro v2 w2 ho hg ha; have hg' : w.grownBy w2 L.fv.ownBlock := by rw [HH.out.2]; exact (World.grownBy_alloc w _ _).trans hg
     have ha' : v2.ownBlock = L.fv.ownBlock ∨ ∀ b, v2.ownBlock = some b → w.heap.size ≤ b := by
      rcases ha with ha | ha
      · exact Or.inl (by rw [HH.out.2]; exact ha)
      · exact Or.inr (fun b hb => by rw [ha] at hb; injection hb with hb; simp at hb; omega)
     obtain ⟨va, vc, hv2⟩ := row_form ho; rw [show (L.fs ++ [n]).length = L.fs.length + 1 from by simp] at hv2; have hlb : w2.heap[bl]? = some (.cells (lC L) 141) := (hg'.block bl hlt (fun e => by have := HH.out.1.rf bl e.symm; rw [HH.out.1.rl] at this; cases this)).trans HH.out.1.log; have d3 : w2.cell? ⟨bl, 3, none⟩ = some (.slice fa L.fs.length fc) := by rw [cell_of_block hlb]; show some L.fv = _; rw [HH.out.2]
     have d5 : w2.cell? ⟨bl, 5, none⟩ = some (.int .i64 L.size) := by rw [cell_of_block hlb]; rfl
     have f3 : w2.frozen? ⟨bl, 3, none⟩ = false := unfrozen_of_block hlb 3; have f5 : w2.frozen? ⟨bl, 5, none⟩ = false := unfrozen_of_block hlb 5; have H2 : Hid (w.grownBy w2 L.fv.ownBlock ∧ w2.ownsRow 0 3 1 v2 (L.fs ++ [n]).length (vI (L.fs ++ [n])) ∧ (v2.ownBlock = L.fv.ownBlock ∨ ∀ b, v2.ownBlock = some b → w.heap.size ≤ b)) := ⟨hg', ho, ha'⟩
     subst hv2; clear ho hg ha hg' ha' hB ho0 hlb))
 go_end0
 exact ⟨rfl, _, begin_end HH.out.1 H2.out.1 H2.out.2.1 H2.out.2.2⟩
/-- A log with a record more. -/
def addR (L : LS) (v : Value) (p : Value × List Int) : LS := { L with rv := v, rs := L.rs ++ [p], size := L.size + (12 + p.2.length), own := fun b => if v.ownBlock = some b then 3 else if dBlock p.1 p.2 = some b then 4 else L.own b }
/-- What lies beside a log and its new record stays. -/
structure KFr (w w' : World) (L L' : LS) (p : Value × List Int) : Prop where
 os : w'.os = w.os
 tape : w'.tape = w.tape
 output : w'.output = w.output
 size : w.heap.size ≤ w'.heap.size
 block : ∀ b, b < w.heap.size → L.own b = 0 → w'.heap[b]? = w.heap[b]?
 own : ∀ b, b < w.heap.size → L.own b = 0 → ¬ dBlock p.1 p.2 = some b → L'.own b = 0
theorem keep_end {w w2 : World} {bl : Nat} {L : LS} {v : Value} {p : Value × List Int} (h : LogIs w bl L) (hp : BytesV w p.1 p.2) (hpo : ∀ b, dBlock p.1 p.2 = some b → L.own b = 0 ∧ b < w.heap.size) (hg : w.grownBy w2 L.rv.ownBlock) (ho : w2.ownsRow 0 23 1 v (L.rs ++ [p]).length ((L.rs ++ [p]).map (·.1))) (ha : v.ownBlock = L.rv.ownBlock ∨ ∀ b, v.ownBlock = some b → w.heap.size ≤ b) :
 LogIs ((w2.setCell ⟨bl, 4, none⟩ v).setCell ⟨bl, 5, none⟩ (.int .i64 (L.size + (12 + p.2.length)))) bl (addR L v p) ∧ KFr w ((w2.setCell ⟨bl, 4, none⟩ v).setCell ⟨bl, 5, none⟩ (.int .i64 (L.size + (12 + p.2.length)))) L (addR L v p) p := by
 have hlt := h.lt; have hfne : ∀ b, L.rv.ownBlock = some b → b ≠ bl := fun b hb e => by have := h.rr b hb; rw [e, h.rl] at this; cases this
 have hvne : ∀ b, v.ownBlock = some b → b ≠ bl := fun b hb => by
  rcases ha with ha | ha
  · exact hfne b (ha ▸ hb)
  · have := ha b hb; omega
 have hk : ∀ b, b ≠ bl → ((w2.setCell ⟨bl, 4, none⟩ v).setCell ⟨bl, 5, none⟩ (.int .i64 (L.size + (12 + p.2.length)))).heap[b]? = w2.heap[b]? := fun b hb => (Below.heap_setCell _ _ _ _ hb).trans (Below.heap_setCell _ _ _ _ hb)
 have hv3 : ∀ b, L.own b ≠ 0 → L.own b ≠ 3 → ¬ v.ownBlock = some b := fun b h0 h2 hc => by
  rcases ha with ha | ha
  · exact h2 (h.rr b (ha ▸ hc))
  · have := ha b hc; have := h.own_lt h0; omega
 have hold : ∀ b, L.own b ≠ 0 → L.own b ≠ 3 → (addR L v p).own b = L.own b := fun b h0 h2 => by
  show (if v.ownBlock = some b then 3 else if dBlock p.1 p.2 = some b then 4 else L.own b) = _; rw [if_neg (hv3 b h0 h2), if_neg (fun hc => h0 (hpo b hc).1)]
 have hsame : ∀ b, b < w.heap.size → L.own b ≠ 1 → L.own b ≠ 3 → ((w2.setCell ⟨bl, 4, none⟩ v).setCell ⟨bl, 5, none⟩ (.int .i64 (L.size + (12 + p.2.length)))).heap[b]? = w.heap[b]? := fun b h0 h1 h2 => (hk b (fun e => h1 (by rw [e]; exact h.rl))).trans (hg.block b h0 (fun e => h2 (h.rr b e.symm)))
 have hb2 : w2.heap[bl]? = some (.cells (lC L) 141) := (hg.block bl hlt (fun e => hfne bl e.symm rfl)).trans h.log; refine ⟨⟨?_, ?_, ?_, fun b hb => ?_, ?_, fun b hb => if_pos hb, fun q hq => ?_, fun q hq b hb => ?_, fun b hb => ?_⟩, hg.os, hg.tape, hg.output, by simpa using hg.size, fun b hb h0 => ?_, fun b hb h0 hN => ?_⟩
 · rw [block_setCell (block_setCell hb2 _) _]
   simp [lC, addR]
 · rw [hold bl (by rw [h.rl]; simp) (by rw [h.rl]; simp)]
   exact h.rl
 · exact ownsRow_heap h.files (fun b hb => hsame b (h.own_lt (by rw [h.rf b hb]; simp)) (by rw [h.rf b hb]; simp) (by rw [h.rf b hb]; simp))
 · rw [hold b (by rw [h.rf b hb]; simp) (by rw [h.rf b hb]; simp)]
   exact h.rf b hb
 · exact ownsRow_heap ho (fun b hb => hk b (hvne b hb))
 · rcases List.mem_append.1 hq with hq | hq
   · exact (h.each q hq).keep (fun b hb => hsame b (h.own_lt (by rw [h.re q hq b hb]; simp)) (by rw [h.re q hq b hb]; simp) (by rw [h.re q hq b hb]; simp))
   · simp at hq
     subst hq; exact hp.keep (fun b hb => hsame b (hpo b hb).2 (by rw [(hpo b hb).1]; simp) (by rw [(hpo b hb).1]; simp))
 · rcases List.mem_append.1 hq with hq | hq
   · rw [hold b (by rw [h.re q hq b hb]; simp) (by rw [h.re q hq b hb]; simp)]
     exact h.re q hq b hb
   · simp at hq
     subst hq; show (if v.ownBlock = some b then 3 else if dBlock q.1 q.2 = some b then 4 else L.own b) = 4; rw [if_neg (fun hc => ?_), if_pos hb]; rcases ha with ha | ha
     · have := h.rr b (ha ▸ hc); rw [(hpo b hb).1] at this; cases this
     · have := ha b hc; have := (hpo b hb).2; omega
 · have hb' : w2.heap.size ≤ b := by simpa using hb
   show (if v.ownBlock = some b then 3 else if dBlock p.1 p.2 = some b then 4 else L.own b) = 0; rw [if_neg (fun hc => by have := (ho.lt b hc).2; omega), if_neg (fun hc => by have := (hpo b hc).2; have := hg.size; omega)]; exact h.fresh b (by have := hg.size; omega)
 · exact hsame b hb (by rw [h0]; simp) (by rw [h0]; simp)
 · show (if v.ownBlock = some b then 3 else if dBlock p.1 p.2 = some b then 4 else L.own b) = 0
   rw [if_neg (fun hc => ?_), if_neg hN]
   · exact h0
   · rcases ha with ha | ha
     · have := h.rr b (ha ▸ hc); rw [h0] at this; cases this
     · have := ha b hc; omega
theorem vmap_append (a : List (Value × List Int)) (p : Value × List Int) : (a ++ [p]).map (·.1) = a.map (·.1) ++ [p.1] := by simp
set_option maxRecDepth 100000 in
set_option maxHeartbeats 4000000 in
/-- keep -/
theorem keep_any {w : World} {bl : Nat} {L : LS} (h : LogIs w bl L) (hl : L.rs.length ≤ 1099511627776) (va : Option Addr) (vc : Nat) (bs : List Int) (hp : BytesV w (.slice va bs.length vc) bs) (hpo : ∀ b, dBlock (.slice va bs.length vc) bs = some b → L.own b = 0 ∧ b < w.heap.size) (hbl : bs.length ≤ 65536) (hsz : 0 ≤ L.size ∧ L.size ≤ 4611686018427387904) :
 Calls Tryz.prog 109 #[.pointer (some ⟨bl, 0, none⟩), .slice va bs.length vc] w fun e w' => e = .returned (.tuple #[]) ∧ ∃ v, LogIs w' bl (addR L v (.slice va bs.length vc, bs)) ∧ KFr w w' L (addR L v (.slice va bs.length vc, bs)) (.slice va bs.length vc, bs) := by
 have c4 : w.cell? ⟨bl, 4, none⟩ = some L.rv := by rw [cell_of_block h.log]; rfl
 obtain ⟨fa, fc, hfv⟩ := row_form h.recs; rw [hfv] at c4; have HH : Hid (LogIs w bl L ∧ L.rv = .slice fa L.rs.length fc ∧ BytesV w (.slice va bs.length vc) bs ∧ ∀ b, dBlock (.slice va bs.length vc) bs = some b → L.own b = 0 ∧ b < w.heap.size) := ⟨h, hfv, hp, hpo⟩
 have hlt := h.lt; clear h hfv hp hpo; go_enter Tryz.func109, Tryz.ntmps109; go_wp2_with (first
  | (at_builtin
     have hB := heap_alloc_new w (.cells #[.slice va bs.length vc] 23); have ho0 := HH.out.1.recs.alloc (.cells #[.slice va bs.length vc] 23); rw [HH.out.2.1] at ho0; have ho1 : (w.alloc (.cells #[.slice va bs.length vc] 23)).ownsRow 0 23 1 (.slice fa L.rs.length fc) (L.rs.map (·.1)).length (L.rs.map (·.1)) := by rw [List.length_map]; exact ho0
     refine wpList_append_v rfl _ _ rfl 0 (.slice fa L.rs.length fc) (L.rs.map (·.1)) (.slice va bs.length vc) ⟨_, _, _, rfl⟩ rfl ho1 w.heap.size hB rfl (by rw [List.length_map]; exact hl) (Nat.zero_le _) ?_; intro v2 w2 ho hg ha; have hg' : w.grownBy w2 L.rv.ownBlock := by rw [HH.out.2.1]; exact (World.grownBy_alloc w _ _).trans hg
     have ha' : v2.ownBlock = L.rv.ownBlock ∨ ∀ b, v2.ownBlock = some b → w.heap.size ≤ b := by
      rcases ha with ha | ha
      · exact Or.inl (by rw [HH.out.2.1]; exact ha)
      · exact Or.inr (fun b hb => by rw [ha] at hb; injection hb with hb; simp at hb; omega)
     rw [show ((L.rs.map (·.1)) ++ [Value.slice va bs.length vc]).length = L.rs.length + 1 from by simp] at ho; obtain ⟨va2, vc2, hv2⟩ := row_form ho; have hlb : w2.heap[bl]? = some (.cells (lC L) 141) := (hg'.block bl hlt (fun e => by have := HH.out.1.rr bl e.symm; rw [HH.out.1.rl] at this; cases this)).trans HH.out.1.log; have d4 : w2.cell? ⟨bl, 4, none⟩ = some (.slice fa L.rs.length fc) := by rw [cell_of_block hlb]; show some L.rv = _; rw [HH.out.2.1]
     have d5 : w2.cell? ⟨bl, 5, none⟩ = some (.int .i64 L.size) := by rw [cell_of_block hlb]; rfl
     have f4 : w2.frozen? ⟨bl, 4, none⟩ = false := unfrozen_of_block hlb 4; have f5 : w2.frozen? ⟨bl, 5, none⟩ = false := unfrozen_of_block hlb 5; have H2 : Hid (w.grownBy w2 L.rv.ownBlock ∧ w2.ownsRow 0 23 1 v2 (L.rs ++ [(Value.slice va bs.length vc, bs)]).length ((L.rs ++ [(Value.slice va bs.length vc, bs)]).map (·.1)) ∧ (v2.ownBlock = L.rv.ownBlock ∨ ∀ b, v2.ownBlock = some b → w.heap.size ≤ b)) := ⟨hg', by rw [vmap_append]; simpa using ho, ha'⟩
     subst hv2; clear ho hg ha hg' ha' hB ho0 hlb))
 go_end0
 exact ⟨rfl, _, keep_end HH.out.1 HH.out.2.2.1 HH.out.2.2.2 H2.out.1 H2.out.2.1 H2.out.2.2⟩
end Go.Proofs.YtconkienlcegaaaGreatDoor
