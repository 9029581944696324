/- KX, LH, LM, LI, ShelfS -/
import Derived.Test.YtconkienlcegaaaGreatDoorGDD
import Derived.Test.YtconkienlcegaaaGreatDoorGKW
import Derived.Test.YtconkienlcegaaaGreatDoorGWH
import Derived.Test.YtconkienlcegaaaGreatDoorGKA
import Derived.Lib.Bytealg
import Derived.Lib.BytesEntry
import Derived.Shelf.Sort.Plain
import Derived.Shelf.Slices.In.SortNone
import Derived.Test.YtconkienlcegaaaGreatDoorProg
namespace Go.Proofs.YtconkienlcegaaaGreatDoor
open Go.RowKit Go.Maps Go.Joins Go.Shelf
set_option linter.unusedSimpArgs false
set_option linter.unusedVariables false
def okM (l : List Ch) : Prop := okL l ∧ ∀ c ∈ l, KByt c.key ∧ KByt c.val
theorem encK_front : ∀ (l0 l : List Ch) (rest : List Int), okL l0 → okL l → encK l = encK l0 ++ rest → ∃ l1, l = l0 ++ l1 ∧ encK l1 = rest
 | [], l, rest, _, _, h => ⟨l, rfl, by simpa [encK] using h⟩
 | c :: l0, [], rest, _, _, h => by
   have := congrArg List.length h; rw [encK_cons, List.length_append, List.length_append, encC_length] at this; simp [encK] at this; omega
 | c :: l0, d :: l, rest, h0, h1, h => by
   rw [encK_cons, encK_cons, List.append_assoc] at h; have hc := h0 c (by simp); have hd := h1 d (by simp); have e1 := nxC_enc d hd.1 hd.2.1 hd.2.2 (encK l); rw [h, nxC_enc c hc.1 hc.2.1 hc.2.2] at e1; injection e1 with e1
   injection e1 with e1 _
   subst e1; have h2 := List.append_cancel_left h; obtain ⟨l1, e2, e3⟩ := encK_front l0 l rest (fun x hx => h0 x (by simp [hx])) (fun x hx => h1 x (by simp [hx])) h2; exact ⟨l1, by rw [e2]; rfl, e3⟩
theorem encK_stop {l0 : List Ch} {bs : List Int} {k : Nat} (h0 : okL l0) (he : encK l0 = bs.take k) (hk : k < bs.length) (hn : nxC (bs.drop k) = none) : ∀ l, okL l → encK l ≠ bs := fun l hl e => by
 obtain ⟨l1, e1, e2⟩ := encK_front l0 l (bs.drop k) h0 hl (by rw [e, he, List.take_append_drop]); cases l1 with
 | nil =>
   have h9 := congrArg List.length e2; rw [List.length_drop] at h9; have : (encK []).length = 0 := rfl; omega
 | cons d r =>
   have hd := hl d (by rw [e1]; simp); rw [← e2, encK_cons, nxC_enc d hd.1 hd.2.1 hd.2.2] at hn; cases hn
def UbR (w w' : World) (bs : List Int) (e : Ending) : Prop :=
 (∃ l v, okM l ∧ encK l = bs ∧ e = .returned (.tuple #[v, .int .i64 0]) ∧ ChsV w' (fun x => w.heap.size ≤ x ∧ x < w'.heap.size) v l) ∨ ((∀ l, okL l → encK l ≠ bs) ∧ e = .returned (.tuple #[.slice none 0 0, .int .i64 34]))
attribute [local go_sem] Oper.semAt_some
end Go.Proofs.YtconkienlcegaaaGreatDoor
namespace Go.Proofs.YtconkienlcegaaaGreatDoor
open Go.RowKit Go.Maps Go.Joins Go.Shelf
set_option linter.unusedSimpArgs false
set_option linter.unusedVariables false
def kI (k : List UInt8) : List Int := k.map fun x => (x.toNat : Int)
theorem kI_kS {key : List Int} (h : KByt key) : kI (kS key) = key := by
 unfold kI kS; rw [strOfNums_data, List.map_map]; conv => rhs; rw [← List.map_id key]
 apply List.map_congr_left
 intro x hx; have := h x hx; simp only [Function.comp, id, UInt8.toNat_ofNat']; omega
theorem kS_kI (k : List UInt8) : kS (kI k) = k := by
 unfold kI kS; rw [strOfNums_data, List.map_map]; conv => rhs; rw [← List.map_id k]
 apply List.map_congr_left
 intro x hx; simp
theorem kI_len (k : List UInt8) : (kI k).length = k.length := by unfold kI; simp
def toCh (p : List UInt8 × List Int) : Ch := ⟨kI p.1, p.2, false⟩
def SrtG {α : Type} (s : List (List UInt8 × α)) : Prop := s.Pairwise fun a b => bytesBefore a.1 b.1 = true
theorem bef_ne {a b : List UInt8} (h : bytesBefore a b = true) : a ≠ b := fun e => by rw [e, WideAt.bytes_irrefl] at h; cases h
theorem bef_not {a b : List UInt8} (h : bytesBefore a b = true) : bytesBefore b a = false := by
 cases h2 : bytesBefore b a with
 | false => rfl
 | true =>
   have := WideShapes.bytes_trans a b a h h2; rw [WideAt.bytes_irrefl] at this; cases this
theorem bef_of {a b : List UInt8} (h : bytesBefore a b = false) (hne : a ≠ b) : bytesBefore b a = true := by
 rcases WideAt.bytes_total a b hne with h1 | h1
 · rw [h] at h1; cases h1
 · exact h1
theorem srt_delG {α : Type} {s : List (List UInt8 × α)} (h : SrtG s) (k : List UInt8) : SrtG (delG s k) := List.Pairwise.filter _ h
theorem srt_insG {α : Type} (x : List UInt8 × α) : ∀ {s : List (List UInt8 × α)}, SrtG s → (∀ p ∈ s, p.1 ≠ x.1) → SrtG (insG x s)
 | [], _, _ => by unfold insG SrtG; simp
 | y :: r, h, hn => by
   unfold SrtG at h; rw [List.pairwise_cons] at h; unfold insG; split
   · rename_i hb
     unfold SrtG; rw [List.pairwise_cons, List.pairwise_cons]; refine ⟨fun p hp => ?_, h⟩; rcases List.mem_cons.1 hp with rfl | hp
     · exact hb
     · exact WideShapes.bytes_trans _ _ _ hb (h.1 p hp)
   · rename_i hb
     unfold SrtG; rw [List.pairwise_cons]; refine ⟨fun p hp => ?_, srt_insG x (s := r) h.2 (fun p hp => hn p (List.mem_cons_of_mem _ hp))⟩; rcases ins_mem x r p hp with rfl | hp
     · exact bef_of (by simpa using hb) (hn y (by simp)).symm
     · exact h.1 p hp
theorem srt_putG {α : Type} {s : List (List UInt8 × α)} (h : SrtG s) (k : List UInt8) (a : α) : SrtG (putG s k a) := by
 refine srt_insG (k, a) (srt_delG h k) (fun p hp => ?_); have := (List.mem_filter.1 hp).2
 simpa using this
theorem srt_doP {s : List (List UInt8 × List Int)} (h : SrtG s) (c : Ch) : SrtG (doP s c) := by
 unfold doP; split
 · exact srt_delG h _
 · exact srt_putG h _ _
theorem srt_doPs : ∀ (l : List Ch) {s : List (List UInt8 × List Int)}, SrtG s → SrtG (doPs s l)
 | [], _, h => h
 | c :: r, _, h => srt_doPs r (srt_doP h c)
def dnA (k : List UInt8) (v : List Int) : Bool → List (List UInt8 × List Int) → List (List UInt8 × List Int)
 | put, [] => if put then [] else [(k, v)]
 | put, x :: r => (if !put && !(bytesBefore x.1 k) then [(k, v)] else []) ++ ((if x.1 = k then [] else [x]) ++ dnA k v (put || !(bytesBefore x.1 k)) r)
theorem dnA_true (k : List UInt8) (v : List Int) : ∀ s, dnA k v true s = delG s k
 | [] => rfl
 | x :: r => by
   unfold dnA; simp only [Bool.not_true, Bool.false_and, Bool.true_or, Bool.false_eq_true, if_false, List.nil_append]; rw [dnA_true k v r]; unfold delG; rw [List.filter_cons]; by_cases h : x.1 = k
   · simp [h]
   · simp [h]
theorem del_none {α : Type} {s : List (List UInt8 × α)} {k : List UInt8} (h : ∀ p ∈ s, p.1 ≠ k) : delG s k = s := by
 unfold delG; rw [List.filter_eq_self]; intro p hp
 simpa using h p hp
theorem ins_front {α : Type} {s : List (List UInt8 × α)} {x : List UInt8 × α} (h : ∀ p ∈ s, bytesBefore x.1 p.1 = true) : insG x s = x :: s := by
 cases s with
 | nil => rfl
 | cons y r => unfold insG; rw [if_pos (h y (by simp))]
theorem dnA_false (k : List UInt8) (v : List Int) : ∀ {s : List (List UInt8 × List Int)}, SrtG s → dnA k v false s = putG s k v
 | [], _ => by simp [dnA, putG, delG, insG]
 | x :: r, h => by
   have h' := h; unfold SrtG at h; rw [List.pairwise_cons] at h; unfold dnA; cases hb : bytesBefore x.1 k with
   | true =>
     have hne := bef_ne hb; simp only [Bool.not_false, Bool.not_true, Bool.and_false, Bool.false_or, Bool.false_eq_true, if_false, List.nil_append]; rw [if_neg hne, dnA_false k v (s := r) h.2]; unfold putG delG; rw [List.filter_cons, if_pos (by simpa using hne)]; conv => rhs; unfold insG
     rw [if_neg (by rw [bef_not hb]; simp)]; rfl
   | false =>
     simp only [Bool.not_false, Bool.true_and, Bool.false_or, if_true]; rw [dnA_true]; by_cases hne : x.1 = k
     · rw [if_pos hne]
       have hr : ∀ p ∈ r, bytesBefore k p.1 = true := fun p hp => hne ▸ h.1 p hp
       have hd : delG (x :: r) k = r := by
        unfold delG; rw [List.filter_cons, if_neg (by simp [hne])]; exact del_none fun p hp => (bef_ne (hr p hp)).symm
       have hd2 : delG r k = r := del_none fun p hp => (bef_ne (hr p hp)).symm
       unfold putG; rw [hd, hd2, ins_front (x := (k, v)) hr]; rfl
     · rw [if_neg hne]
       have hk := bef_of hb hne; unfold putG; have hd : delG (x :: r) k = x :: delG r k := by unfold delG; rw [List.filter_cons, if_pos (by simpa using hne)]
       rw [hd]; conv => rhs; unfold insG
       rw [if_pos hk]; rfl
theorem dnA_doP {s : List (List UInt8 × List Int)} (h : SrtG s) (c : Ch) : dnA (kS c.key) c.val c.gone s = doP s c := by
 unfold doP; cases c.gone with
 | true => rw [dnA_true]; rfl
 | false => rw [dnA_false _ _ h]; rfl
def snapOk : List UInt8 → List Ch → Bool
 | _, [] => true
 | last, c :: r => !c.gone && bytesBefore last (kS c.key) && snapOk (kS c.key) r
def lastK (last : List UInt8) (l : List Ch) : List UInt8 := match l.getLast? with | none => last | some c => kS c.key
theorem lastK_snoc (last : List UInt8) (l : List Ch) (c : Ch) : lastK last (l ++ [c]) = kS c.key := by unfold lastK; simp
theorem lastK_cons (last : List UInt8) (c : Ch) (l : List Ch) : lastK last (c :: l) = lastK (kS c.key) l := by
 cases l with
 | nil => rfl
 | cons d r => unfold lastK; simp [List.getLast?_cons]
theorem snap_app : ∀ (l m : List Ch) (last : List UInt8), snapOk last (l ++ m) = (snapOk last l && snapOk (lastK last l) m)
 | [], m, last => by simp [snapOk, lastK]
 | c :: r, m, last => by rw [List.cons_append, snapOk, snapOk, snap_app r m, lastK_cons]; simp only [Bool.and_assoc]
def chK (r : List Int) : Option (Bool × List Ch) := match r with
 | [] => none
 | t :: b => match unK b.length b with
   | none => none
   | some l => if t = 0 then some (false, l) else if t = 1 ∧ snapOk [] l = true then some (true, l) else none
theorem unK_rot {b : List Int} (hb : KByt b) (h : ∀ l, okL l → encK l ≠ b) : unK b.length b = none := by
 cases hu : unK b.length b with
 | none => rfl
 | some l =>
   obtain ⟨h1, h2⟩ := unK_ok _ _ _ hb hu; exact absurd h1 (h l fun c hc => ⟨(h2 c hc).1, (h2 c hc).2.2.2.2, (h2 c hc).2.1⟩)
theorem chK_rot {t : Int} {b : List Int} (hb : KByt b) (h : ∀ l, okL l → encK l ≠ b) : chK (t :: b) = none := by
 unfold chK; simp only [unK_rot hb h]
theorem chK_enc {t : Int} {b : List Int} {l : List Ch} (hl : okL l) (e : encK l = b) : chK (t :: b) = if t = 0 then some (false, l) else if t = 1 ∧ snapOk [] l = true then some (true, l) else none := by
 unfold chK; simp only [← e, unK_enc l hl _ (Nat.le_refl _)]
theorem chK_some {r : List Int} (hb : KByt r) {sn : Bool} {l : List Ch} (h : chK r = some (sn, l)) : okM l ∧ r = (if sn then 1 else 0) :: encK l ∧ (sn = true → snapOk [] l = true) := by
 cases r with
 | nil => simp [chK] at h
 | cons t b =>
   have hb' : KByt b := fun c hc => hb c (List.mem_cons_of_mem _ hc)
   unfold chK at h; simp only [] at h; cases hu : unK b.length b with
   | none => rw [hu] at h; cases h
   | some l' =>
     rw [hu] at h; simp only [] at h; obtain ⟨h1, h2⟩ := unK_ok _ _ _ hb' hu; have hm : okM l' := ⟨fun c hc => ⟨(h2 c hc).1, (h2 c hc).2.2.2.2, (h2 c hc).2.1⟩, fun c hc => ⟨(h2 c hc).2.2.1, (h2 c hc).2.2.2.1⟩⟩
     split at h
     · rename_i ht
       injection h with h
       simp only [Prod.mk.injEq] at h; obtain ⟨rfl, rfl⟩ := h; exact ⟨hm, by rw [ht, h1]; rfl, fun h => by cases h⟩
     · split at h
       · rename_i ht
         injection h with h
         simp only [Prod.mk.injEq] at h; obtain ⟨rfl, rfl⟩ := h; exact ⟨hm, by rw [ht.1, h1]; rfl, fun _ => ht.2⟩
       · cases h
def stepK (s : List (List UInt8 × List Int)) (p : Bool × List Ch) : List (List UInt8 × List Int) := doPs (if p.1 then [] else s) p.2
def opS (o : Option (List (List UInt8 × List Int))) (r : List Int) : Option (List (List UInt8 × List Int)) := o.bind fun s => (chK r).map (stepK s)
def opK (rs : List (List Int)) : Option (List (List UInt8 × List Int)) := rs.foldl opS (some [])
theorem opS_none : ∀ rs : List (List Int), rs.foldl opS none = none
 | [] => rfl
 | r :: rs => opS_none rs
theorem opK_snoc {rs : List (List Int)} {k : Nat} {r : List Int} (h : rs[k]? = some r) : opK (rs.take (k + 1)) = opS (opK (rs.take k)) r := by
 unfold opK; rw [List.take_add_one, h]; simp
theorem opK_stop {rs : List (List Int)} {k : Nat} {r : List Int} (h : rs[k]? = some r) (hc : chK r = none) : opK rs = none := by
 have h1 : opK (rs.take (k + 1)) = none := by
  rw [opK_snoc h]; unfold opS; rw [hc]; cases opK (rs.take k) <;> rfl
 unfold opK at h1 ⊢; conv => lhs; rw [← List.take_append_drop (k + 1) rs]
 rw [List.foldl_append, h1, opS_none]
theorem opK_next {rs : List (List Int)} {k : Nat} {r : List Int} {s : List (List UInt8 × List Int)} {p : Bool × List Ch} (h : rs[k]? = some r) (hs : opK (rs.take k) = some s) (hc : chK r = some p) : opK (rs.take (k + 1)) = some (stepK s p) := by
 rw [opK_snoc h, hs]; unfold opS; rw [hc]; rfl
theorem srt_stepK {s : List (List UInt8 × List Int)} (h : SrtG s) (p : Bool × List Ch) : SrtG (stepK s p) := by
 unfold stepK; refine srt_doPs _ ?_; split
 · exact List.Pairwise.nil
 · exact h
theorem opK_srt : ∀ (rs : List (List Int)) {o : Option (List (List UInt8 × List Int))} {s : List (List UInt8 × List Int)}, (∀ t, o = some t → SrtG t) → rs.foldl opS o = some s → SrtG s
 | [], o, s, h, e => h s e
 | r :: rs, o, s, h, e => by
   refine opK_srt rs (o := opS o r) (fun t ht => ?_) e; unfold opS at ht; cases o with
   | none => cases ht
   | some u =>
     cases hc : chK r with
     | none => rw [hc] at ht; cases ht
     | some p =>
       rw [hc] at ht; injection ht with ht
       rw [← ht]; exact srt_stepK (h u rfl) p
theorem opK_sorted {rs : List (List Int)} {s : List (List UInt8 × List Int)} (e : opK rs = some s) : SrtG s := opK_srt rs (fun t ht => by injection ht with ht; rw [← ht]; exact List.Pairwise.nil) e
end Go.Proofs.YtconkienlcegaaaGreatDoor
namespace Go.Proofs.YtconkienlcegaaaGreatDoor
open Go.RowKit Go.Maps Go.Joins Go.Sort
set_option linter.unusedVariables false
set_option linter.unusedSimpArgs false
structure OneF (l : List Tf) (n : List UInt8) : Prop where
 len : l.length ≤ 1
 nm : ∀ p ∈ l, p.1 = n
 byt : ∀ p ∈ l, KByt p.2.1
theorem KByt.app {a b : List Int} (ha : KByt a) (hb : KByt b) : KByt (a ++ b) := fun c hc => (List.mem_append.1 hc).elim (ha c) (hb c)
theorem one_nil (n : List UInt8) : OneF [] n := ⟨by simp, fun p hp => (by cases hp), fun p hp => (by cases hp)⟩
theorem one_lApp {l : List Tf} {room : Int} {s : ByteArray} {bs : List Int} (h : OneF l (nb s)) (hb : KByt bs) : OneF (lApp l room s bs) (nb s) := by
 unfold lApp; split
 · split
   · exact h
   · split
     · exact h
     · cases hf : fT l (nb s) with
       | some p =>
         have hp : p ∈ l := List.mem_of_find?_eq_some hf; refine ⟨by unfold setT; rw [List.length_map]; exact h.len, fun q hq => ?_, fun q hq => ?_⟩
         · obtain ⟨r, hr, rfl⟩ := List.mem_map.1 hq
           split
           · rfl
           · exact h.nm r hr
         · obtain ⟨r, hr, rfl⟩ := List.mem_map.1 hq
           split
           · exact (h.byt p hp).app hb
           · exact h.byt r hr
       | none =>
         have hl : l = [] := by
          cases l with
          | nil => rfl
          | cons q r =>
            have := List.find?_eq_none.1 hf q (by simp); simp [h.nm q (by simp)] at this
         subst hl; show OneF (putT [] (nb s, bs, 0)) (nb s); unfold putT delT; simp only [List.filter_nil, insT]; exact ⟨by simp, fun q hq => by rw [List.mem_singleton.1 hq], fun q hq => by rw [List.mem_singleton.1 hq]; exact hb⟩
 · exact h
theorem one_app {A : DA} {s : ByteArray} {bs : List Int} (h : OneF A.l (nb s)) (hb : KByt bs) : OneF (dApp A s bs).2.l (nb s) := by
 unfold dApp dDo; show OneF (if A.sE s = 0 then lApp A.l A.room s bs else A.l) (nb s); split
 · exact one_lApp h hb
 · exact h
theorem len_sum : ∀ {l : List Tf} {p : Tf}, p ∈ l → p.2.1.length ≤ sumT l
 | [], p, h => by cases h
 | q :: r, p, h => by
   unfold sumT; rcases List.mem_cons.1 h with rfl | h
   · omega
   · have := len_sum h
     omega
theorem nx_byt {bs : List Int} (h : KByt bs) : KByt (nx bs).2.2 := by
 unfold nx; split
 · exact fun c hc => by cases hc
 · split
   · exact fun c hc => by cases hc
   · split
     · exact fun c hc => by cases hc
     · split
       · exact fun c hc => by cases hc
       · exact (h.drop 12).take _
theorem Took.byt {bs : List Int} {k : Nat} {rs : List (List Int)} (h : Took bs k rs) (hb : KByt bs) : ∀ r ∈ rs, KByt r := by
 induction h with
 | nil => exact fun r hr => by cases hr
 | step h1 h2 h3 ih =>
   intro r hr; rcases List.mem_append.1 hr with hr | hr
   · exact ih r hr
   · rw [List.mem_singleton.1 hr]
     exact nx_byt (hb.drop _)
theorem dBytes_in (A : DA) (s : ByteArray) : dBytes A s = [] ∨ ∃ p ∈ A.l, dBytes A s = p.2.1 := by
 unfold dBytes; split
 · cases hf : fT A.l (nb s) with
   | none => exact Or.inl rfl
   | some p => exact Or.inr ⟨p, List.mem_of_find?_eq_some hf, rfl⟩
 · exact Or.inl rfl
theorem ldx_byt {A A' : DA} {P P' : PL} {n c : Int} {last : Bool} (h : LdX A P n last c A' P') (hc : c = 0) (hP : P.rs = []) {N : Nat} (hA : ∀ p ∈ A.l, KByt p.2.1 ∧ p.2.1.length ≤ N) : P'.rs.length * 12 ≤ N ∧ ∀ r ∈ P'.rs, KByt r := by
 rcases h with ⟨h1, h2, _⟩ | ⟨_, ⟨_, _, h2, _⟩ | ⟨_, ⟨h2, _⟩ | ⟨k, rs, ht, rfl, _⟩⟩⟩
 · exact absurd (h2.symm.trans hc) h1
 · rw [hc] at h2; exact absurd h2 (by decide)
 · rw [hc] at h2; exact absurd h2 (by decide)
 · have hb : KByt (dBytes A (fileB logB n)) ∧ (dBytes A (fileB logB n)).length ≤ N := by
    rcases dBytes_in A (fileB logB n) with e | ⟨p, hp, e⟩
    · rw [e]; exact ⟨fun c hc => (by cases hc), by simp⟩
    · rw [e]; exact hA p hp
   have h1 := ht.le; have h2 := ht.byt hb.1; show (P.rs ++ rs).length * 12 ≤ N ∧ ∀ r ∈ P.rs ++ rs, KByt r; rw [hP, List.nil_append]; exact ⟨by omega, h2⟩
theorem opx_byt {A A' : DA} {P' : PL} {c : Int} {most : Int} {ns : List Int} (h : OpX A ⟨[], [], 0, false, most⟩ ns c A' P') (hn : ns.length ≤ 1) (hc : c = 0) {N : Nat} (hA : ∀ p ∈ A.l, KByt p.2.1 ∧ p.2.1.length ≤ N) : P'.rs.length * 12 ≤ N ∧ ∀ r ∈ P'.rs, KByt r := by
 cases ns with
 | nil =>
   obtain ⟨_, _, h3⟩ := h; rw [h3]; exact ⟨by simp, fun r hr => by cases hr⟩
 | cons n t =>
   cases t with
   | nil =>
     obtain ⟨d, B, M, h1, h2⟩ := h; rcases h2 with ⟨h2, h3, _⟩ | ⟨h2, _, _, h3⟩
     · exact absurd (h3.symm.trans hc) h2
     · rw [h3]
       exact ldx_byt h1 h2 rfl hA
   | cons _ _ => simp at hn
theorem nums_one {l : List Tf} (h : l.length ≤ 1) : (srtI (numsOf (nmS l))).length ≤ 1 := by
 rw [srtI_length]; have h1 := numsOf_length (nmS l); have h2 : (nmS l).length = l.length := by unfold nmS; rw [List.length_map]
 omega
end Go.Proofs.YtconkienlcegaaaGreatDoor
namespace Go.Proofs.YtconkienlcegaaaGreatDoor
open Go.RowKit Go.Maps Go.Joins Go.Shelf
set_option linter.unusedSimpArgs false
set_option linter.unusedVariables false
theorem run_bytesOf {w : World} {v : Value} {xs : List Int} (h : BytesV w v xs) : (Extern.Bytes.bytesOf v).run Tryz.prog w = .ok (strOfNums xs) w := by
 rcases h with ⟨rfl, rfl⟩ | ⟨ad, c, rfl, hc⟩
 · simp [Extern.Bytes.bytesOf, go_sem, strOfNums]
   rfl
 · have hl := Lib.run_loadBytesX (P := Tryz.prog) w xs ad .empty (fun j x hj => hc j (.int .u8 x) (by simp [vB, hj]))
   have he : (⟨ByteArray.empty.data ++ (Lib.bytesOf xs).toArray⟩ : ByteArray) = strOfNums xs := by
    apply ByteArray.ext
    show (#[] : Array UInt8) ++ (Lib.bytesOf xs).toArray = (Lib.bytesOf xs).toArray; simp
   rw [he] at hl; simp only [Extern.Bytes.bytesOf, hl]
theorem run_cmp {w : World} {u v : Value} {xs ys : List Int} (hu : BytesV w u xs) (hv : BytesV w v ys) : (Extern.BytealgCompare.compare #[u, v]).run Tryz.prog w = .ok (.int .i64 (Lib.compareBytes (kS xs) (kS ys))) w := by
 change Sem.run Tryz.prog (do pure (goInt (Extern.BytealgCompare.cmp (← Extern.Bytes.bytesOf u) (← Extern.Bytes.bytesOf v)))) w = _
 simp only [Sem.run_bind, Sem.run_pure, run_bytesOf hu, run_bytesOf hv, Result.andThen]; rw [Lib.cmp_eq]; rfl
theorem cmp_pos : ∀ (a b : List UInt8), (decide (Lib.compareBytes a b ≤ 0)) = !bytesBefore b a
 | [], [] => by simp [Lib.compareBytes, bytesBefore]
 | [], _ :: _ => by simp [Lib.compareBytes, bytesBefore]
 | _ :: _, [] => by simp [Lib.compareBytes, bytesBefore]
 | x :: a, y :: b => by
   have ih := cmp_pos a b; unfold Lib.compareBytes bytesBefore; by_cases h1 : x < y
   · have h2 : ¬ y < x := UInt8.lt_asymm h1
     have h3 : ¬ y = x := fun e => by rw [e] at h1; exact UInt8.lt_irrefl _ h1
     simp [h1, h2, h3]
   · by_cases h2 : y < x
     · simp [h1, h2]
     · have h3 : y = x := UInt8.le_antisymm (UInt8.not_lt.1 h1) (UInt8.not_lt.1 h2)
       subst h3; simp [h1] at ih ⊢; exact ih
set_option maxRecDepth 100000 in
set_option maxHeartbeats 1000000 in
theorem compare_any {w : World} {u v : Value} {xs ys : List Int} (hu : BytesV w u xs) (hv : BytesV w v ys) : Calls Tryz.prog 75 #[u, v] w fun e w' => e = .returned (.int .i64 (Lib.compareBytes (kS xs) (kS ys))) ∧ w' = w := by
 have H := run_cmp hu hv; obtain ⟨_, _, rfl⟩ := hu.form'; obtain ⟨_, _, rfl⟩ := hv.form'; clear hu hv; go_enter Tryz.func75, Tryz.ntmps75; go_wp2; rw [run_callFunc_extern Tryz.func111 (by kernel_rfl) (by kernel_rfl) (by kernel_rfl) (e := Extern.BytealgCompare.compare) (by kernel_rfl), H]; simp only [Result.andThen]; rw [Oper.upon_value]; go_wp2; go_ret; exact ⟨rfl, rfl⟩
theorem keys_sorted {α : Type} {m : List (List UInt8 × α)} (h : SrtG m) (f : List UInt8 → Bool) {ss : List (List UInt8)} (hp : ss.Perm ((m.map (·.1)).filter f)) : ss.mergeSort (fun x y => decide (x ≤ y)) = (m.map (·.1)).filter f := by
 have hs : ((m.map (·.1)).filter f).Pairwise (fun a b => decide (a ≤ b) = true) := by
  refine List.Pairwise.filter _ ?_; unfold SrtG at h; rw [List.pairwise_map]; exact h.imp fun {a b} h2 => by
   simp only [decide_eq_true_eq]; exact List.le_of_lt (before_lt _ _ h2)
 refine List.Perm.eq_of_pairwise (le := fun a b => decide (a ≤ b) = true) (fun a b _ _ h1 h2 => ?_) (List.pairwise_mergeSort (fun a b c h1 h2 => ?_) (fun a b => ?_) ss) hs ((List.mergeSort_perm ss _).trans hp)
 · simp only [decide_eq_true_eq] at h1 h2
   exact List.le_antisymm h1 h2
 · simp only [decide_eq_true_eq] at h1 h2 ⊢
   exact List.le_trans h1 h2
 · simp only [Bool.or_eq_true, decide_eq_true_eq]
   exact List.le_total a b
theorem srt_mk {m : List (List UInt8 × Value × List Int)} (h : SrtG (mk m)) : SrtG m := by
 unfold SrtG mk mapG at h; rw [List.pairwise_map] at h; exact h
end Go.Proofs.YtconkienlcegaaaGreatDoor
namespace Go.Proofs
open Go.Shelf
def Tryz.lays190_ren : Go.Shelf.Ren := ⟨fun | 190 => 119 | 125 => 130 | 258 => 136 | 128 => 154 | 129 => 155 | 302 => 157 | 303 => 158 | 304 => 159 | 305 => 160 | 306 => 161 | 307 => 162 | 308 => 163 | 309 => 164 | 310 => 165 | 333 => 176 | 329 => 171 | 330 => 172 | 334 => 177 | 335 => 178 | 336 => 179 | 344 => 187 | n => n, fun | 31 => 112 | 9 => 9 | 3 => 3 | 46 => 153 | 0 => 0 | 51 => 127 | 53 => 132 | 4 => 4 | 183 => 200 | 182 => 199 | 131 => 122 | 5 => 5 | 218 => 221 | 222 => 225 | 228 => 239 | 229 => 240 | n => n, fun | n => n⟩
theorem Tryz.lays190 : Go.Proofs.Lays.n190 Tryz.prog Tryz.lays190_ren := {
 mixed := by kernel_rfl
 f125 := Tryz.func130.trans (congrArg some (by kernel_rfl))
 f128 := Tryz.func154.trans (congrArg some (by kernel_rfl))
 f129 := Tryz.func155.trans (congrArg some (by kernel_rfl))
 f190 := Tryz.func119.trans (congrArg some (by kernel_rfl))
 f258 := Tryz.func136.trans (congrArg some (by kernel_rfl))
 f302 := Tryz.func157.trans (congrArg some (by kernel_rfl))
 f303 := Tryz.func158.trans (congrArg some (by kernel_rfl))
 f304 := Tryz.func159.trans (congrArg some (by kernel_rfl))
 f305 := Tryz.func160.trans (congrArg some (by kernel_rfl))
 f306 := Tryz.func161.trans (congrArg some (by kernel_rfl))
 f307 := Tryz.func162.trans (congrArg some (by kernel_rfl))
 f308 := Tryz.func163.trans (congrArg some (by kernel_rfl))
 f309 := Tryz.func164.trans (congrArg some (by kernel_rfl))
 f310 := Tryz.func165.trans (congrArg some (by kernel_rfl))
 f329 := Tryz.func171.trans (congrArg some (by kernel_rfl))
 f330 := Tryz.func172.trans (congrArg some (by kernel_rfl))
 f333 := Tryz.func176.trans (congrArg some (by kernel_rfl))
 f334 := Tryz.func177.trans (congrArg some (by kernel_rfl))
 f335 := Tryz.func178.trans (congrArg some (by kernel_rfl))
 f336 := Tryz.func179.trans (congrArg some (by kernel_rfl))
 f344 := Tryz.func187.trans (congrArg some (by kernel_rfl))
 t0 := Tryz.underlying0
 a0 := Tryz.isAgg0
 z0 := Tryz.sizeOf0
 v0 := Tryz.zeroValue0
 t3 := Tryz.underlying3
 a3 := Tryz.isAgg3
 z3 := Tryz.sizeOf3
 v3 := Tryz.zeroValue3
 t4 := Tryz.underlying4
 a4 := Tryz.isAgg4
 z4 := Tryz.sizeOf4
 v4 := Tryz.zeroValue4
 t5 := Tryz.underlying5
 a5 := Tryz.isAgg5
 z5 := Tryz.sizeOf5
 v5 := Tryz.zeroValue5
 t9 := Tryz.underlying9
 a9 := Tryz.isAgg9
 z9 := Tryz.sizeOf9
 v9 := Tryz.zeroValue9
 t31 := Tryz.underlying112
 a31 := Tryz.isAgg112
 z31 := Tryz.sizeOf112
 v31 := Tryz.zeroValue112
 t46 := Tryz.underlying153
 a46 := Tryz.isAgg153
 z46 := Tryz.sizeOf153
 v46 := Tryz.zeroValue153
 t51 := Tryz.underlying127
 a51 := Tryz.isAgg127
 z51 := Tryz.sizeOf127
 v51 := Tryz.zeroValue127
 t53 := Tryz.underlying132
 a53 := Tryz.isAgg132
 z53 := Tryz.sizeOf132
 v53 := Tryz.zeroValue132
 t131 := Tryz.underlying122
 a131 := Tryz.isAgg122
 z131 := Tryz.sizeOf122
 v131 := Tryz.zeroValue122
 t182 := Tryz.underlying199
 a182 := Tryz.isAgg199
 z182 := Tryz.sizeOf199
 v182 := Tryz.zeroValue199
 t183 := Tryz.underlying200
 a183 := Tryz.isAgg200
 z183 := Tryz.sizeOf200
 v183 := Tryz.zeroValue200
 t218 := Tryz.underlying221
 a218 := Tryz.isAgg221
 z218 := Tryz.sizeOf221
 v218 := Tryz.zeroValue221
 t222 := Tryz.underlying225
 a222 := Tryz.isAgg225
 z222 := Tryz.sizeOf225
 v222 := Tryz.zeroValue225
 t228 := Tryz.underlying239
 a228 := Tryz.isAgg239
 z228 := Tryz.sizeOf239
 v228 := Tryz.zeroValue239
 t229 := Tryz.underlying240
 a229 := Tryz.isAgg240
 z229 := Tryz.sizeOf240
 v229 := Tryz.zeroValue240 }
open Go.Sort Go.RowKit in
theorem Tryz.slices_Sort_string (blk off cap : Nat) (ss : List (List UInt8)) (w : World) (hH : Holds encStr w blk off ss.toArray) (hblk : blk < w.heap.size) (hsz : ss.length < 4611686018427387904) :
 Calls Tryz.prog 119 #[.slice (some ⟨blk, off, none⟩) ss.length cap] w fun e w' =>
  e = .returned (.tuple #[]) ∧ ∃ n os, w' = grow (putRow encStr (Sort.ahead w n) blk off (ss.mergeSort fun x y => decide (x ≤ y)).toArray) os := Any.slices_Sort_string Tryz.lays190 blk off cap ss w hH hblk hsz
open Go.RowKit Go.Sort in
/-- .. and plain. (LAID: no walk: one application.) -/
theorem Tryz.slices_Sort_string_none (p : Option Addr) (cap : Nat) (w : World) :
 Calls Tryz.prog 119 #[.slice p 0 cap] w fun e w' => e = .returned (.tuple #[]) ∧ w' = w := Any.slices_Sort_string_none Tryz.lays190 p cap w
end Go.Proofs
