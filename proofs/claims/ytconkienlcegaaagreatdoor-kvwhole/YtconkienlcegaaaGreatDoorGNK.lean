/- NO, NK -/
import Derived.Test.YtconkienlcegaaaGreatDoorGLU
import Derived.Test.YtconkienlcegaaaGreatDoorLY
import Derived.Test.YtconkienlcegaaaGreatDoorLX
import Derived.Test.YtconkienlcegaaaGreatDoorKE
namespace Go.Proofs.YtconkienlcegaaaGreatDoor
open Go.RowKit Go.Maps Go.Joins Go.Shelf
set_option linter.unusedSimpArgs false
set_option linter.unusedVariables false
abbrev Kv := List (List UInt8 × List Int)
/-- Keys and values as a store may have them. -/
def GoodS (s : Kv) : Prop := ∀ p ∈ s, 1 ≤ p.1.length ∧ p.1.length ≤ 64 ∧ p.2.length < 4294967295 ∧ KByt p.2
theorem kS_len (k : List Int) : (kS k).length = k.length := by unfold kS; rw [strOfNums_data, List.length_map]
theorem good_doP {s : Kv} (h : GoodS s) {c : Ch} (hc : okK c ∧ c.val.length < 4294967295) (hb : KByt c.val) : GoodS (doP s c) := fun p hp => by
 unfold doP at hp; split at hp
 · exact h p (List.mem_filter.1 hp).1
 · rcases put_mem hp with rfl | hp
   · have := hc.1
     unfold okK at this; exact ⟨by show 1 ≤ (kS c.key).length; rw [kS_len]; exact this.1, by show (kS c.key).length ≤ 64; rw [kS_len]; exact this.2, hc.2, hb⟩
   · exact h p hp
theorem good_doPs : ∀ {l : List Ch} {s : Kv}, GoodS s → okM l → GoodS (doPs s l)
 | [], s, h, _ => h
 | c :: r, s, h, hl => good_doPs (l := r) (s := doP s c) (good_doP h ⟨(hl.1 c (by simp)).1, (hl.1 c (by simp)).2.1⟩ (hl.2 c (by simp)).2) ⟨fun x hx => hl.1 x (List.mem_cons_of_mem _ hx), fun x hx => hl.2 x (List.mem_cons_of_mem _ hx)⟩
theorem insG_length {α : Type} (x : List UInt8 × α) : ∀ m : List (List UInt8 × α), (insG x m).length = m.length + 1
 | [] => rfl
 | y :: r => by
   unfold insG; split
   · rfl
   · rw [List.length_cons, insG_length x r]; rfl
theorem doP_length (s : Kv) (c : Ch) : (doP s c).length ≤ s.length + 1 := by
 unfold doP; split
 · have := List.length_filter_le (fun p : List UInt8 × List Int => !(p.1 == kS c.key)) s
   unfold delG; omega
 · unfold putG
   rw [insG_length]; have := List.length_filter_le (fun p : List UInt8 × List Int => !(p.1 == kS c.key)) s; unfold delG; omega
theorem doPs_length : ∀ (l : List Ch) (s : Kv), (doPs s l).length ≤ s.length + l.length
 | [], s => Nat.le_refl _
 | c :: r, s => by
   have h1 := doPs_length r (doP s c); have h2 := doP_length s c; show (doPs (doP s c) r).length ≤ s.length + (r.length + 1); omega
theorem doP_norm (s : Kv) (c : Ch) : doP s (normC c) = doP s c := by
 unfold normC doP; split
 · rename_i h
   simp [h]
 · rfl
theorem doPs_norm : ∀ (l : List Ch) (s : Kv), doPs s (l.map normC) = doPs s l
 | [], s => rfl
 | c :: r, s => by
   show doPs (doP s (normC c)) (r.map normC) = doPs (doP s c) r; rw [doP_norm, doPs_norm r]
/-- A record as a log may have it. -/
def Snd (r : List Int) : Prop := KByt r ∧ r.length ≤ 65536 ∧ ∃ p, chK r = some p
theorem opS_snd {s : Kv} {r : List Int} (h : Snd r) : ∃ p, chK r = some p ∧ okM p.2 ∧ p.2.length * 7 ≤ r.length ∧ opS (some s) r = some (stepK s p) := by
 obtain ⟨hb, _, p, hp⟩ := h; refine ⟨p, hp, ?_, chK_len hb hp, ?_⟩
 · obtain ⟨sn, l⟩ := p
   exact (chK_some hb hp).1
 · unfold opS
   rw [hp]; rfl
theorem fold_snd : ∀ (rs : List (List Int)) (s : Kv), (∀ r ∈ rs, Snd r) → GoodS s → SrtG s → ∃ t, rs.foldl opS (some s) = some t ∧ GoodS t ∧ SrtG t ∧ t.length ≤ s.length + rs.length * 9363
 | [], s, _, hg, hs => ⟨s, rfl, hg, hs, by simp⟩
 | r :: rs, s, h, hg, hs => by
   have hr := h r List.mem_cons_self; obtain ⟨p, h1, h2, h3, h4⟩ := opS_snd (s := s) hr; have hg2 : GoodS (stepK s p) := by
    unfold stepK; refine good_doPs ?_ h2; split
    · exact fun q hq => (by cases hq)
    · exact hg
   have hl2 : (stepK s p).length ≤ s.length + 9363 := by
    have h5 := hr.2.1; unfold stepK; have h6 := doPs_length p.2 (if p.1 then [] else s); have h7 : (if p.1 then ([] : Kv) else s).length ≤ s.length := by split <;> simp
    omega
   obtain ⟨t, t1, t2, t3, t4⟩ := fold_snd rs (stepK s p) (fun x hx => h x (List.mem_cons_of_mem _ hx)) hg2 (srt_stepK hs p); refine ⟨t, ?_, t2, t3, ?_⟩
   · rw [List.foldl_cons, h4]
     exact t1
   · rw [List.length_cons]
     omega
theorem opK_snd {rs : List (List Int)} (h : ∀ r ∈ rs, Snd r) : ∃ t, opK rs = some t ∧ GoodS t ∧ SrtG t ∧ t.length ≤ rs.length * 9363 := by
 obtain ⟨t, t1, t2, t3, t4⟩ := fold_snd rs [] h (fun q hq => by cases hq) List.Pairwise.nil; exact ⟨t, t1, t2, t3, by simpa using t4⟩
theorem opK_add {rs : List (List Int)} {r : List Int} {s : Kv} {p : Bool × List Ch} (hs : opK rs = some s) (hp : chK r = some p) : opK (rs ++ [r]) = some (stepK s p) := by
 unfold opK at hs ⊢; rw [List.foldl_append, hs]; unfold opS; simp [hp]
/-- A store's keys, laid one behind the other. -/
theorem put_end {s : Kv} {k : List UInt8} {v : List Int} (h : ∀ p ∈ s, bytesBefore p.1 k = true) : putG s k v = s ++ [(k, v)] := by
 have hd : delG s k = s := del_none fun p hp => bef_ne (h p hp)
 unfold putG; rw [hd]; clear hd; induction s with
 | nil => rfl
 | cons y r ih =>
   unfold insG; rw [if_neg (by rw [bef_not (h y List.mem_cons_self)]; simp), ih fun p hp => h p (List.mem_cons_of_mem _ hp)]; rfl
def chsOf (t : Kv) : List Ch := t.map fun p => ⟨kI p.1, p.2, false⟩
theorem doPs_all : ∀ (t s : Kv), SrtG (s ++ t) → doPs s (chsOf t) = s ++ t
 | [], s, _ => by simp [chsOf, doPs]
 | p :: r, s, h => by
   have h' := h; unfold SrtG at h; rw [List.pairwise_append] at h; have e : doP s ⟨kI p.1, p.2, false⟩ = s ++ [p] := by
    unfold doP; rw [if_neg (by simp)]; show putG s (kS (kI p.1)) p.2 = _; rw [kS_kI]; exact put_end fun q hq => h.2.2 q hq p List.mem_cons_self
   show doPs (doP s ⟨kI p.1, p.2, false⟩) (chsOf r) = _; rw [e, doPs_all r (s ++ [p]) (by rw [List.append_assoc]; exact h'), List.append_assoc]; rfl
theorem snap_all : ∀ (t : Kv) (k : List UInt8), (∀ p ∈ t, bytesBefore k p.1 = true) → SrtG t → snapOk k (chsOf t) = true
 | [], k, _, _ => rfl
 | p :: r, k, h, hs => by
   unfold SrtG at hs; rw [List.pairwise_cons] at hs; show (!false && bytesBefore k (kS (kI p.1)) && snapOk (kS (kI p.1)) (chsOf r)) = true; rw [kS_kI, h p List.mem_cons_self, snap_all r p.1 hs.1 hs.2]; rfl
theorem allC_mk (m : List (List UInt8 × Value × List Int)) : allC m = chsOf (mk m) := by
 unfold allC chsOf mk mapG; rw [List.map_map]; rfl
theorem okL_chs {t : Kv} (h : GoodS t) : okL (chsOf t) := fun c hc => by
 obtain ⟨p, hp, rfl⟩ := List.mem_map.1 hc; obtain ⟨h1, h2, h3, h4⟩ := h p hp; refine ⟨?_, h3, fun h => by cases h⟩; show 1 ≤ (kI p.1).length ∧ (kI p.1).length ≤ 64; rw [kI_len]; exact ⟨h1, h2⟩
theorem byt_chs {t : Kv} (h : GoodS t) : ∀ c ∈ chsOf t, KByt c.key ∧ KByt c.val := fun c hc => by
 obtain ⟨p, hp, rfl⟩ := List.mem_map.1 hc; exact ⟨kI_byt p.1, (h p hp).2.2.2⟩
theorem chK_snap {t : Kv} (hg : GoodS t) (hs : SrtG t) : chK (1 :: encK (chsOf t)) = some (true, chsOf t) := by
 have h1 : snapOk [] (chsOf t) = true := by
  refine snap_all t [] (fun p hp => ?_) hs; have := (hg p hp).1; cases hk : p.1 with
  | nil => rw [hk] at this; simp at this
  | cons x r => rfl
 rw [chK_enc (okL_chs hg) rfl, if_neg (by decide), if_pos ⟨rfl, h1⟩]
theorem kbyt_cons {x : Int} {b : List Int} (hx : 0 ≤ x ∧ x < 256) (hb : KByt b) : KByt (x :: b) := fun c hc => by
 rcases List.mem_cons.1 hc with rfl | hc
 · exact hx
 · exact hb c hc
theorem snd_put {l : List Ch} (hok : okL l) (hb : ∀ c ∈ l, KByt c.key ∧ KByt c.val) (hl : (encK l).length ≤ 65535) : Snd (0 :: encK l) ∧ chK (0 :: encK l) = some (false, l) := by
 have h1 : chK (0 :: encK l) = some (false, l) := by rw [chK_enc hok rfl, if_pos rfl]
 exact ⟨⟨kbyt_cons (by decide) (enc_byt hb), by rw [List.length_cons]; omega, _, h1⟩, h1⟩
theorem snd_snap {t : Kv} (hg : GoodS t) (hs : SrtG t) (hl : (encK (chsOf t)).length ≤ 65535) : Snd (1 :: encK (chsOf t)) :=
 ⟨kbyt_cons (by decide) (enc_byt (byt_chs hg)), by rw [List.length_cons]; omega, _, chK_snap hg hs⟩
/-- A log's records (sc of them safe), the store's keys, and the law's lists (from safe on one of them is found behind a crash). -/
structure HV (rs : List (List Int)) (sc : Nat) (br : Bool) (s : Kv) (ms : List Kv) (safe : Nat) : Prop where
 snd : ∀ r ∈ rs, Snd r
 scl : sc ≤ rs.length
 rch : ∀ j, sc ≤ j → j ≤ rs.length → ∃ i a, safe ≤ i ∧ ms[i]? = some a ∧ opK (rs.take j) = some a
 cur : br = false → opK rs = some s ∧ ms.getLast? = some s ∧ sc = rs.length
 good : ∀ a ∈ ms, SrtG a ∧ a.length ≤ 940000000000
 ne : ms ≠ []
theorem HV.start : HV [] 0 false [] [[]] 0 :=
 ⟨fun r hr => (by cases hr), Nat.le_refl _, fun j h1 h2 => ⟨0, [], Nat.le_refl _, rfl, by rw [List.take_nil]; rfl⟩, fun _ => ⟨rfl, rfl, rfl⟩, fun a ha => by obtain rfl := List.mem_singleton.1 ha; exact ⟨List.Pairwise.nil, by simp⟩, by simp⟩
theorem last_at {α : Type} {l : List α} {x : α} (h : l.getLast? = some x) : l[l.length - 1]? = some x := by rw [← List.getLast?_eq_getElem?]; exact h
theorem HV.last {rs : List (List Int)} {sc : Nat} {s : Kv} {ms : List Kv} {safe : Nat} (h : HV rs sc false s ms safe) : safe ≤ ms.length - 1 := by
 obtain ⟨h1, h2, h3⟩ := h.cur rfl; obtain ⟨i, a, k1, k2, k3⟩ := h.rch rs.length h.scl (Nat.le_refl _); have := (List.getElem?_eq_some_iff.1 k2).1; omega
theorem HV.st {rs : List (List Int)} {sc : Nat} {s : Kv} {ms : List Kv} {safe : Nat} (h : HV rs sc false s ms safe) : GoodS s ∧ SrtG s ∧ s.length ≤ rs.length * 9363 := by
 obtain ⟨t, t1, t2, t3, t4⟩ := opK_snd h.snd; rw [(h.cur rfl).1] at t1; injection t1 with t1
 subst t1; exact ⟨t2, t3, t4⟩
theorem snd_app {rs : List (List Int)} {r : List Int} (h : ∀ x ∈ rs, Snd x) (hr : Snd r) : ∀ x ∈ rs ++ [r], Snd x := fun x hx => by
 rcases List.mem_append.1 hx with hx | hx
 · exact h x hx
 · rw [List.mem_singleton.1 hx]; exact hr
/-- A batch that was put. -/
theorem HV.put {rs : List (List Int)} {sc : Nat} {s : Kv} {ms : List Kv} {safe : Nat} (h : HV rs sc false s ms safe) (hrs : rs.length ≤ 100000000) {l : List Ch} (hok : okL (l.map normC)) (hb : ∀ c ∈ l, KByt c.key ∧ KByt c.val) (hl : (encK l).length ≤ 65535) : HV (rs ++ [0 :: encK l]) (rs.length + 1) false (doPs s (l.map normC)) (ms ++ [doPs s l]) ms.length := by
 obtain ⟨h1, h2, h3⟩ := h.cur rfl; obtain ⟨g1, g2, g3⟩ := h.st; have hs := snd_put hok (norm_byt hb) (by rw [encK_norm]; exact hl); rw [encK_norm] at hs; have hop : opK (rs ++ [0 :: encK l]) = some (doPs s (l.map normC)) := opK_add h1 hs.2; have hlen : (rs ++ [0 :: encK l]).length = rs.length + 1 := by rw [List.length_append]; rfl
 have hl7 := encK_ge7 hok; rw [encK_norm, List.length_map] at hl7; refine ⟨snd_app h.snd hs.1, by rw [hlen]; exact Nat.le_refl _, fun j j1 j2 => ?_, fun _ => ⟨hop, ?_, hlen.symm⟩, fun a ha => ?_, by simp⟩
 · refine ⟨ms.length, doPs s l, Nat.le_refl _, by simp, ?_⟩
   rw [List.take_of_length_le (by omega), hop, doPs_norm]
 · rw [List.getLast?_concat, doPs_norm]
 · rcases List.mem_append.1 ha with ha | ha
   · exact h.good a ha
   · rw [List.mem_singleton.1 ha]
     exact ⟨srt_doPs l g2, by have := doPs_length l s; omega⟩
/-- One that was not, or not for sure. -/
theorem HV.bad {rs rs' : List (List Int)} {sc : Nat} {s : Kv} {ms : List Kv} {safe : Nat} (h : HV rs sc false s ms safe) (hrs : rs.length ≤ 100000000) {l : List Ch} (hok : okL (l.map normC)) (hb : ∀ c ∈ l, KByt c.key ∧ KByt c.val) (hl : (encK l).length ≤ 65535) (hr : rs' = rs ∨ rs' = rs ++ [0 :: encK l]) : HV rs' rs.length true s (ms ++ [doPs s l]) safe := by
 obtain ⟨h1, h2, h3⟩ := h.cur rfl; obtain ⟨g1, g2, g3⟩ := h.st; have hs := snd_put hok (norm_byt hb) (by rw [encK_norm]; exact hl); rw [encK_norm] at hs; have hop : opK (rs ++ [0 :: encK l]) = some (doPs s (l.map normC)) := opK_add h1 hs.2; have hlen : (rs ++ [0 :: encK l]).length = rs.length + 1 := by rw [List.length_append]; rfl
 have hl7 := encK_ge7 hok; rw [encK_norm, List.length_map] at hl7; have hgood : ∀ a ∈ ms ++ [doPs s l], SrtG a ∧ a.length ≤ 940000000000 := fun a ha => by
  rcases List.mem_append.1 ha with ha | ha
  · exact h.good a ha
  · rw [List.mem_singleton.1 ha]
    exact ⟨srt_doPs l g2, by have := doPs_length l s; omega⟩
 have hold : ∃ i a, safe ≤ i ∧ (ms ++ [doPs s l])[i]? = some a ∧ opK rs = some a := by
  obtain ⟨i, a, k1, k2, k3⟩ := h.rch rs.length h.scl (Nat.le_refl _); rw [List.take_of_length_le (Nat.le_refl _)] at k3; exact ⟨i, a, k1, by rw [List.getElem?_append_left (List.getElem?_eq_some_iff.1 k2).1]; exact k2, k3⟩
 rcases hr with rfl | rfl
 · refine ⟨h.snd, Nat.le_refl _, fun j j1 j2 => ?_, fun hc => (by cases hc), hgood, by simp⟩
   rw [List.take_of_length_le (by omega)]; exact hold
 · refine ⟨snd_app h.snd hs.1, by omega, fun j j1 j2 => ?_, fun hc => (by cases hc), hgood, by simp⟩
   rcases (by omega : j = rs.length ∨ j = rs.length + 1) with rfl | rfl
   · rw [List.take_left]
     exact hold
   · refine ⟨ms.length, doPs s l, by have := h.last; omega, by simp, ?_⟩
     rw [List.take_of_length_le (by omega), hop, doPs_norm]
/-- The same without a list of its own. -/
theorem HV.stay {rs : List (List Int)} {sc : Nat} {s : Kv} {ms : List Kv} {safe : Nat} (h : HV rs sc false s ms safe) : HV rs rs.length true s ms safe :=
 ⟨h.snd, Nat.le_refl _, fun j j1 j2 => h.rch j (Nat.le_trans h.scl j1) j2, fun hc => (by cases hc), h.good, h.ne⟩
/-- A snapshot that was not, or not for sure. -/
theorem HV.snapBad {rs rs' : List (List Int)} {sc : Nat} {s : Kv} {ms : List Kv} {safe : Nat} (h : HV rs sc false s ms safe) (hl : (encK (chsOf s)).length ≤ 65535) (hr : rs' = rs ∨ rs' = rs ++ [1 :: encK (chsOf s)]) : HV rs' rs.length true s ms safe := by
 obtain ⟨h1, h2, h3⟩ := h.cur rfl; obtain ⟨g1, g2, g3⟩ := h.st; rcases hr with rfl | rfl
 · exact h.stay
 · have hlen : (rs ++ [1 :: encK (chsOf s)]).length = rs.length + 1 := by rw [List.length_append]; rfl
   have hop : opK (rs ++ [1 :: encK (chsOf s)]) = some s := by
    rw [opK_add h1 (chK_snap g1 g2)]; show some (doPs [] (chsOf s)) = _; rw [doPs_all s [] g2]; rfl
   refine ⟨snd_app h.snd (snd_snap g1 g2 hl), by omega, fun j j1 j2 => ?_, fun hc => (by cases hc), h.good, h.ne⟩; rcases (by omega : j = rs.length ∨ j = rs.length + 1) with rfl | rfl
   · rw [List.take_left]
     obtain ⟨i, a, k1, k2, k3⟩ := h.rch rs.length h.scl (Nat.le_refl _); rw [List.take_of_length_le (Nat.le_refl _)] at k3; exact ⟨i, a, k1, k2, k3⟩
   · refine ⟨ms.length - 1, s, h.last, last_at h2, ?_⟩
     rw [List.take_of_length_le (by omega), hop]
/-- A snapshot. -/
theorem HV.snap {rs rs' : List (List Int)} {sc : Nat} {s : Kv} {ms : List Kv} {safe : Nat} (h : HV rs sc false s ms safe) (hl : (encK (chsOf s)).length ≤ 65535) {k : Nat} (hk : k ≤ rs.length) (hr : rs' = (rs ++ [1 :: encK (chsOf s)]).drop k) : HV rs' rs'.length false s ms safe := by
 obtain ⟨h1, h2, h3⟩ := h.cur rfl; obtain ⟨g1, g2, g3⟩ := h.st; have hr2 : rs' = rs.drop k ++ [1 :: encK (chsOf s)] := by rw [hr, List.drop_append_of_le_length hk]
 have hsn : ∀ x ∈ rs.drop k, Snd x := fun x hx => h.snd x (List.mem_of_mem_drop hx)
 obtain ⟨t, t1, _, _, _⟩ := opK_snd hsn; have hop : opK rs' = some s := by
  rw [hr2, opK_add t1 (chK_snap g1 g2)]; show some (doPs [] (chsOf s)) = _; rw [doPs_all s [] g2]; rfl
 refine ⟨by rw [hr2]; exact snd_app hsn (snd_snap g1 g2 hl), Nat.le_refl _, fun j j1 j2 => ⟨ms.length - 1, s, h.last, last_at h2, ?_⟩, fun _ => ⟨hop, h2, rfl⟩, h.good, h.ne⟩; rw [List.take_of_length_le (by omega), hop]
inductive LsV (w : World) (D : Nat → Prop) : Value → List Ch → Prop where
 | mk (l : List Ch) (a : Option Addr) (cap g o : Nat) (kk vv : Nat → Value)
    (ha : 0 < l.length → a = some ⟨g, o, none⟩) (hd : 0 < l.length → D g)
    (h0 : ∀ i c, l[i]? = some c → w.cell? ⟨g, o + i * 3, none⟩ = some (kk i)) (h1 : ∀ i c, l[i]? = some c → w.cell? ⟨g, o + i * 3 + 1, none⟩ = some (vv i)) (h2 : ∀ i c, l[i]? = some c → w.cell? ⟨g, o + i * 3 + 2, none⟩ = some (.bool c.gone))
    (hk : ∀ i c, l[i]? = some c → KBD w D (kk i) c.key) (hv : ∀ i c, l[i]? = some c → KBD w D (vv i) c.val) : LsV w D (.slice a l.length cap) l
theorem LsV.mono {w w' : World} {D D' : Nat → Prop} {v : Value} {l : List Ch} (h : LsV w D v l) (hk : ∀ b, D b → w'.heap[b]? = w.heap[b]?) (hd : ∀ b, D b → D' b) : LsV w' D' v l := by
 cases h with
 | mk _ a cap g o kk vv ha hdd h0 h1 h2 hkk hvv =>
   have hp : ∀ i c, l[i]? = some c → 0 < l.length := fun i x hx => by have := (List.getElem?_eq_some_iff.1 hx).1; omega
   refine .mk l a cap g o kk vv ha (fun h => hd g (hdd h)) (fun i x hx => ?_) (fun i x hx => ?_) (fun i x hx => ?_) (fun i x hx => (hkk i x hx).mono hk hd) (fun i x hx => (hvv i x hx).mono hk hd)
   · rw [World.cell?_of_block (hk g (hdd (hp i x hx)))]; exact h0 i x hx
   · rw [World.cell?_of_block (hk g (hdd (hp i x hx)))]; exact h1 i x hx
   · rw [World.cell?_of_block (hk g (hdd (hp i x hx)))]; exact h2 i x hx
theorem LsV.form {w : World} {D : Nat → Prop} {v : Value} {l : List Ch} (h : LsV w D v l) : ∃ a cap, v = .slice a l.length cap := by
 cases h with
 | mk _ a cap => exact ⟨a, cap, rfl⟩
theorem LsV.at {w : World} {D : Nat → Prop} {a : Option Addr} {n cap : Nat} {l : List Ch} (h : LsV w D (.slice a n cap) l) {i : Nat} {c : Ch} (hx : l[i]? = some c) : ∃ g o vk vv, a = some ⟨g, o, none⟩ ∧ D g ∧ w.cell? ⟨g, o + i * 3, none⟩ = some vk ∧ w.cell? ⟨g, o + i * 3 + 1, none⟩ = some vv ∧ w.cell? ⟨g, o + i * 3 + 2, none⟩ = some (.bool c.gone) ∧ KBD w D vk c.key ∧ KBD w D vv c.val := by
 cases h with
 | mk _ _ _ g o kk vv ha hd h0 h1 h2 hk hv =>
   have hp : 0 < l.length := by have := (List.getElem?_eq_some_iff.1 hx).1; omega
   exact ⟨g, o, kk i, vv i, ha hp, hd hp, h0 i c hx, h1 i c hx, h2 i c hx, hk i c hx, hv i c hx⟩
theorem LsV.nil (w : World) (D : Nat → Prop) (c : Nat) : LsV w D (.slice none 0 c) [] :=
 .mk [] none c 0 0 (fun _ => .nilIface) (fun _ => .nilIface) (fun h => by simp at h) (fun h => by simp at h) (fun i x hx => by simp at hx) (fun i x hx => by simp at hx) (fun i x hx => by simp at hx) (fun i x hx => by simp at hx) (fun i x hx => by simp at hx)
theorem ChsV.ls {w : World} {D : Nat → Prop} {v : Value} {l : List Ch} (h : ChsV w D v l) : LsV w D v l := by
 cases h with
 | mk _ a cap g o kk vv hc hm hl ha hdd h0 h1 h2 hkk hvv => exact .mk l a cap g o kk vv ha hdd h0 h1 h2 hkk hvv
theorem row_ls {w : World} {base : Nat} {v : Value} {A : List CI} {D : Nat → Prop} (hrow : w.ownsRow base 90 3 v A.length (ciL A)) (hit : ∀ f ∈ A, KBD w D f.vk f.c.key ∧ KBD w D f.vv f.c.val) (hD : ∀ b, v.ownBlock = some b → D b) : LsV w D v (A.map CI.c) := by
 have hmap : ∀ i x, (A.map CI.c)[i]? = some x → ∃ f : CI, A[i]? = some f ∧ f.c = x := fun i x hx => by
  rw [List.getElem?_map] at hx; cases hf : A[i]? with
  | none => rw [hf] at hx; cases hx
  | some f => rw [hf] at hx; injection hx with hx; exact ⟨f, hf, hx⟩
 have hlen : (A.map CI.c).length = A.length := by simp
 have hcells : ∀ g, v.ownBlock = some g → ∀ i f, A[i]? = some f → ∀ j u, (ciC f)[j]? = some u → w.cell? ⟨g, 0 + i * 3 + j, none⟩ = some u := fun g hg i f hf j u hu => by
  have h3 : j < 3 := by
   have := (List.getElem?_eq_some_iff.1 hu).1
   simpa [ciC] using this
  have := hrow.cells hg (i * 3 + j) u (by rw [ciL_at A i f hf j h3]; exact hu); rw [Addr.add_lit, ← Nat.add_assoc] at this; exact this
 rcases hrow.2 with ⟨rfl, h0⟩ | ⟨g, cap, cur, rfl, _, _, h1, h2, _⟩
 · have hA : A = [] := List.eq_nil_of_length_eq_zero h0
   subst hA; exact .mk [] none 0 0 0 (fun _ => .nilIface) (fun _ => .nilIface) (fun h => by simp at h) (fun h => by simp at h) (fun i x hx => by simp at hx) (fun i x hx => by simp at hx) (fun i x hx => by simp at hx) (fun i x hx => by simp at hx) (fun i x hx => by simp at hx)
 · have := LsV.mk (w := w) (D := D) (A.map CI.c) (some ⟨g, 0, none⟩) cap g 0 (fun i => ((A[i]?).map CI.vk).getD .nilIface) (fun i => ((A[i]?).map CI.vv).getD .nilIface)
    (fun _ => rfl) (fun _ => hD g rfl)
    (fun i x hx => by obtain ⟨f, hf, rfl⟩ := hmap i x hx; rw [hf]; exact hcells g rfl i f hf 0 _ rfl)
    (fun i x hx => by obtain ⟨f, hf, rfl⟩ := hmap i x hx; rw [hf]; exact hcells g rfl i f hf 1 _ rfl)
    (fun i x hx => by obtain ⟨f, hf, rfl⟩ := hmap i x hx; exact hcells g rfl i f hf 2 _ rfl)
    (fun i x hx => by obtain ⟨f, hf, rfl⟩ := hmap i x hx; rw [hf]; exact (hit f (List.mem_of_getElem? hf)).1)
    (fun i x hx => by obtain ⟨f, hf, rfl⟩ := hmap i x hx; rw [hf]; exact (hit f (List.mem_of_getElem? hf)).2)
   rw [hlen] at this; exact this
/-- One more than there is room for. -/
theorem grow_one {n : Nat} (hn : n ≤ 3500000000000) : Builtin.nextslicecap (n + 1) n * 56 ≤ 281474976710656 := by
 unfold Builtin.nextslicecap; split
 · omega
 · split
   · omega
   · have h1 : ∀ k c, n + 1 ≤ c → Builtin.growBy (n + 1) k c = c := fun k c hc => by
      cases k with
      | zero => rfl
      | succ k => unfold Builtin.growBy; rw [if_pos hc]
     unfold Builtin.growBy; rw [if_neg (by omega), h1 _ _ (by omega)]; omega
/-- append of one change that lies in a block of its own. -/
theorem run_append_c {w : World} (base : Nat) (ty : TypeId) {v : Value} {A : List CI} (f : CI) (hb : ∃ a l c, f.vk = .slice a l c) (hi : ∃ a l c, f.vv = .slice a l c) (hown : w.ownsRow base 90 3 v A.length (ciL A)) (g : Nat) (hg : w.heap[g]? = some (.cells #[f.vk, f.vv, .bool f.c.gone] 90)) (hl : A.length ≤ 3500000000000) (hbase : base ≤ w.heap.size) :
 ∃ v' w', (Builtin.append_ #[43, 43] ty #[v, .slice (some ⟨g, 0, none⟩) 1 1]).run Tryz.prog w = .ok v' w' ∧ w'.ownsRow base 90 3 v' (A.length + 1) (ciL (A ++ [f])) ∧ w.grownBy w' v.ownBlock ∧ (v'.ownBlock = v.ownBlock ∨ v'.ownBlock = some w.heap.size) := by
 obtain ⟨i0, hi0, hz0, hz1, hz2⟩ := info90c; have hc : ciL (A ++ [f]) = ciL A ++ ciC f := by rw [ciL_append]; simp [ciL]
 rw [hc]; have hnews : ∀ j u, (ciC f)[j]? = some u → w.cell? ((⟨g, 0, none⟩ : Addr).add j) = some u := fun j u hu => by
  rw [Addr.add_lit, Nat.zero_add, cell_of_block hg]
  simpa [ciC] using hu
 have h1 : ∀ u ∈ ciC f, u.oneCell' = true := fun u hu => by
  obtain ⟨_, _, _, e1⟩ := hb; obtain ⟨_, _, _, e2⟩ := hi; simp only [ciC, List.mem_cons, List.not_mem_nil, or_false] at hu; rcases hu with rfl | rfl | rfl
  · rw [e1]; rfl
  · rw [e2]; rfl
  · rfl
 by_cases hsm : (A.length + 1) * 56 ≤ 140737488355328
 · obtain ⟨v', w', hr, h2, h3, _, h5⟩ := run_append_own_at (P := Tryz.prog) w base 43 ty 90 i0 _ 3 56 Tryz.underlying43 hi0 hz0 hz1 hz2 rfl (by decide) v A.length (ciL A) hown ⟨g, 0, none⟩ 1 1 (ciC f) rfl hnews h1 (by unfold maxLen; omega) (by omega) hbase
   exact ⟨v', w', hr, h2, h3, h5⟩
 · have hlen : (ciL A ++ ciC f).length = (A.length + 1) * 3 := by rw [List.length_append, hown.1]; simp [ciC]; omega
   rcases hown.2 with ⟨_, h0⟩ | ⟨g', cap, cur, rfl, hbg, hg', hnc, hcm, hcs, htake⟩
   · omega
   · by_cases hroom : A.length + 1 ≤ cap
     · have hfit : A.length * i0.size + (ciC f).length ≤ cur.size := by rw [hz1, hcs]; simp [ciC]; omega
       have hr := run_append_room (P := Tryz.prog) w 43 ty 90 i0 Tryz.underlying43 hi0 g' A.length cap cur hg' ⟨g, 0, none⟩ 1 1 (ciC f) (by rw [hz1]; rfl) hnews h1 hroom hfit; rw [hz1] at hr; refine ⟨_, _, hr, ⟨hlen, .inr ⟨g', cap, _, rfl, hbg, setRow_heap w g' cur _ 90 _ hg', hroom, hcm, ?_, ?_⟩⟩, ⟨rfl, rfl, rfl, by simp, fun k _ hk => setRow_other w g' k _ (fun e => hk (by simp [Value.ownBlock, e]))⟩, Or.inl rfl⟩
       · simp only [List.size_toArray, List.length_append, List.length_take, List.length_drop, Array.length_toList]
         rw [hz1] at hfit; omega
       · rw [htake, ← hlen]
         exact List.take_left
     · have hce : cap = A.length := by omega
       subst hce; have holds : ∀ j u, (ciL A)[j]? = some u → w.cell? ((⟨g', 0, none⟩ : Addr).add j) = some u := hown.cells (g := g') rfl; have hr := run_append_grow (P := Tryz.prog) w 43 ty 90 i0 _ Tryz.underlying43 hi0 hz0 ⟨g', 0, none⟩ A.length A.length (ciL A) (by rw [hz1]; exact hown.1) holds ⟨g, 0, none⟩ 1 1 (ciC f) (by rw [hz1]; rfl) hnews (by omega) (by omega) (by rw [hz2]; exact grow_one hl); have hge := grownCap_ge w (A.length + 1) A.length 90; have hcm2 : grownCap w (A.length + 1) A.length 90 ≤ maxLen := grownCap_le_maxLen w (A.length + 1) A.length 90 (by unfold maxLen; omega); refine ⟨_, _, hr, ⟨hlen, .inr ⟨w.heap.size, _, _, rfl, hbase, heap_alloc_new w.drew _, hge, hcm2, ?_, ?_⟩⟩, ⟨rfl, rfl, rfl, by simp, fun k hk _ => heap_alloc_old w.drew _ k hk⟩, Or.inr rfl⟩
       · simp only [Array.size_append, List.size_toArray, size_zeroCells, hown.1]
         show A.length * 3 + 3 + (grownCap w (A.length + 1) A.length 90 - (A.length + 1)) * 3 = grownCap w (A.length + 1) A.length 90 * 3; omega
       · simp only [Array.toList_append, List.append_assoc]
         rw [← List.append_assoc, ← hlen]; exact List.take_left
theorem wpList_append_c {w : World} {ops : Array Oper} {rest : List Oper} {o : Oper} {a : Act} {Q : Exit → Act → World → Prop} (hgd : o.guard = none) (s x : Operand)
 (ho : o.op = .call { callee := .builtin .append, args := #[s, x], argTypes := #[43, 43] }) (base : Nat)
 (v : Value) (A : List CI) (f : CI) (hb : ∃ a l c, f.vk = .slice a l c) (hi : ∃ a l c, f.vv = .slice a l c) (hs : a.eval s = v) (hown : w.ownsRow base 90 3 v A.length (ciL A)) (g : Nat) (hx : a.eval x = .slice (some ⟨g, 0, none⟩) 1 1) (hg : w.heap[g]? = some (.cells #[f.vk, f.vv, .bool f.c.gone] 90)) (hl : A.length ≤ 3500000000000) (hbase : base ≤ w.heap.size)
 (h : ∀ v' w', w'.ownsRow base 90 3 v' (A.length + 1) (ciL (A ++ [f])) → w.grownBy w' v.ownBlock → (v'.ownBlock = v.ownBlock ∨ v'.ownBlock = some w.heap.size) → wpList Tryz.prog ops Q rest (a.put o.dst v') w') : wpList Tryz.prog ops Q (o :: rest) a w := by
 obtain ⟨v', w', hr, h2, h3, h5⟩ := run_append_c base o.type f hb hi hown g hg hl hbase; refine wpList_plain hgd fun K hK => ?_
 unfold Oper.wp execOp; simp only [ho, resolve, invoke, builtin, Sem.run_bind, Sem.run_pure, Result.andThen_ok, List.map_toArray, List.map_cons, List.map_nil, hs, hx, hr]; exact hK _ _ (h v' w' h2 h3 h5)
end Go.Proofs.YtconkienlcegaaaGreatDoor
