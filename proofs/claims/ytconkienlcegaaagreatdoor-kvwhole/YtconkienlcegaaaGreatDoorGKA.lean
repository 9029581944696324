/- NF, KM, KA -/
import Derived.Test.YtconkienlcegaaaGreatDoorGND
import Derived.Test.YtconkienlcegaaaGreatDoorNE
import Derived.Test.YtconkienlcegaaaGreatDoorGWC
import Derived.Laws.Bits64b
namespace Go.Proofs.YtconkienlcegaaaGreatDoor
open Go.RowKit Go.Maps Go.Joins Go.Sort
set_option linter.unusedVariables false
set_option linter.unusedSimpArgs false
theorem pTrim_steps (n : Int) : ∀ (fs : List Int) (A : DA) (rs : List (List Int)), (pTrim fs A rs n).2.1.steps ≤ A.steps + fs.length
 | [], A, rs => by unfold pTrim; show A.steps ≤ A.steps + (0 : Nat); omega
 | [a], A, rs => by unfold pTrim; show A.steps ≤ A.steps + (1 : Nat); omega
 | a :: b :: r, A, rs => by
   have h1 := (dDo_steps A (fileB logB a) (eFind A.l (fileB logB a)) (lRem A.l (fileB logB a))).2; have h2 := pTrim_steps n (b :: r) (dRem A (fileB logB a)).2 (rs.drop (b - a).toNat); have h3 : (dRem A (fileB logB a)).2.steps ≤ A.steps + 1 := h1; have h4 : (a :: b :: r).length = (b :: r).length + 1 := rfl; unfold pTrim; split
   · split
     · omega
     · show (dRem A (fileB logB a)).2.steps ≤ _
       omega
   · show A.steps ≤ _
     omega
theorem NmB.dRem {A : DA} (h : NmB A.l) (s : ByteArray) : NmB (Proofs.YtconkienlcegaaaGreatDoor.dRem A s).2.l := by
 show NmB (if A.sE s = 0 then lRem A.l s else A.l); split
 · unfold lRem
   split
   · split
     · exact h.del _
     · exact h
   · exact h
 · exact h
theorem pTrim_nmb (n : Int) : ∀ (fs : List Int) {A : DA} (rs : List (List Int)), NmB A.l → NmB (pTrim fs A rs n).2.1.l
 | [], A, rs, h => h
 | [a], A, rs, h => h
 | a :: b :: r, A, rs, h => by
   unfold pTrim; split
   · split
     · exact pTrim_nmb n (b :: r) _ (h.dRem _)
     · exact h.dRem _
   · exact h
theorem trimOk_seq : ∀ {gs : List Seg} {n : Int}, SegSeq n gs → TrimOk (gs.map (·.1)) (gs.flatMap (·.2)).length
 | [], n, _ => trivial
 | [g], n, _ => trivial
 | g :: k :: r, n, h => by
   have h1 : g.1 = n := h.1; have h2 : k.1 = n + g.2.length := h.2.2.1; have h3 : 0 < g.2.length := List.length_pos_iff.2 h.2.1; have ih := trimOk_seq (gs := k :: r) h.2.2; have h4 : (k.1 - g.1).toNat = g.2.length := by omega
   show g.1 < k.1 ∧ (k.1 - g.1).toNat ≤ ((g :: k :: r).flatMap (·.2)).length ∧ TrimOk ((k :: r).map (·.1)) (((g :: k :: r).flatMap (·.2)).length - (k.1 - g.1).toNat); refine ⟨by omega, ?_, ?_⟩
   · rw [h4, List.flatMap_cons, List.length_append]
     omega
   · rw [h4, List.flatMap_cons, List.length_append, Nat.add_sub_cancel_left]
     exact ih
theorem TV.trimOk {l : List Tf} {P : PL} {n0 : Int} {ini : List Seg} {la : Option Seg} {sc : Nat} (h : TV l P n0 ini la sc) : TrimOk P.fs P.rs.length := by
 rw [h.fs, h.rs]; exact trimOk_seq h.seq
theorem dRem_here {A : DA} {s : Seg} {z : Int} (h : SegOk A.l s z) : ((dRem A (fileB logB s.1)).1 = 0 → (dRem A (fileB logB s.1)).2.l = delT A.l (nmF s.1)) ∧ (¬ (dRem A (fileB logB s.1)).1 = 0 → (dRem A (fileB logB s.1)).2.l = A.l) := by
 have hh : fT A.l (nb (fileB logB s.1)) = _ := h.here; have hf : eFind A.l (fileB logB s.1) = 0 := by
  unfold eFind; rw [if_pos h.nm, hh]; rfl
 have hl : lRem A.l (fileB logB s.1) = delT A.l (nmF s.1) := by
  unfold lRem; rw [if_pos h.nm, hh]; rfl
 have hc : (dRem A (fileB logB s.1)).1 = A.sE (fileB logB s.1) := by
  show (if A.sE _ = 0 then eFind _ _ else A.sE _) = _; rw [hf]; split
  · rename_i h0
    exact h0.symm
  · rfl
 have hl2 : (dRem A (fileB logB s.1)).2.l = if A.sE (fileB logB s.1) = 0 then delT A.l (nmF s.1) else A.l := by
  show (if A.sE _ = 0 then lRem _ _ else A.l) = _; rw [hl]
 rw [hc, hl2]; exact ⟨fun h0 => if_pos h0, fun h0 => if_neg h0⟩
/-- A log without its first file. -/
theorem TV.tail {l : List Tf} {P : PL} {n0 : Int} {g s : Seg} {r : List Seg} (h : TV l P n0 (g :: r) (Option.some s) P.rs.length) :
 TV (delT l (nmF g.1)) { P with fs := (r ++ [s]).map (·.1), rs := P.rs.drop g.2.length } (n0 + g.2.length) r (Option.some s) (P.rs.drop g.2.length).length := by
 have hlt := h.seq.lt; have hlt2 : (g.1 :: (r ++ [s]).map (·.1)).Pairwise (· < ·) := hlt; rw [List.pairwise_cons] at hlt2; obtain ⟨zg, hg⟩ := h.ok (s := g) (by simp); have hne : ∀ q ∈ r ++ [s], nmF q.1 ≠ nmF g.1 := fun q hq e => by
  obtain ⟨z, hz⟩ := h.ok (s := q) (List.mem_cons_of_mem _ hq); have h1 := file_inj (name_lt hz.nm) (name_lt hg.nm) e; have h2 := hlt2.1 q.1 (List.mem_map_of_mem hq); omega
 have hrs : P.rs = g.2 ++ (r ++ [s]).flatMap (·.2) := h.rs; have hdr : P.rs.drop g.2.length = (r ++ [s]).flatMap (·.2) := by rw [hrs, List.drop_left]
 refine ⟨rfl, hdr, h.seq.2.2, fun q hq => (h.full q (List.mem_cons_of_mem _ hq)).kept (fT_del (hne q (List.mem_append_left _ hq))), fun hn => (by cases hn), fun q hq => ?_, fun p hp => ?_, fun hn => (by cases hn)⟩
 · injection hq with hq
   subst hq; obtain ⟨q1, j, q2, q3, q4, q5⟩ := h.las s rfl; refine ⟨q1, j, q2, q3.kept (fT_del (hne s (by simp))), q4, ?_⟩; have h1 : P.rs.length = g.2.length + (P.rs.drop g.2.length).length := by
    rw [hdr, hrs, List.length_append]
   rw [cntS_cons] at q5; omega
 · obtain ⟨h1, h2⟩ := List.mem_filter.1 hp
   obtain ⟨q, hq, he⟩ := h.only p h1; rcases List.mem_cons.1 hq with rfl | hq
   · rw [he] at h2
     simp at h2
   · exact ⟨q, hq, he⟩
theorem segs_cnt : ∀ {gs : List Seg} {l : List Tf}, (gs.map (·.1)).Pairwise (· < ·) → (∀ s ∈ gs, ∃ z, SegOk l s z) → gs.length ≤ l.length
 | [], l, _, _ => Nat.zero_le _
 | g :: r, l, hp, h => by
   obtain ⟨z, hz⟩ := h g List.mem_cons_self; have hd := (del_here (n := nmF g.1) (p := (nmF g.1, joinF g.2, z)) rfl (fT_mem hz.here).1).1; rw [List.map_cons, List.pairwise_cons] at hp; have ih := segs_cnt (gs := r) (l := delT l (nmF g.1)) hp.2 fun s hs => by
    obtain ⟨y, hy⟩ := h s (List.mem_cons_of_mem _ hs); refine ⟨y, hy.kept (fT_del fun e => ?_)⟩; have h1 := file_inj (name_lt hy.nm) (name_lt hz.nm) e; have h2 := hp.1 s.1 (List.mem_map_of_mem hs); omega
   rw [List.length_cons]; omega
theorem TV.files {l : List Tf} {P : PL} {n0 : Int} {ini : List Seg} {la : Option Seg} {sc : Nat} (h : TV l P n0 ini la sc) : P.fs.length ≤ l.length := by
 rw [h.fs, List.length_map]; exact segs_cnt h.seq.lt fun s hs => h.ok hs
/-- Trim. -/
theorem TV.trim (n : Int) {la : Option Seg} : ∀ (ini : List Seg) {A : DA} {P : PL} {n0 : Int}, TV A.l P n0 ini la P.rs.length →
 ∃ n1 ini', TV (pTrim P.fs A P.rs n).2.1.l { P with fs := (pTrim P.fs A P.rs n).2.2.1, rs := (pTrim P.fs A P.rs n).2.2.2 } n1 ini' la (pTrim P.fs A P.rs n).2.2.2.length ∧ n0 ≤ n1 ∧ (pTrim P.fs A P.rs n).2.2.2 = P.rs.drop (n1 - n0).toNat ∧ (n1 = n0 ∨ n1 ≤ n)
 | ini, A, P, n0, h => by
   have stay : (pTrim P.fs A P.rs n).2.1.l = A.l → (pTrim P.fs A P.rs n).2.2.1 = P.fs → (pTrim P.fs A P.rs n).2.2.2 = P.rs → ∃ n1 ini', TV (pTrim P.fs A P.rs n).2.1.l { P with fs := (pTrim P.fs A P.rs n).2.2.1, rs := (pTrim P.fs A P.rs n).2.2.2 } n1 ini' la (pTrim P.fs A P.rs n).2.2.2.length ∧ n0 ≤ n1 ∧ (pTrim P.fs A P.rs n).2.2.2 = P.rs.drop (n1 - n0).toNat ∧ (n1 = n0 ∨ n1 ≤ n) := fun e1 e2 e3 => by
    rw [e1, e2, e3]; exact ⟨n0, ini, h, by omega, by rw [Int.sub_self]; rfl, Or.inl rfl⟩
   have hfs := h.fs; cases hla : la with
   | none =>
     rw [← hla]; have h0 := (h.nil0 hla).1; rw [h0, hla] at hfs; have hfs' : P.fs = [] := hfs; apply stay
     · rw [hfs']; rfl
     · rw [hfs']; rfl
     · rw [hfs']; rfl
   | some s =>
     rw [← hla]; cases ini with
     | nil =>
       rw [hla] at hfs; have hfs' : P.fs = [s.1] := hfs; apply stay
       · rw [hfs']; rfl
       · rw [hfs']; rfl
       · rw [hfs']; rfl
     | cons g r =>
       obtain ⟨b, t, hbt⟩ : ∃ b t, (r ++ [s]).map (·.1) = b :: t := by
        cases hx : (r ++ [s]).map (·.1) with
        | nil => simp at hx
        | cons b t => exact ⟨b, t, rfl⟩
       have hfs' : P.fs = g.1 :: b :: t := by
        rw [hfs, hla]; show g.1 :: (r ++ [s]).map (·.1) = _; rw [hbt]
       have hsq := h.seq; rw [hla] at hsq; have hgn : g.1 = n0 := hsq.1; have hb : b = n0 + g.2.length := by
        have h2 : SegSeq (n0 + g.2.length) (r ++ [s]) := hsq.2.2; cases hx : r ++ [s] with
        | nil => simp at hx
        | cons k u =>
          rw [hx] at h2 hbt; rw [List.map_cons] at hbt; injection hbt with e1 e2
          rw [← e1]; exact h2.1
       obtain ⟨z, hz⟩ := h.ok (s := g) (by simp); obtain ⟨hd1, hd2⟩ := dRem_here hz; by_cases hbn : b ≤ n
       · by_cases h0 : (dRem A (fileB logB g.1)).1 = 0
         · have hba : (b - g.1).toNat = g.2.length := by omega
           have ep : pTrim P.fs A P.rs n = pTrim (b :: t) (dRem A (fileB logB g.1)).2 (P.rs.drop g.2.length) n := by
            rw [hfs']; conv => lhs; unfold pTrim
            rw [if_pos hbn, if_pos h0, hba]
           have ht := TV.tail (hla ▸ h); rw [← hd1 h0, hbt] at ht; obtain ⟨n1, ini', k1, k2, k3, k4⟩ := TV.trim n r (A := (dRem A (fileB logB g.1)).2) (P := { P with fs := b :: t, rs := P.rs.drop g.2.length }) (hla.symm ▸ ht); dsimp only at k1 k2 k3 k4; rw [← ep] at k1 k3; refine ⟨n1, ini', k1, by omega, ?_, ?_⟩
           · rw [k3, List.drop_drop]
             congr 1
             omega
           · rcases k4 with k4 | k4
             · right; omega
             · exact Or.inr k4
         · have ep : pTrim P.fs A P.rs n = ((dRem A (fileB logB g.1)).1, (dRem A (fileB logB g.1)).2, P.fs, P.rs) := by
            rw [hfs']; conv => lhs; unfold pTrim
            rw [if_pos hbn, if_neg h0]
           apply stay
           · rw [ep]; exact hd2 h0
           · rw [ep]
           · rw [ep]
       · have ep : pTrim P.fs A P.rs n = (0, A, P.fs, P.rs) := by
          rw [hfs']; conv => lhs; unfold pTrim
          rw [if_neg hbn]
         apply stay
         · rw [ep]
         · rw [ep]
         · rw [ep]
end Go.Proofs.YtconkienlcegaaaGreatDoor
namespace Go.Proofs.YtconkienlcegaaaGreatDoor
set_option linter.unusedSimpArgs false
set_option linter.unusedVariables false
/-- A change. -/
structure Ch where
 key : List Int
 val : List Int
 gone : Bool
def KByt (bs : List Int) : Prop := ∀ c ∈ bs, 0 ≤ c ∧ c < 256
def k2 (n : Nat) : List Int := [((n / 256 % 256 : Nat) : Int), ((n % 256 : Nat) : Int)]
def k4 (n : Nat) : List Int := [((n / 16777216 % 256 : Nat) : Int), ((n / 65536 % 256 : Nat) : Int), ((n / 256 % 256 : Nat) : Int), ((n % 256 : Nat) : Int)]
theorem k2_length (n : Nat) : (k2 n).length = 2 := rfl
theorem k4_length (n : Nat) : (k4 n).length = 4 := rfl
/-- The number of bytes, the highest first. -/
def kNum (bs : List Int) : Nat := bs.foldl (fun n c => n * 256 + c.toNat) 0
theorem kNum_k2 {n : Nat} (h : n < 65536) : kNum (k2 n) = n := by
 simp only [kNum, k2, List.foldl_cons, List.foldl_nil, Int.toNat_natCast]; omega
theorem kNum_k4 {n : Nat} (h : n < 4294967296) : kNum (k4 n) = n := by
 simp only [kNum, k4, List.foldl_cons, List.foldl_nil, Int.toNat_natCast]; omega
theorem k2_kNum {bs : List Int} (hl : bs.length = 2) (hb : KByt bs) : k2 (kNum bs) = bs ∧ kNum bs < 65536 := by
 match bs, hl with
 | [a, b], _ =>
   have ha := hb a (by simp); have hb' := hb b (by simp); simp only [kNum, k2, List.foldl_cons, List.foldl_nil]; refine ⟨?_, by omega⟩; congr 1
   · omega
   · congr 1
     omega
theorem k4_kNum {bs : List Int} (hl : bs.length = 4) (hb : KByt bs) : k4 (kNum bs) = bs ∧ kNum bs < 4294967296 := by
 match bs, hl with
 | [a, b, c, d], _ =>
   have h1 := hb a (by simp); have h2 := hb b (by simp); have h3 := hb c (by simp); have h4 := hb d (by simp); simp only [kNum, k4, List.foldl_cons, List.foldl_nil]; refine ⟨?_, by omega⟩; congr 1
   · omega
   · congr 1
     · omega
     · congr 1
       · omega
       · congr 1
         omega
/-- The bytes of a change. -/
def encC (c : Ch) : List Int := k2 c.key.length ++ (c.key ++ (if c.gone then k4 4294967295 else k4 c.val.length ++ c.val))
def encK (l : List Ch) : List Int := l.flatMap encC
def okK (c : Ch) : Prop := 1 ≤ c.key.length ∧ c.key.length ≤ 64
theorem encC_length (c : Ch) : (encC c).length = 6 + c.key.length + (if c.gone then 0 else c.val.length) := by
 unfold encC; cases c.gone <;> simp [k2_length, k4_length] <;> omega
/-- The change with which bytes begin, and how many of them it takes. -/
def nxC (b : List Int) : Option (Ch × Nat) :=
 if b.length < 2 then none else
 if kNum (b.take 2) < 1 ∨ 64 < kNum (b.take 2) then none else
 if b.length < 6 + kNum (b.take 2) then none else
 if kNum ((b.drop (2 + kNum (b.take 2))).take 4) = 4294967295 then some (⟨(b.drop 2).take (kNum (b.take 2)), [], true⟩, 6 + kNum (b.take 2)) else
 if b.length - (6 + kNum (b.take 2)) < kNum ((b.drop (2 + kNum (b.take 2))).take 4) then none else
 some (⟨(b.drop 2).take (kNum (b.take 2)), (b.drop (6 + kNum (b.take 2))).take (kNum ((b.drop (2 + kNum (b.take 2))).take 4)), false⟩, 6 + kNum (b.take 2) + kNum ((b.drop (2 + kNum (b.take 2))).take 4))
theorem nxC_enc (c : Ch) (hk : okK c) (hv : c.val.length < 4294967295) (hg : c.gone = true → c.val = []) (rest : List Int) : nxC (encC c ++ rest) = some (c, (encC c).length) := by
 obtain ⟨key, val, gone⟩ := c; have hk1 : 1 ≤ key.length := hk.1; have hk2 : key.length ≤ 64 := hk.2; have hv : val.length < 4294967295 := hv; have hl := encC_length ⟨key, val, gone⟩; have e2 : (encC ⟨key, val, gone⟩ ++ rest).take 2 = k2 key.length := by simp [encC, k2]
 have n2 : kNum ((encC ⟨key, val, gone⟩ ++ rest).take 2) = key.length := by rw [e2, kNum_k2 (by omega)]
 have ed : (encC ⟨key, val, gone⟩ ++ rest).drop 2 = key ++ ((if gone then k4 4294967295 else k4 val.length ++ val) ++ rest) := by simp [encC, k2]
 have ed2 : (encC ⟨key, val, gone⟩ ++ rest).drop (2 + key.length) = (if gone then k4 4294967295 else k4 val.length ++ val) ++ rest := by
  rw [← List.drop_drop, ed]; simp
 have ekey : ((encC ⟨key, val, gone⟩ ++ rest).drop 2).take key.length = key := by rw [ed]; simp
 simp only [] at hl; unfold nxC; rw [n2, ekey]; cases gone with
 | true =>
   have hv0 : val = [] := hg rfl; subst hv0; have e4 : ((encC ⟨key, [], true⟩ ++ rest).drop (2 + key.length)).take 4 = k4 4294967295 := by rw [ed2]; simp [k4]
   rw [e4, kNum_k4 (by decide)]; simp only [if_true] at hl; rw [if_neg (by rw [List.length_append]; omega), if_neg (by omega), if_neg (by rw [List.length_append]; omega), if_pos rfl, hl]; rfl
 | false =>
   have e4 : ((encC ⟨key, val, false⟩ ++ rest).drop (2 + key.length)).take 4 = k4 val.length := by rw [ed2]; simp [k4]
   have e6 : (encC ⟨key, val, false⟩ ++ rest).drop (6 + key.length) = val ++ rest := by
    rw [show 6 + key.length = (2 + key.length) + 4 from by omega, ← List.drop_drop, ed2]; simp [k4]
   rw [e4, kNum_k4 (by omega), e6]; simp only [Bool.false_eq_true, if_false] at hl; rw [if_neg (by rw [List.length_append]; omega), if_neg (by omega), if_neg (by rw [List.length_append]; omega), if_neg (by omega), if_neg (by rw [List.length_append]; omega), hl]; congr 3; simp
theorem KByt.take {bs : List Int} (h : KByt bs) (n : Nat) : KByt (bs.take n) := fun c hc => h c (List.mem_of_mem_take hc)
theorem KByt.drop {bs : List Int} (h : KByt bs) (n : Nat) : KByt (bs.drop n) := fun c hc => h c (List.mem_of_mem_drop hc)
theorem nxC_ok {b : List Int} (hb : KByt b) {c : Ch} {n : Nat} (h : nxC b = some (c, n)) : b.take n = encC c ∧ n ≤ b.length ∧ 7 ≤ n ∧ okK c ∧ (c.gone = true → c.val = []) ∧ KByt c.key ∧ KByt c.val ∧ c.val.length < 4294967295 := by
 unfold nxC at h; by_cases g1 : b.length < 2
 · rw [if_pos g1] at h; cases h
 rw [if_neg g1] at h; obtain ⟨s, hs⟩ : ∃ s, s = kNum (b.take 2) := ⟨_, rfl⟩
 have q2 := k2_kNum (bs := b.take 2) (by rw [List.length_take]; omega) (hb.take 2); rw [← hs] at h q2; by_cases g2 : s < 1 ∨ 64 < s
 · rw [if_pos g2] at h; cases h
 rw [if_neg g2] at h; by_cases g3 : b.length < 6 + s
 · rw [if_pos g3] at h; cases h
 rw [if_neg g3] at h; obtain ⟨t, ht⟩ : ∃ t, t = kNum ((b.drop (2 + s)).take 4) := ⟨_, rfl⟩
 have q4 := k4_kNum (bs := (b.drop (2 + s)).take 4) (by rw [List.length_take, List.length_drop]; omega) ((hb.drop _).take 4); rw [← ht] at h q4; have hkl : ((b.drop 2).take s).length = s := by rw [List.length_take, List.length_drop]; omega
 have hsplit : b.take (6 + s) = k2 s ++ ((b.drop 2).take s ++ k4 t) := by
  rw [q2.1, q4.1, show 6 + s = 2 + (s + 4) from by omega, List.take_add, List.take_add, List.drop_drop]
 by_cases g4 : t = 4294967295
 · rw [if_pos g4] at h
   injection h with h
   simp only [Prod.mk.injEq] at h; obtain ⟨rfl, rfl⟩ := h; refine ⟨?_, by omega, by omega, ⟨by show 1 ≤ ((b.drop 2).take s).length; omega, by show ((b.drop 2).take s).length ≤ 64; omega⟩, fun _ => rfl, (hb.drop 2).take s, (fun c hc => by cases hc), (by show (0 : Nat) < _; omega)⟩; rw [hsplit, g4]; simp [encC, hkl]
 · rw [if_neg g4] at h
   by_cases g5 : b.length - (6 + s) < t
   · rw [if_pos g5] at h; cases h
   rw [if_neg g5] at h; injection h with h
   simp only [Prod.mk.injEq] at h; obtain ⟨rfl, rfl⟩ := h; have hvl : ((b.drop (6 + s)).take t).length = t := by rw [List.length_take, List.length_drop]; omega
   refine ⟨?_, by omega, by omega, ⟨by show 1 ≤ ((b.drop 2).take s).length; omega, by show ((b.drop 2).take s).length ≤ 64; omega⟩, fun h => by simp at h, (hb.drop 2).take s, (hb.drop _).take t, by show ((b.drop (6 + s)).take t).length < _; have := q4.2; omega⟩; rw [List.take_add, hsplit]; simp [encC, hkl, hvl]
/-- The changes of a record; none: it is rotten. -/
def unK : Nat → List Int → Option (List Ch)
 | 0, b => if b = [] then some [] else none
 | k + 1, b => if b = [] then some [] else
   match nxC b with
   | none => none
   | some (c, n) => (unK k (b.drop n)).map (c :: ·)
theorem encK_cons (c : Ch) (l : List Ch) : encK (c :: l) = encC c ++ encK l := rfl
theorem unK_enc : ∀ (l : List Ch), (∀ c ∈ l, okK c ∧ c.val.length < 4294967295 ∧ (c.gone = true → c.val = [])) → ∀ k, (encK l).length ≤ k → unK k (encK l) = some l := by
 intro l; induction l with
 | nil => intro _ k _; cases k <;> simp [unK, encK]
 | cons c l ih =>
   intro h k hk; have hc := h c (by simp); have hl := encC_length c; have hlen : (encK (c :: l)).length = (encC c).length + (encK l).length := by rw [encK_cons, List.length_append]
   cases k with
   | zero => omega
   | succ k =>
     have hne : encK (c :: l) ≠ [] := fun e => by rw [e] at hlen; simp at hlen; omega
     unfold unK; rw [if_neg hne, encK_cons, nxC_enc c hc.1 hc.2.1 hc.2.2]; simp only []; rw [show (encC c ++ encK l).drop (encC c).length = encK l from by simp, ih (fun x hx => h x (by simp [hx])) k (by omega)]; rfl
theorem unK_ok : ∀ (k : Nat) (b : List Int) (l : List Ch), KByt b → unK k b = some l → encK l = b ∧ ∀ c ∈ l, okK c ∧ (c.gone = true → c.val = []) ∧ KByt c.key ∧ KByt c.val ∧ c.val.length < 4294967295 := by
 intro k; induction k with
 | zero =>
   intro b l hb h; unfold unK at h; by_cases e : b = []
   · rw [if_pos e] at h
     injection h with h
     subst h; exact ⟨by rw [e]; rfl, fun c hc => by cases hc⟩
   · rw [if_neg e] at h; cases h
 | succ k ih =>
   intro b l hb h; unfold unK at h; by_cases e : b = []
   · rw [if_pos e] at h
     injection h with h
     subst h; exact ⟨by rw [e]; rfl, fun c hc => by cases hc⟩
   · rw [if_neg e] at h
     cases hn : nxC b with
     | none => rw [hn] at h; cases h
     | some q =>
       obtain ⟨c, n⟩ := q; rw [hn] at h; simp only [] at h; cases hr : unK k (b.drop n) with
       | none => rw [hr] at h; cases h
       | some r =>
         rw [hr] at h; injection h with h
         subst h; have q := nxC_ok hb hn; have i := ih (b.drop n) r (hb.drop n) hr; refine ⟨?_, fun x hx => ?_⟩
         · rw [encK_cons, i.1, ← q.1, List.take_append_drop]
         · rcases List.mem_cons.1 hx with rfl | hx
           · exact ⟨q.2.2.2.1, q.2.2.2.2.1, q.2.2.2.2.2.1, q.2.2.2.2.2.2.1, q.2.2.2.2.2.2.2⟩
           · exact i.2 x hx
end Go.Proofs.YtconkienlcegaaaGreatDoor
namespace Go.Proofs.YtconkienlcegaaaGreatDoor
open Go.RowKit Go.Maps Go.Joins
set_option linter.unusedSimpArgs false
set_option linter.unusedVariables false
theorem kNum_snoc (bs : List Int) (c : Int) : kNum (bs ++ [c]) = kNum bs * 256 + c.toNat := by unfold kNum; rw [List.foldl_append]; rfl
theorem kNum_take {l : List Int} {j : Nat} {c : Int} (h : l[j]? = some c) : kNum (l.take (j + 1)) = kNum (l.take j) * 256 + c.toNat := by
 rw [List.take_add_one, h]; exact kNum_snoc _ _
theorem kNum_lt : ∀ (bs : List Int), KByt bs → kNum bs < 256 ^ bs.length := by
 intro bs; generalize hk : bs.length = k; induction k generalizing bs with
 | zero =>
   intro _; have : bs = [] := List.eq_nil_of_length_eq_zero hk; subst this; decide
 | succ k ih =>
   intro hby
   obtain ⟨r, c, rfl⟩ : ∃ r c, bs = r ++ [c] := by
    have hne : bs ≠ [] := by intro e; subst e; simp at hk
    exact ⟨bs.dropLast, bs.getLast hne, (List.dropLast_concat_getLast hne).symm⟩
   have hc := hby c (by simp); have := ih r (by simpa using hk) (fun x hx => hby x (by simp [hx])); rw [kNum_snoc, Nat.pow_succ]; omega
theorem kor256 (y : Nat) (x : Int) (hy : y < 72057594037927936) (h0 : 0 ≤ x) (h1 : x < 256) : bits .or .u64 ((y : Int) * 256) x = ((y * 256 + x.toNat : Nat) : Int) := by
 obtain ⟨x, rfl⟩ := Int.eq_ofNat_of_zero_le h0; have hx : x < 256 := by omega
 have e0 : ((y : Int) * 256) = ((y * 256 : Nat) : Int) := by simp
 have hsh : y * 2 ^ 8 ||| x = y * 2 ^ 8 + x := by rw [← Nat.shiftLeft_eq, ← Nat.shiftLeft_add_eq_or_of_lt (by omega)]
 rw [e0, bits_or_u64_nat _ _ (by omega) (by omega), show y * 256 = y * 2 ^ 8 from by omega, hsh]; simp
set_option maxRecDepth 100000 in
set_option maxHeartbeats 8000000 in
/-- kv.number -/
theorem knum_any {w : World} {a : Option Addr} {cap : Nat} {bs : List Int} (h : BytesV w (.slice a bs.length cap) bs) (hb : KByt bs) (hl : bs.length ≤ 7) :
 Calls Tryz.prog 125 #[.slice a bs.length cap] w fun e w' => e = .returned (.int .u64 ((kNum bs : Nat) : Int)) ∧ w' = w := by
 have HS : Hid (BytesV w (.slice a bs.length cap) bs) := h; have HB : Hid (KByt bs) := hb; obtain ⟨N, hN⟩ : ∃ N, N = bs.length := ⟨_, rfl⟩
 rw [← hN] at hl HS ⊢; have HN : Hid (N = bs.length) := hN; clear h hb hN; go_enter Tryz.func125, Tryz.ntmps125; go_wp2_with fail; go_loopw [3, 8] (fun i1 i2 wr => ∃ (j : Nat), j ≤ N ∧ i1 = .int .u64 (kNum (bs.take j) : Nat) ∧ i2 = .int .i64 j ∧ wr = w) (fun _ i2 _ => N - (intOf i2).toNat)
 case atStart => exact ⟨0, Nat.zero_le _, by simp [kNum], rfl, rfl⟩
 case round =>
  obtain ⟨j, hj, rfl, rfl, hwr⟩ := hrel; subst hwr; by_cases hjk : j < N
  · have hki : (j : Int) < N := by omega
    obtain ⟨y, hy⟩ : ∃ y, bs[j]? = some y := ⟨_, List.getElem?_eq_getElem (by have := HN.out; omega)⟩
    have hyb := HB.out y (List.mem_of_getElem? hy); obtain ⟨g, o, rfl, kc⟩ := HS.out.at hy; have hst := kNum_take hy; have hlt := kNum_lt (bs.take j) (HB.out.take j); have hlj : (bs.take j).length = j := by rw [List.length_take]; have := HN.out; omega
    rw [hlj] at hlt; have hp : (256 : Nat) ^ j ≤ 256 ^ 6 := Nat.pow_le_pow_right (by decide) (by omega); have hp6 : (256 : Nat) ^ 6 = 281474976710656 := by decide
    obtain ⟨s, hs⟩ : ∃ s, s = kNum (bs.take j) := ⟨_, rfl⟩
    rw [← hs] at hst hlt ⊢; have hsb : s < 281474976710656 := by omega
    have hor := kor256 s y (by omega) hyb.1 hyb.2; have hw1 : IntKind.u64.wrap ((s : Int) * 256) = (s : Int) * 256 := by rw [IntKind.wrap_u64]; omega
    have hw2 : IntKind.u64.wrap y = y := by rw [IntKind.wrap_u64]; omega
    have HST : Hid (kNum (bs.take (j + 1)) = s * 256 + y.toNat) := hst; clear hst hs hy hlt hp hp6 hlj; go_wp2; go_roundw
    case rel => exact ⟨j + 1, by omega, by rw [HST.out]; congr 1; have := hyb.1; omega, by go_num, by trivial⟩
    case measure => simp [intOf]; omega
  · have hki : ¬ (j : Int) < N := by omega
    have hE : kNum (bs.take j) = kNum bs := by rw [List.take_of_length_le (by have := HN.out; omega)]
    rw [hE]; go_wp2; go_ret; exact ⟨rfl, rfl⟩
end Go.Proofs.YtconkienlcegaaaGreatDoor
