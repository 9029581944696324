/- WV6, WV7, WV8, OV, laid into one text. -/
import Derived.Test.YtoplejbmgpgkhaaGreatDoorM40
import Derived.Test.YtoplejbmgpgkhaaGreatDoorM18
import Derived.Deep.Matrix
import Derived.SizedLaws
import Derived.ChangeSlices
import Derived.ChangeMaps5
import Derived.Carry
/- wal: a spoilt byte is told. -/
namespace Go.Proofs.YtoplejbmgpgkhaaGreatDoor
open Go.RowKit Go.Maps Go.Joins Go.Sort
set_option linter.unusedVariables false
set_option linter.unusedSimpArgs false
theorem xor8 {a y : Int} (ha : 0 ≤ a ∧ a < 256) (hy : 0 < y ∧ y < 256) : (0 ≤ bits .xor .u8 a y ∧ bits .xor .u8 a y < 256) ∧ bits .xor .u8 a y ≠ a := by
  have h : bits .xor .u8 a y = IntKind.u8.wrap (((BitVec.ofInt 8 a) ^^^ (BitVec.ofInt 8 y)).toNat : Int) := rfl
  have hlt := ((BitVec.ofInt 8 a) ^^^ (BitVec.ofInt 8 y)).isLt
  have e : bits .xor .u8 a y = (((BitVec.ofInt 8 a) ^^^ (BitVec.ofInt 8 y)).toNat : Int) := by
    rw [h, IntKind.wrap_u8]
    omega
  refine ⟨by rw [e]; omega, fun h2 => ?_⟩
  rw [e] at h2
  have h3 : ((BitVec.ofInt 8 a) ^^^ (BitVec.ofInt 8 y)) = BitVec.ofInt 8 a := by
    apply BitVec.eq_of_toNat_eq
    rw [BitVec.toNat_ofInt]
    omega
  have h4 : BitVec.ofInt 8 y = 0#8 := by
    have := congrArg (BitVec.ofInt 8 a ^^^ ·) h3
    rw [← BitVec.xor_assoc, BitVec.xor_self, BitVec.zero_xor] at this
    exact this
  have h5 := congrArg BitVec.toNat h4
  rw [BitVec.toNat_ofInt] at h5
  simp at h5
  omega
theorem split_at : ∀ (rs : List (List Int)) (x : Nat), x < (joinF rs).length → ∃ pre r post, rs = pre ++ r :: post ∧ (joinF pre).length ≤ x ∧ x < (joinF pre).length + (12 + r.length)
  | [], x, h => absurd h (by simp [joinF])
  | r :: t, x, h => by
    by_cases hx : x < 12 + r.length
    · exact ⟨[], r, t, rfl, Nat.zero_le _, by simpa [joinF] using hx⟩
    · have h1 : (joinF (r :: t)).length = 12 + r.length + (joinF t).length := by
        show (frameB r ++ joinF t).length = _
        rw [List.length_append, frameB_length]
      obtain ⟨pre, q, post, e, h2, h3⟩ := split_at t (x - (12 + r.length)) (by omega)
      have h4 : (joinF (r :: pre)).length = 12 + r.length + (joinF pre).length := by
        show (frameB r ++ joinF pre).length = _
        rw [List.length_append, frameB_length]
      exact ⟨r :: pre, q, post, by rw [e]; rfl, by omega, by omega⟩
theorem spoilt_file {rs : List (List Int)} (hl : ∀ r ∈ rs, r.length ≤ 65536) (hb : ∀ r ∈ rs, Byts r) {x y : Int} (hx : 0 ≤ x ∧ x < (joinF rs).length) (hy : 0 < y ∧ y < 256) : ∃ pre t, spB (joinF rs) x y = joinF pre ++ t ∧ (∀ r ∈ pre, r.length ≤ 65536) ∧ t ≠ [] ∧ (nx t).1 = 34 := by
  obtain ⟨pre, r, post, e, h1, h2⟩ := split_at rs x.toNat (by omega)
  have hB : Byts (joinF rs) := joinF_byts hb
  have hJ : joinF rs = joinF pre ++ (frameB r ++ joinF post) := by
    rw [e, joinF_append]
    rfl
  obtain ⟨q1, q2⟩ := xor8 (hB.get x.toNat) hy
  have hmem : ∀ q ∈ pre, q ∈ rs := fun q hq => by rw [e]; exact List.mem_append_left _ hq
  have hr : r ∈ rs := by rw [e]; simp
  have hpost : ∀ q ∈ post, q ∈ rs := fun q hq => by rw [e]; exact List.mem_append_right _ (List.mem_cons_of_mem _ hq)
  have hg : (joinF rs).getD x.toNat 0 = (frameB r ++ joinF post).getD (x.toNat - (joinF pre).length) 0 := by
    rw [hJ, List.getD_eq_getElem?_getD, List.getElem?_append_right h1, ← List.getD_eq_getElem?_getD]
  refine ⟨pre, (frameB r ++ joinF post).set (x.toNat - (joinF pre).length) (bits .xor .u8 ((joinF rs).getD x.toNat 0) y), ?_, fun q hq => hl q (hmem q hq), ?_, ?_⟩
  · show (joinF rs).set x.toNat (bits .xor .u8 ((joinF rs).getD x.toNat 0) y) = _
    generalize bits .xor .u8 ((joinF rs).getD x.toNat 0) y = z
    rw [hJ, List.set_append_right _ _ h1]
  · intro h0
    have := congrArg List.length h0
    rw [List.length_set, List.length_append, frameB_length] at this
    simp at this
  · exact nx_spoilt (hl r hr) (hb r hr) (joinF_byts fun q hq => hb q (hpost q hq)) _ (by omega) q1 (by rw [← hg]; exact q2)
theorem nmS_set (l : List Tf) (n : List UInt8) (b : List Int) (s : Int) : nmS (setT l n b s) = nmS l := by
  unfold nmS setT
  rw [List.map_map]
  apply List.map_congr_left
  intro p _
  show (⟨(if p.1 = n then (n, b, s) else p).1.toArray⟩ : ByteArray) = ⟨p.1.toArray⟩
  split
  · rename_i e
    rw [← e]
  · rfl
/-- A log of whole frames whose disk had one byte spoilt: Open tells it. -/
theorem open_spoilt {A A' : DA} {P P' : PL} {ini : List Seg} {la : Option Seg} {sc : Nat} {most c : Int} (h : LV A.l P ini la sc) (hs : Srt A.l) (hu : Up A) (hb : ∀ r ∈ P.rs, Byts r) {s : ByteArray} (hm : s ∈ nmS A.l) {x y : Int} (hy : 0 < y ∧ y < 256) (he : eSpo A.l s x = 0)
    (ho : OpX { A with l := lSpo A.l s x y } ⟨[], [], 0, false, most⟩ (srtI (numsOf (nmS (lSpo A.l s x y)))) c A' P') : c = 34 := by
  unfold nmS at hm
  obtain ⟨p, hp, rfl⟩ := List.mem_map.1 hm
  obtain ⟨g, hg, hpn⟩ := h.only p hp
  obtain ⟨z, hz⟩ := h.ok hg
  have hnb : nb (⟨p.1.toArray⟩ : ByteArray) = nmF g.1 := by
    rw [← hpn]
  have hf : fT A.l (nb ⟨p.1.toArray⟩) = some (nmF g.1, joinF g.2, z) := by
    rw [hnb]
    exact hz.here
  unfold eSpo at he
  rw [hf] at he
  dsimp only at he
  have hx : ¬ (x < 0 ∨ ((joinF g.2).length : Int) ≤ x) := fun hx => by
    rw [if_pos hx] at he
    exact absurd he (by decide)
  have hl : lSpo A.l ⟨p.1.toArray⟩ x y = setT A.l (nmF g.1) (spB (joinF g.2) x y) z := by
    unfold lSpo
    rw [hf]
    dsimp only
    rw [if_neg hx, hnb]
  rw [hl, nmS_set, h.nums hs] at ho
  obtain ⟨a, b, hab⟩ := List.append_of_mem hg
  have hrs : ∀ r ∈ g.2, Byts r := fun r hr => hb r (by rw [h.rs]; exact List.mem_flatMap.2 ⟨g, hg, hr⟩)
  obtain ⟨pre, t, e1, e2, e3, e4⟩ := spoilt_file hz.len hrs (x := x) (y := y) (by omega) hy
  rw [hab, List.map_append, List.map_cons] at ho
  refine opx_rot a (A := { A with l := setT A.l (nmF g.1) (spB (joinF g.2) x y) z }) ⟨hu.dn, hu.pl⟩ (fun q hq => ?_) hz.nm ⟨pre, t, z, ?_, e2, e3, e4⟩ ho
  · obtain ⟨z', hz'⟩ := h.ok (s := q) (by rw [hab]; exact List.mem_append_left _ hq)
    refine ⟨z', hz'.kept (fT_set (fun e => ?_) _ _)⟩
    have h1 := file_inj (name_lt hz'.nm) (name_lt hz.nm) e
    have h2 := h.seq.lt
    rw [hab, List.map_append, List.pairwise_append] at h2
    have h3 := h2.2.2 q.1 (List.mem_map_of_mem hq) g.1 (by simp)
    omega
  · show fT (setT A.l (nmF g.1) (spB (joinF g.2) x y) z) (nmF g.1) = _
    rw [fT_set_self hz.here, e1]
end Go.Proofs.YtoplejbmgpgkhaaGreatDoor
/- wal: WalRots' walk, the calls. -/
namespace Go.Proofs.YtoplejbmgpgkhaaGreatDoor
open Go.RowKit Go.Maps Go.Joins Go.Sort
set_option linter.unusedVariables false
set_option linter.unusedSimpArgs false
theorem pSync_keeps {A : DA} (P : PL) (hu : Up A) (hn : NmB A.l) : Up (pSync A P).2.1 ∧ NmB (pSync A P).2.1.l := by
  unfold pSync
  split
  · exact ⟨hu.next _ 0 _, hn.dSync _⟩
  · exact ⟨hu, hn⟩
theorem pPut_keeps {A : DA} (P : PL) (bs : List Int) (hu : Up A) (hn : NmB A.l) : Up (pPut A P bs).2.1 ∧ NmB (pPut A P bs).2.1.l := by
  unfold pPut
  split
  · exact ⟨hu.next _ 0 _, hn.dApp _ _⟩
  · exact ⟨hu.next _ 0 _, hn.dApp _ _⟩
theorem pApp_keeps {A : DA} (P : PL) (bs : List Int) (hu : Up A) (hn : NmB A.l) : Up (pApp A P bs).2.1 ∧ NmB (pApp A P bs).2.1.l := by
  unfold pApp
  split
  · exact ⟨hu, hn⟩
  · split
    · obtain ⟨h1, h2⟩ := pSync_keeps P hu hn
      split
      · exact pPut_keeps _ _ h1 h2
      · exact ⟨h1, h2⟩
    · exact pPut_keeps _ _ hu hn
theorem pPut_steps (A : DA) (P : PL) (bs : List Int) : (pPut A P bs).2.1.steps ≤ A.steps + 1 := by
  unfold pPut
  split
  · exact (dDo_steps A (fileB logB (pNum P)) 0 (lApp A.l A.room (fileB logB (pNum P)) (frameB bs))).2
  · exact (dDo_steps A (fileB logB (pNum P)) 0 (lApp A.l A.room (fileB logB (pNum P)) (frameB bs))).2
theorem pApp_steps (A : DA) (P : PL) (bs : List Int) : (pApp A P bs).2.1.steps ≤ A.steps + 2 := by
  have h1 := (pSync_steps A P).2
  unfold pApp
  split
  · show A.steps ≤ _
    omega
  · split
    · split
      · have := pPut_steps (pSync A P).2.1 (pSync A P).2.2 bs
        omega
      · omega
    · have := pPut_steps A P bs
      omega
theorem LV.ok0 {A : DA} {P : PL} {ini : List Seg} {la : Option Seg} {sc : Nat} (h : LV A.l P ini la sc) {ro : Int} (hw : Wf A.l ro) (hr : ro ≤ 1073741824) (hst : A.steps < 4611686018427387800) : LgOk A P := by
  obtain ⟨h1, h2, h3, h4, h5⟩ := h.small hw hr
  refine ⟨fun hu => ?_, h3, h1, h2, ⟨h4, h5⟩, hst⟩
  cases hla : la with
  | none =>
    have := (h.nil0 hla).2.2.1
    rw [hu] at this
    cases this
  | some s =>
    rw [h.fs, hla]
    simp
theorem LV.sync_code {A : DA} {P : PL} {ini : List Seg} {la : Option Seg} {sc : Nat} (h : LV A.l P ini la sc) (hu : Up A) : (pSync A P).1 = 0 := by
  unfold pSync
  split
  · rename_i hU
    cases hla : la with
    | none =>
      have := (h.nil0 hla).2.2.1
      rw [hU] at this
      cases this
    | some s =>
      obtain ⟨_, j, _, q3, _⟩ := h.las s hla
      rw [h.last hla]
      show (if A.sE _ = 0 then eFind _ _ else A.sE _) = 0
      rw [if_pos (hu.sE q3.nm)]
      unfold eFind
      have hh : fT A.l (nb (fileB logB s.1)) = _ := q3.here
      rw [if_pos q3.nm, hh]
      rfl
  · rfl
/-- The loop's worlds. -/
def RI (W wr : World) (bd bl : Nat) (k : Nat) : Prop := ∃ S L A P ini la, Lg W wr bd bl S L 1073741824 A P ∧ LV A.l P ini la 0 ∧ Up A ∧ NmB A.l ∧ (∀ r ∈ P.rs, Byts r) ∧ A.steps ≤ 2 * (k : Int)
theorem RI.bel {W wr : World} {bd bl k : Nat} (h : RI W wr bd bl k) : Below W.heap.size W wr := by
  obtain ⟨_, _, _, _, _, _, h, _⟩ := h
  exact h.fr
theorem ri_new {W wr : World} {bd : Nat} {S : DS} (h : Dk W wr bd S 1073741824 (newA 1073741824)) (most : Int) (hm : 1 ≤ most) :
    Calls Tryz.prog 12 #[.pointer (some ⟨bd, 0, none⟩), .string logB, .int .i64 most] wr fun e w' => ∃ bl, e = .returned (.tuple #[.pointer (some ⟨bl, 0, none⟩), .int .i64 0]) ∧ RI W w' bd bl 0 := by
  refine (dk_open h rfl (by decide) (fun p hp => by cases hp) most hm).mono ?_
  rintro e w' ⟨c, bl, S', L', A', P', rfl, h1, h2, h3⟩
  have e0 : srtI (numsOf (nmS (newA 1073741824).l)) = [] := srtI_nil
  rw [e0] at h3
  obtain ⟨rfl, rfl, rfl⟩ := h3
  exact ⟨bl, by rw [if_pos rfl], S', L', _, _, [], none, h2 rfl, LV.empty most, ⟨rfl, fun _ => rfl⟩, fun p hp => (by cases hp), fun r hr => (by cases hr), by decide⟩
theorem ri_append {W wr : World} {bd bl k : Nat} (h : RI W wr bd bl k) (hk : k ≤ 9000000000000) (va : Option Addr) (vc : Nat) (bs : List Int) (hbv : BytesV W (.slice va bs.length vc) bs) (hb : Byts bs) (hl : bs.length ≤ 1000) :
    Calls Tryz.prog 14 #[.pointer (some ⟨bl, 0, none⟩), .slice va bs.length vc] wr fun e w' => ∃ c, e = .returned (.int .i64 c) ∧ Below W.heap.size W w' ∧ (c = 0 → RI W w' bd bl (k + 1)) := by
  obtain ⟨S, L, A, P, ini, la, h1, h2, h3, h4, h5, h6⟩ := h
  have el : absP S = A.l := congrArg DA.l h1.a
  have hw : Wf A.l 1073741824 := el ▸ h1.dl.gb.wf
  refine (lg_append h1 (h2.ok0 hw (by omega) (by omega)) va vc bs hbv (by omega)).mono ?_
  rintro e w' ⟨S', L', rfl, h7⟩
  obtain ⟨ini', la', q1, q2, q3⟩ := h2.app bs (by omega)
  obtain ⟨q4, q5⟩ := pApp_keeps P bs h3 h4
  have q6 := pApp_steps A P bs
  refine ⟨_, rfl, h7.fr, fun hc => ⟨S', L', _, _, ini', la', h7, q1, q4, q5, fun r hr => ?_, by omega⟩⟩
  rw [q2, if_pos hc] at hr
  rcases List.mem_append.1 hr with hr | hr
  · exact h5 r hr
  · have : r = bs := by simpa using hr
    rw [this]
    exact hb
/-- Behind Sync and List. -/
def RN (W wr : World) (bd : Nat) (ns : List ByteArray) : Prop := ∃ S A P ini la sc, Dk W wr bd S 1073741824 A ∧ LV A.l P ini la sc ∧ Up A ∧ NmB A.l ∧ (∀ r ∈ P.rs, Byts r) ∧ A.steps ≤ 4000000000000000000 ∧ ns = nmS A.l
theorem ri_sync {W wr : World} {bd bl k : Nat} (h : RI W wr bd bl k) (hk : k ≤ 9000000000001) :
    Calls Tryz.prog 16 #[.pointer (some ⟨bl, 0, none⟩)] wr fun e w' => e = .returned (.int .i64 0) ∧ ∃ ns, RN W w' bd ns := by
  obtain ⟨S, L, A, P, ini, la, h1, h2, h3, h4, h5, h6⟩ := h
  have el : absP S = A.l := congrArg DA.l h1.a
  have hw : Wf A.l 1073741824 := el ▸ h1.dl.gb.wf
  refine (lg_sync h1 (h2.ok0 hw (by omega) (by omega))).mono ?_
  rintro e w' ⟨S', L', rfl, h7⟩
  obtain ⟨q4, q5⟩ := pSync_keeps P h3 h4
  have q6 := (pSync_steps A P).2
  refine ⟨by rw [h2.sync_code h3], _, S', _, (pSync A P).2.2, ini, la, _, h7.dk, h2.sync.1, q4, q5, ?_, by omega, rfl⟩
  rw [(pSync_rest A P).2.1]
  exact h5
theorem rn_list {W wr : World} {bd : Nat} {ns : List ByteArray} (h : RN W wr bd ns) : Calls Tryz.prog 33 #[.pointer (some ⟨bd, 0, none⟩)] wr fun e w' => ∃ v, e = .returned v ∧ StrV w' v ns ∧ RN W w' bd ns := by
  obtain ⟨S, A, P, ini, la, sc, h1, h2, h3, h4, h5, h6, rfl⟩ := h
  refine (dk_list h1 h3.dn).mono ?_
  rintro e w' ⟨v, rfl, hv, hb⟩
  exact ⟨v, rfl, hv, S, A, P, ini, la, sc, h1.below hb, h2, h3, h4, h5, h6, rfl⟩
theorem RN.bel {W wr : World} {bd : Nat} {ns : List ByteArray} (h : RN W wr bd ns) : Below W.heap.size W wr := by
  obtain ⟨_, _, _, _, _, _, h, _⟩ := h
  exact h.fr
theorem RN.len {W wr : World} {bd : Nat} {ns : List ByteArray} (h : RN W wr bd ns) : ns.length ≤ 16 := by
  obtain ⟨S, A, P, ini, la, sc, h1, _, _, _, _, _, rfl⟩ := h
  have el : absP S = A.l := congrArg DA.l h1.a
  have := h1.gb.wf.len
  rw [el] at this
  unfold nmS
  rw [List.length_map]
  exact this
/-- A disk whose log has rot. -/
def RS2 (W wr : World) (bd : Nat) : Prop := ∃ S A, Dk W wr bd S 1073741824 A ∧ A.down = false ∧ A.steps ≤ 4000000000000000000 ∧ NmB A.l ∧ ∀ most c A' P', OpX A ⟨[], [], 0, false, most⟩ (srtI (numsOf (nmS A.l))) c A' P' → c = 34
theorem rn_spoil {W wr : World} {bd : Nat} {ns : List ByteArray} (h : RN W wr bd ns) {s : ByteArray} (hs : s ∈ ns) (x y : Int) (hy : 0 < y ∧ y < 256) :
    Calls Tryz.prog 29 #[.pointer (some ⟨bd, 0, none⟩), .string s, .int .i64 x, .int .u8 y] wr fun e w' => ∃ c, e = .returned (.int .i64 c) ∧ Below W.heap.size W w' ∧ (c = 0 → RS2 W w' bd) := by
  obtain ⟨S, A, P, ini, la, sc, h1, h2, h3, h4, h5, h6, rfl⟩ := h
  have el : absP S = A.l := congrArg DA.l h1.a
  have hsz := h4.nmS s hs
  have hsrt : Srt A.l := el ▸ h1.disk.srt
  refine (dk_spoil h1 s hsz x y).mono ?_
  rintro e w' ⟨S', rfl, h7⟩
  refine ⟨_, rfl, h7.fr, fun hc => ⟨S', _, h7, h3.dn, h6, ?_, fun most c A' P' ho => open_spoilt h2 hsrt h3 h5 hs hy hc ho⟩⟩
  show NmB (lSpo A.l s x y)
  unfold lSpo
  split
  · rename_i p hp
    split
    · exact h4
    · refine h4.set ?_ _ _
      have h8 := fT_mem hp
      rw [← h8.2]
      exact h4 p h8.1
  · exact h4
theorem rs_open {W wr : World} {bd : Nat} (h : RS2 W wr bd) (most : Int) (hm : 1 ≤ most) :
    Calls Tryz.prog 12 #[.pointer (some ⟨bd, 0, none⟩), .string logB, .int .i64 most] wr fun e w' => e = .returned (.tuple #[.pointer none, .int .i64 34]) ∧ Below W.heap.size W w' := by
  obtain ⟨S, A, h1, h2, h3, h4, h5⟩ := h
  refine (dk_open h1 h2 (by omega) h4 most hm).mono ?_
  rintro e w' ⟨c, bl, S', L', A', P', rfl, h6, _, h7⟩
  have := h5 _ _ _ _ h7
  subst this
  exact ⟨by rw [if_neg (by decide)], h6.fr⟩
end Go.Proofs.YtoplejbmgpgkhaaGreatDoor
/- wal: WalRots' walk. -/
namespace Go.Proofs.YtoplejbmgpgkhaaGreatDoor
open Go.RowKit Go.Maps Go.Joins Go.Sort
set_option linter.unusedVariables false
set_option linter.unusedSimpArgs false
/-- Records as they lie in memory. -/
def RowsV (W : World) (a : Option Addr) (rs : List (Value × List Int)) : Prop := ∀ (j : Nat) (p : Value × List Int), rs[j]? = some p → ∃ b o va vc, a = some ⟨b, o, none⟩ ∧ W.cell? ⟨b, o + j, none⟩ = some p.1 ∧ p.1 = .slice va p.2.length vc ∧ BytesV W p.1 p.2 ∧ Byts p.2
theorem RI.below {W wr w' : World} {bd bl k : Nat} (h : RI W wr bd bl k) (hb : Below wr.heap.size wr w') : RI W w' bd bl k := by
  obtain ⟨S, L, A, P, ini, la, h1, h2⟩ := h
  exact ⟨S, L, A, P, ini, la, h1.below hb, h2⟩
theorem RI.vars {W wr : World} {bd bl k : Nat} (h : RI W wr bd bl k) : Vars wr := by
  obtain ⟨S, L, A, P, ini, la, h1, h2⟩ := h
  exact h1.dl.vars
set_option maxRecDepth 100000 in
set_option maxHeartbeats 8000000 in
theorem rots_easy {W : World} (hV : Vars W) (most : Int) (v : Value) (fi x y : Int) (h : most < 1 ∨ y = 0) :
    Calls Tryz.prog 7 #[.int .i64 most, v, .int .i64 fi, .int .i64 x, .int .u8 y] W fun e w' => e = .returned (.bool true) ∧ Below W.heap.size W w' := by
  have HV : Hid _ := hV
  clear hV
  by_cases h1 : most < 1
  · have h1' : decide (most < 1) = true := by simpa using h1
    clear h
    go_enter Tryz.func7, Tryz.ntmps7
    go_wp2_with (first
      | (go_at_call 11
         refine Calls.mono (alive_any HV.out) ?_
         rintro e w2 ⟨rfl, hb2⟩
         have HB : Hid _ := hb2
         clear hb2))
    go_returns
    exact ⟨rfl, HB.out⟩
  · have h1' : decide (most < 1) = false := by simpa using h1
    have h2 : y = 0 := h.resolve_left h1
    subst h2
    clear h
    go_enter Tryz.func7, Tryz.ntmps7
    go_wp2_with (first
      | (go_at_call 11
         refine Calls.mono (alive_any HV.out) ?_
         rintro e w2 ⟨rfl, hb2⟩
         have HB : Hid _ := hb2
         clear hb2))
    go_returns
    exact ⟨rfl, HB.out⟩
set_option maxRecDepth 100000 in
set_option maxHeartbeats 8000000 in
theorem rots_any {W : World} (hV : Vars W) (most : Int) (a : Option Addr) (C : Nat) (rs : List (Value × List Int)) (hrs : RowsV W a rs) (hl : rs.length ≤ 9000000000000) (fi x y : Int) (hy : 0 ≤ y ∧ y < 256) :
    Calls Tryz.prog 7 #[.int .i64 most, .slice a rs.length C, .int .i64 fi, .int .i64 x, .int .u8 y] W fun e w' => e = .returned (.bool true) ∧ Below W.heap.size W w' := by
  by_cases hc : most < 1 ∨ y = 0
  · exact rots_easy hV most _ fi x y hc
  have H0 : Hid (Vars W ∧ RowsV W a rs ∧ 1 ≤ most ∧ (0 < y ∧ y < 256)) := ⟨hV, hrs, by omega, by omega⟩
  have hm1 : decide (most < 1) = false := by simp; omega
  have hy0 : (y == 0) = false := by simp; omega
  clear hV hrs hc hy
  go_enter Tryz.func7, Tryz.ntmps7
  go_wp2_with (first
    | (go_at_call 9
       refine Calls.mono (dk_new H0.out.1 1073741824 (by omega) (by omega)) ?_
       rintro e w1 ⟨bd, S1, rfl, hd1⟩
       have H1 : Hid _ := hd1
       clear hd1)
    | (go_at_call 12
       refine Calls.mono (ri_new H1.out most H0.out.2.2.1) ?_
       rintro e w2 ⟨bl, rfl, hr2⟩
       have H2 : Hid (RI W w2 bd bl 0) := hr2
       clear hr2)
    | (go_at_call 11
       refine Calls.mono (alive_any (RI.vars H2.out)) ?_
       rintro e w3 ⟨rfl, hb3⟩
       have H3 : Hid (RI W w3 bd bl 0) := RI.below H2.out hb3
       clear hb3))
  go_loopw [15] (fun i wr => ∃ k, k ≤ rs.length ∧ i = .int .i64 k ∧ RI W wr bd bl k) (fun i _ => rs.length - (intOf i).toNat)
  case atStart => exact ⟨0, Nat.zero_le _, rfl, H3.out⟩
  case round =>
    obtain ⟨k, hk, rfl, hri⟩ := hrel
    have HR : Hid (RI W wr bd bl k) := hri
    clear hri
    by_cases hkl : k < rs.length
    · obtain ⟨p, hp⟩ : ∃ p, rs[k]? = some p := ⟨_, List.getElem?_eq_getElem hkl⟩
      obtain ⟨b, o, va, vc, rfl, hcell, hpv, hbv, hby⟩ := H0.out.2.1 k p hp
      rw [hpv] at hcell hbv
      have hcw : wr.cell? ⟨b, o + k, none⟩ = some (.slice va p.2.length vc) := (World.cell?_of_block (a := ⟨b, o + k, none⟩) ((RI.bel HR.out).block b (cell_lt hcell))).trans hcell
      have hki : (k : Int) < rs.length := by omega
      have HBV : Hid (BytesV W (.slice va p.2.length vc) p.2 ∧ Byts p.2) := ⟨hbv, hby⟩
      clear hcell hpv hbv hby hp
      by_cases hg : 1000 < (p.2.length : Int)
      · go_wp2
        go_returns
        exact ⟨rfl, (RI.bel HR.out)⟩
      · have hA := ri_append HR.out (by omega) va vc p.2 HBV.out.1 HBV.out.2 (by omega)
        have HA : Hid _ := hA
        have hg' : decide (1000 < (p.2.length : Int)) = false := by simpa using hg
        clear hA hg
        go_wp2_with (first
          | (go_at_call 14
             refine Calls.mono HA.out ?_
             rintro e w4 ⟨c, rfl, hb4, hr4⟩
             have H4 : Hid (Below W.heap.size W w4 ∧ (c = 0 → RI W w4 bd bl (k + 1))) := ⟨hb4, hr4⟩
             clear hb4 hr4))
        · go_returns
          exact ⟨rfl, H4.out.1⟩
        · rename_i hc
          have hc0 : c = 0 := by simpa using hc
          refine ⟨⟨k + 1, by omega, by go_num, H4.out.2 hc0⟩, ?_⟩
          simp [intOf]
          omega
    · have hki : decide ((k : Int) < rs.length) = false := by simp; omega
      go_wp2_with (first
        | (go_at_call 16
           refine Calls.mono (ri_sync HR.out (by omega)) ?_
           rintro e w4 ⟨rfl, ns, hn4⟩
           have H4 : Hid (RN W w4 bd ns) := hn4
           clear hn4))
      refine Calls.mono (rn_list H4.out) ?_
      rintro e w5 ⟨v, rfl, hv5, hn5⟩
      have H5 : Hid (RN W w5 bd ns) := hn5
      obtain ⟨sa, sc, rfl, hs5⟩ := hv5
      clear hn5
      by_cases h1 : fi < 0
      · have h1' : decide (fi < 0) = true := by simpa using h1
        clear h1
        go_wp2
        go_returns
        exact ⟨rfl, RN.bel H5.out⟩
      have h1' : decide (fi < 0) = false := by simpa using h1
      by_cases h2 : (ns.length : Int) ≤ fi
      · have h2' : decide (ns.length ≤ fi) = true := by simpa using h2
        clear h1 h2
        go_wp2
        go_returns
        exact ⟨rfl, RN.bel H5.out⟩
      have h2' : decide (ns.length ≤ fi) = false := by simpa using h2
      obtain ⟨j, rfl⟩ := Int.eq_ofNat_of_zero_le (show 0 ≤ fi by omega)
      have hjl : j < ns.length := by omega
      have hjl' : (j : Int) < ns.length := by omega
      obtain ⟨s, hs⟩ : ∃ s, ns[j]? = some s := ⟨_, List.getElem?_eq_getElem hjl⟩
      obtain ⟨g, rfl, hcs⟩ := hs5 j s hs
      have HM : Hid (s ∈ ns) := List.mem_of_getElem? hs
      clear hs hs5 h1 h2 hjl
      go_wp2_with (first
        | (go_at_call 29
           refine Calls.mono (rn_spoil H5.out HM.out x y H0.out.2.2.2) ?_
           rintro e w6 ⟨c, rfl, hb6, hr6⟩
           have H6 : Hid (Below W.heap.size W w6 ∧ (c = 0 → RS2 W w6 bd)) := ⟨hb6, hr6⟩
           clear hb6 hr6))
      · go_returns
        exact ⟨rfl, H6.out.1⟩
      · rename_i hc K1 a1 K2 a2
        have hc0 : c = 0 := by simpa using hc.2
        refine Calls.mono (rs_open (H6.out.2 hc0) most H0.out.2.2.1) ?_
        rintro e w7 ⟨rfl, hb7⟩
        have H7 : Hid _ := hb7
        clear hb7
        go_wp2
        go_returns
        exact ⟨rfl, H7.out⟩
end Go.Proofs.YtoplejbmgpgkhaaGreatDoor
/- wal: arguments: lists of bytes in a list; five of them. -/
namespace Go.Proofs.YtoplejbmgpgkhaaGreatDoor
open Go.ChangeShapes Go.WideShapes Go.ChangeAt Go.WideElems Go.RowKit Go.ChangeMaps
theorem trodAll_five {H : Type} {enc : TypeId × Value → H} {P : Program} {w : World} {base : Nat} {spare : Nat → Bool} {held : Bool} {t t1 t2 t3 t4 : TypeId} {args : Array Value} {ds : List (DataW H)} {ps : List MemPlace} (h : DataW.TrodAll enc P w base spare held [t, t1, t2, t3, t4] args.toList ds ps) :
    ∃ v v1 v2 v3 v4 d d1 d2 d3 d4 p p1 p2 p3 p4, args = #[v, v1, v2, v3, v4] ∧ ds = [d, d1, d2, d3, d4] ∧ ps = p ++ (p1 ++ (p2 ++ (p3 ++ p4))) ∧ DataW.Trod enc P w base spare held t v d p ∧ DataW.Trod enc P w base spare held t1 v1 d1 p1 ∧ DataW.Trod enc P w base spare held t2 v2 d2 p2 ∧ DataW.Trod enc P w base spare held t3 v3 d3 p3 ∧ DataW.Trod enc P w base spare held t4 v4 d4 p4 := by
  obtain ⟨v, vs, d, ds0, p, q, hargs, rfl, rfl, hd, hr⟩ := trodAll_cons h
  obtain ⟨v1, vs1, d1, ds1, p1, q1, rfl, rfl, rfl, hd1, hr1⟩ := trodAll_cons hr
  obtain ⟨v2, vs2, d2, ds2, p2, q2, rfl, rfl, rfl, hd2, hr2⟩ := trodAll_cons hr1
  obtain ⟨v3, vs3, d3, ds3, p3, q3, rfl, rfl, rfl, hd3, hr3⟩ := trodAll_cons hr2
  obtain ⟨v4, vs4, d4, ds4, p4, q4, rfl, rfl, rfl, hd4, hr4⟩ := trodAll_cons hr3
  obtain ⟨rfl, rfl, rfl⟩ := trodAll_nil hr4
  exact ⟨v, v1, v2, v3, v4, d, d1, d2, d3, d4, p, p1, p2, p3, p4, by cases args; simp_all, rfl, by simp, hd, hd1, hd2, hd3, hd4⟩
theorem trodAll_mk5 {H : Type} {enc : TypeId × Value → H} {P : Program} {w : World} {base : Nat} {spare : Nat → Bool} {held : Bool} {t t1 t2 t3 t4 : TypeId} {v v1 v2 v3 v4 : Value} {d d1 d2 d3 d4 : DataW H} {p p1 p2 p3 p4 : List MemPlace} (h : DataW.Trod enc P w base spare held t v d p) (h1 : DataW.Trod enc P w base spare held t1 v1 d1 p1) (h2 : DataW.Trod enc P w base spare held t2 v2 d2 p2) (h3 : DataW.Trod enc P w base spare held t3 v3 d3 p3) (h4 : DataW.Trod enc P w base spare held t4 v4 d4 p4) :
    DataW.TrodAll enc P w base spare held [t, t1, t2, t3, t4] [v, v1, v2, v3, v4] [d, d1, d2, d3, d4] (p ++ (p1 ++ (p2 ++ (p3 ++ p4)))) := ⟨p, p1 ++ (p2 ++ (p3 ++ p4)), h, trodAll_mk4 h1 h2 h3 h4, rfl⟩
theorem cells36 : Tryz.prog.cellsOf 36 = 1 := by kernel_rfl
theorem bytes36 : Tryz.prog.bytesOf 36 = 24 := by kernel_rfl
theorem wf_u8 {x : Int} (h : (Lit.int .u8 x).wf = true) : 0 ≤ x ∧ x < 256 := by
  simp [Lit.wf, IntKind.min, IntKind.max, IntKind.signed, IntKind.bits] at h
  exact ⟨by omega, by omega⟩
set_option maxRecDepth 100000 in
/-- An argument [][]byte. -/
theorem open70 {H : Type} {enc : TypeId × Value → H} {W : World} {base : Nat} {v : Value} {ts : List TypeId} {ds : List (DataW H)} {d : DataW H} {p : List MemPlace} {j : Nat} (hv : Value.okWide Tryz.prog W .any base 70 v) (h : DataW.Trod enc Tryz.prog W 0 (fun _ => true) true 70 v d p) (hsz : (DataW.weightsEach Tryz.prog ts ds).all (· ≤ reachBytes) = true) (ht : ts[j]? = some 70) (hd : ds[j]? = some d) :
    ∃ a C rs, v = .slice a rs.length C ∧ RowsV W a rs ∧ rs.length ≤ 9000000000000 := by
  obtain ⟨a1, len, cap, rfl⟩ := okWide_slice Tryz.underlying70 hv
  obtain ⟨fuel, hf⟩ := h
  rcases Deep.open_int_rows Tryz.underlying70 Tryz.underlying36 Tryz.underlying5 cells36 cells5 hf with ⟨hcs, hx⟩ | ⟨a, len', cap', A, L, C, Z, hcs, _, hl, hm, hx, hrows⟩
  · simp [Value.cells] at hcs
    obtain ⟨rfl, rfl, rfl⟩ := hcs
    exact ⟨none, 0, [], rfl, fun j p hp => by simp at hp, Nat.zero_le _⟩
  · simp [Value.cells] at hcs
    obtain ⟨rfl, rfl, rfl⟩ := hcs
    simp only [Prod.mk.injEq] at hx
    obtain ⟨rfl, rfl⟩ := hx
    have hreach : cap ≤ 9000000000000 := by
      have := sized_slice hsz (j := j) (t := 70) (e := 36) ht hd Tryz.underlying70
      rw [bytes36] at this
      simp only [List.length_map, List.length_range, reachBytes] at this
      omega
    refine ⟨some a, cap, (List.range len).map fun r => (.slice (A r) (L r) (C r), (Z r).take (L r)), by simp, fun j p hp => ?_, by simp; omega⟩
    have hj : j < len := by
      have := (List.getElem?_eq_some_iff.1 hp).1
      simpa using this
    rw [List.getElem?_map, List.getElem?_range hj] at hp
    injection hp with hp
    subst hp
    obtain ⟨h0, h1, h2, h3, h4, h5, h6⟩ := hrows j (by omega)
    obtain ⟨ab, ao, spot⟩ := a
    have hspot : spot = none := by simpa [Addr.add] using World.cell?_spot (hrows 0 (by omega)).1
    subst hspot
    rw [Addr.add_lit] at h0
    have hlen : ((Z j).take (L j)).length = L j := by rw [List.length_take]; omega
    refine ⟨ab, ao, A j, C j, rfl, h0, by rw [hlen], ?_, fun x hx => wf_u8 (h4 x (List.mem_of_mem_take hx))⟩
    show BytesV W (.slice (A j) (L j) (C j)) ((Z j).take (L j))
    cases hA : A j with
    | none =>
      have h7 := h5 hA
      have h8 : L j = 0 := by omega
      rw [h8, h7]
      exact Or.inl ⟨rfl, rfl⟩
    | some a' =>
      obtain ⟨_, h7⟩ := h6 _ hA
      refine Or.inr ⟨a', C j, by rw [hlen], fun i u hu => ?_⟩
      have hi : i < ((Z j).take (L j)).length := by
        have := (List.getElem?_eq_some_iff.1 hu).1
        rwa [vB_length] at this
      rw [h7 i (by omega), ← hu]
      unfold vB
      rw [List.getElem?_map, List.getElem?_take_of_lt (by omega), List.getElem?_eq_getElem (by omega)]
      simp [List.getD, List.getElem?_eq_getElem (show i < (Z j).length by omega)]
end Go.Proofs.YtoplejbmgpgkhaaGreatDoor
