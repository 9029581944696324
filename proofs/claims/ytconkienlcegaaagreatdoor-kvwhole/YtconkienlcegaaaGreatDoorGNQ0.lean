/- NM, NP, NQ0 -/
import Derived.Test.YtconkienlcegaaaGreatDoorGNK
import Derived.BigQuiet
import Derived.Deep.QuietTactic
import Derived.Test.YtconkienlcegaaaGreatDoorNL
import Derived.Test.YtconkienlcegaaaGreatDoorGKZ
namespace Go.Proofs.YtconkienlcegaaaGreatDoor
open Go.RowKit Go.Maps Go.Joins Go.Shelf
set_option linter.unusedSimpArgs false
set_option linter.unusedVariables false
def SmR (w : World) (l l' : List Ch) (e : Ending) (w' : World) : Prop := ∃ r : Bool, e = .returned (.bool r) ∧ Below w.heap.size w w' ∧ (l = l' → r = true)
set_option maxRecDepth 100000 in
set_option maxHeartbeats 8000000 in
/-- same -/
theorem lsame_any {D D' : Nat → Prop} {w : World} {v v' : Value} {l l' : List Ch} (hv : LsV w D v l) (hv' : LsV w D' v' l') (hD : ∀ x, D x → x < w.heap.size) (hD' : ∀ x, D' x → x < w.heap.size) (hl : l.length ≤ 4000000000000) :
 Calls Tryz.prog 39 #[v, v'] w fun e w' => SmR w l l' e w' := by
 obtain ⟨a, cap, rfl⟩ := hv.form; obtain ⟨a', cap', rfl⟩ := hv'.form; by_cases hlen : l.length = l'.length; rotate_left
 · have HL : Hid (¬ l.length = l'.length) := hlen
   obtain ⟨n, hn⟩ : ∃ n, n = l.length := ⟨_, rfl⟩
   obtain ⟨n', hn'⟩ : ∃ n', n' = l'.length := ⟨_, rfl⟩
   rw [← hn, ← hn']; have h1 : ((n : Int) != n') = true := by simp; omega
   have h2 : ¬ n = n' := by omega
   clear hv hv' hlen hn hn' hl hD hD'; go_enter Tryz.func39, Tryz.ntmps39; go_wp2; go_ret; exact ⟨false, rfl, Below.refl _ _, fun e => absurd (congrArg List.length e) HL.out⟩
 have HH : Hid (LsV w D (.slice a l.length cap) l ∧ LsV w D' (.slice a' l'.length cap') l') := ⟨hv, hv'⟩
 obtain ⟨N, hN⟩ : ∃ N, N = l.length := ⟨_, rfl⟩
 have hN' : l'.length = N := by omega
 rw [hN', ← hN]; rw [hN', ← hN] at HH; have HN : Hid (N = l.length ∧ N = l'.length) := ⟨hN, hN'.symm⟩
 rw [← hN] at hl; have HD : Hid ((∀ x, D x → x < w.heap.size) ∧ ∀ x, D' x → x < w.heap.size) := ⟨hD, hD'⟩
 clear hv hv' hN hN' hlen hD hD'; go_enter Tryz.func39, Tryz.ntmps39; go_wp2; go_loopw [5] (fun i wr => ∃ (k : Nat), k ≤ N ∧ i = .int .i64 k ∧ Hid (Below w.heap.size w wr)) (fun i _ => N - (intOf i).toNat)
 case atStart => exact ⟨0, Nat.zero_le _, rfl, Below.refl _ _⟩
 case round =>
  obtain ⟨k, hk, rfl, HB⟩ := hrel; by_cases hlt : k < N
  · obtain ⟨x, hx⟩ : ∃ x, l[k]? = some x := ⟨_, List.getElem?_eq_getElem (by have := HN.out.1; omega)⟩
    obtain ⟨y, hy⟩ : ∃ y, l'[k]? = some y := ⟨_, List.getElem?_eq_getElem (by have := HN.out.2; omega)⟩
    obtain ⟨g, q, xk, xv, rfl, hg, p0, p1, p2, hxk, hxv⟩ := HH.out.1.at hx; obtain ⟨g', q', yk, yv, rfl, hg', p0', p1', p2', hyk, hyv⟩ := HH.out.2.at hy; have hki : (k : Int) < N := by omega
    have HXY : Hid (l = l' → x = y) := fun e => by
     rw [e, hy] at hx; injection hx with hx
     exact hx.symm
    have hck := fun n' => kconv_b (w := wr.drewN n') (hxk.is.keep fun b hb => HB.out.block b (HD.out.1 b (hxk.d b hb)))
    have hcv := fun n' => kconv_b (w := wr.drewN n') (hxv.is.keep fun b hb => HB.out.block b (HD.out.1 b (hxv.d b hb)))
    have hck' := fun n' => kconv_b (w := wr.drewN n') (hyk.is.keep fun b hb => HB.out.block b (HD.out.2 b (hyk.d b hb)))
    have hcv' := fun n' => kconv_b (w := wr.drewN n') (hyv.is.keep fun b hb => HB.out.block b (HD.out.2 b (hyv.d b hb)))
    obtain ⟨K1, hK1⟩ : ∃ s, s = strOfNums x.key := ⟨_, rfl⟩
    obtain ⟨K2, hK2⟩ : ∃ s, s = strOfNums y.key := ⟨_, rfl⟩
    obtain ⟨V1, hV1⟩ : ∃ s, s = strOfNums x.val := ⟨_, rfl⟩
    obtain ⟨V2, hV2⟩ : ∃ s, s = strOfNums y.val := ⟨_, rfl⟩
    obtain ⟨G1, hG1⟩ : ∃ s, s = x.gone := ⟨_, rfl⟩
    obtain ⟨G2, hG2⟩ : ∃ s, s = y.gone := ⟨_, rfl⟩
    rw [← hK1] at hck; rw [← hK2] at hck'; rw [← hV1] at hcv; rw [← hV2] at hcv'; rw [← hG1] at p2; rw [← hG2] at p2'; have HE : Hid (l = l' → K1 = K2 ∧ V1 = V2 ∧ G1 = G2) := fun e => by
     have := HXY.out e; subst this; exact ⟨hK1.trans hK2.symm, hV1.trans hV2.symm, hG1.trans hG2.symm⟩
    obtain ⟨bk, ck, rfl⟩ := hxk.is.form'; obtain ⟨bv, cv, rfl⟩ := hxv.is.form'; obtain ⟨bk', ck', rfl⟩ := hyk.is.form'; obtain ⟨bv', cv', rfl⟩ := hyv.is.form'; generalize x.key.length = nk at *; generalize x.val.length = nv at *; generalize y.key.length = nk' at *; generalize y.val.length = nv' at *; have q0 := (HB.out.cell (p := ⟨g, q + k * 3, none⟩) (HD.out.1 g hg)).trans p0; have q1 := (HB.out.cell (p := ⟨g, q + k * 3 + 1, none⟩) (HD.out.1 g hg)).trans p1; have q2 := (HB.out.cell (p := ⟨g, q + k * 3 + 2, none⟩) (HD.out.1 g hg)).trans p2; have q0' := (HB.out.cell (p := ⟨g', q' + k * 3, none⟩) (HD.out.2 g' hg')).trans p0'; have q1' := (HB.out.cell (p := ⟨g', q' + k * 3 + 1, none⟩) (HD.out.2 g' hg')).trans p1'; have q2' := (HB.out.cell (p := ⟨g', q' + k * 3 + 2, none⟩) (HD.out.2 g' hg')).trans p2'; clear hx hy hg hg' p0 p1 p2 p0' p1' p2' hxk hxv hyk hyv hK1 hK2 hV1 hV2 hG1 hG2 HXY; by_cases e1 : K1 = K2; rotate_left
    · have d1 : (K1.toList == K2.toList) = false := by
       rw [Lib.toList_data, Lib.toList_data]; simp; intro h; exact e1 (ByteArray.ext h)
      have HE1 : Hid (¬ K1 = K2) := e1; clear e1; go_wp2_with fail; go_quiet (fail); go_wp2; go_ret; exact ⟨false, rfl, HB.out.trans ((below_drewN' _ _).mono HB.out.size), fun e => absurd (HE.out e).1 HE1.out⟩
    subst e1; have d1 : (K1.toList == K1.toList) = true := by simp
    by_cases e2 : V1 = V2
    rotate_left
    · have d2 : (V1.toList == V2.toList) = false := by
       rw [Lib.toList_data, Lib.toList_data]; simp; intro h; exact e2 (ByteArray.ext h)
      have HE2 : Hid (¬ V1 = V2) := e2; clear e2; go_wp2_with fail; go_quiet (fail); go_wp2; go_ret; exact ⟨false, rfl, HB.out.trans ((below_drewN' _ _).mono HB.out.size), fun e => absurd (HE.out e).2.1 HE2.out⟩
    subst e2; have d2 : (V1.toList == V1.toList) = true := by simp
    by_cases e3 : G1 = G2
    rotate_left
    · have d3 : (G1 == G2) = false := by simpa using e3
      have HE3 : Hid (¬ G1 = G2) := e3; clear e3; go_wp2_with fail; go_quiet (fail); go_wp2; go_ret; exact ⟨false, rfl, HB.out.trans ((below_drewN' _ _).mono HB.out.size), fun e => absurd (HE.out e).2.2 HE3.out⟩
    subst e3; have d3 : (G1 == G1) = true := by simp
    go_wp2_with fail
    go_quiet (fail)
    go_wp2; go_roundw
    case rel => exact ⟨k + 1, by omega, by go_num, HB.out.trans ((below_drewN' _ _).mono HB.out.size)⟩
    case measure => simp [intOf]; omega
  · obtain rfl : k = N := by omega
    go_wp2; go_ret
    exact ⟨true, rfl, HB.out, fun _ => rfl⟩
end Go.Proofs.YtconkienlcegaaaGreatDoor
namespace Go.Proofs.YtconkienlcegaaaGreatDoor
open Go.RowKit Go.Maps Go.Joins Go.Sort Go.Shelf
set_option linter.unusedSimpArgs false
set_option linter.unusedVariables false
theorem sk_of_ko {W w1 w' : World} {bd bl b bm : Nat} {m : List (List UInt8 × Value × List Int)} {S : DS} {L : LS} {A : DA} {P : PL} {n0 : Int} {ini : List Seg} {la : Option Seg} {sc st : Nat} (hl : Lg W w1 bd bl S L 1073741824 A P) (hb : Below w1.heap.size w1 w') (hk : KS w' (fun x => w1.heap.size ≤ x ∧ x < w'.heap.size) b bl false bm m) (ht : TV A.l P n0 ini la sc) (hn : NmB A.l) (hs : A.steps ≤ (st : Int)) : SK W w' bd bl b bm (fun _ => False) false m S L A P n0 ini la sc st :=
 ⟨hl.below hb, hk.mono (fun _ _ => rfl) (fun x hx => ⟨⟨hx.2, Nat.le_trans hl.fr.size hx.1, hl.dl.disk.fresh x hx.1, hl.dl.log.fresh x hx.1⟩, id⟩), ht, hn, hs, fun x hx => hx.elim⟩
theorem nums_nil : srtI (numsOf (nmS [])) = [] := by simp [nmS, numsOf, srtI]
def Op0 (W : World) (bd : Nat) (e : Ending) (w' : World) : Prop := ∃ b bm, e = .returned (.tuple #[.pointer (some ⟨b, 0, none⟩), .int .i64 0]) ∧ SI W w' bd b bm (fun _ => False) false [] [] 0 0 0
/-- Open of nothing. -/
theorem wopen0 {W w : World} {bd : Nat} {S : DS} (h : Dk W w bd S 1073741824 (newA 1073741824)) (most : Int) (hm : 1 ≤ most) :
 Calls Tryz.prog 11 #[.pointer (some ⟨bd, 0, none⟩), .string logB, .int .i64 most] w fun e w' => Op0 W bd e w' := by
 refine (kopen_gen (X := fun c bl L w1 => c = 0 ∧ ∃ S1, Lg W w1 bd bl S1 L 1073741824 (newA 1073741824) ⟨[], [], 0, false, most⟩) ((dk_open2 h rfl (by decide) (fun p hp => by cases hp) most hm).mono ?_)).mono ?_
 · rintro e w1 ⟨c, bl, S1, L1, A1, P1, rfl, hl, ho, _⟩
   have ho' : OpX (newA 1073741824) ⟨[], [], 0, false, most⟩ [] c A1 P1 := by
    have e0 : srtI (numsOf (nmS (newA 1073741824).l)) = [] := nums_nil; rw [e0] at ho; exact ho
   obtain ⟨rfl, rfl, rfl⟩ := ho'; obtain ⟨h1, h2⟩ := hl rfl; have hrs : L1.rs = [] := by
    have : (absL L1).rs = [] := by rw [h1.p]
    exact List.map_eq_nil_iff.1 this
   exact ⟨0, bl, L1, rfl, ⟨rfl, S1, h1⟩, fun _ => ⟨h1.dl.log, h2, by rw [hrs]; decide, fun p hp => by rw [hrs] at hp; cases hp⟩⟩
 · rintro e w' ⟨c, bl, L, w1, ⟨rfl, S1, h1⟩, hb, hko⟩
   have hrs : L.rs.map (·.2) = [] := by
    have : (absL L).rs = [] := by rw [h1.p]
    exact this
   rcases hko with ⟨hc, _⟩ | ⟨_, hn, _⟩ | ⟨_, b, bm, m, hop, _, rfl, hj⟩
   · exact absurd rfl hc
   · rw [hrs] at hn; cases hn
   · rw [hrs] at hop
     have hm0 : m = [] := by
      have h9 : mk m = [] := by
       have := hop; rw [opK_nil] at this; injection this with this
       exact this.symm
      exact List.map_eq_nil_iff.1 h9
     subst hm0; exact ⟨b, bm, rfl, SK.si (sk_of_ko h1 hb hj.ks (TV.empty most) (fun p hp => by cases hp) (st := 0) (by show (0 : Int) ≤ ((0 : Nat) : Int); omega)) rfl fun _ => ⟨rfl, rfl⟩⟩
def ArmE (W w : World) (bd b bm : Nat) (br : Bool) (m : List (List UInt8 × Value × List Int)) (rs : List (List Int)) (sc st : Nat) (n0 : Int) (e : Ending) (w' : World) : Prop := (e = .returned (.int .i64 0) ∧ SI W w' bd b bm (fun _ => False) br m rs sc st n0) ∨ (e = .returned (.int .i64 1) ∧ Below W.heap.size W w')
theorem warm {W w : World} {bd b bm : Nat} {n0 : Int} {br : Bool} {m : List (List UInt8 × Value × List Int)} {rs : List (List Int)} {sc st : Nat} (h : SI W w bd b bm (fun _ => False) br m rs sc st n0) (va : Option Addr) (vc : Nat) (ps : List (Int × Int)) (hv : FltV w va ps) (hw : FW ps) :
 Calls Tryz.prog 20 #[.pointer (some ⟨bd, 0, none⟩), .slice va ps.length vc] w fun e w' => ArmE W w bd b bm br m rs sc st n0 e w' := by
 obtain ⟨bl, S, L, A, P, ini, la, hk, hrs, ho⟩ := h; refine (arm_any hk.lg.dl.disk va vc ps hv hw).mono ?_; rintro e w' (⟨hr, rfl, x, hD, hF⟩ | ⟨_, rfl, hb⟩)
 · have hc := hk.lg.dl.gb.cnt
   have hG : GB (armS S x ps) 1073741824 := ⟨by unfold Cnt at hc ⊢; show 0 ≤ S.steps ∧ S.steps ≤ S.steps ∧ S.steps < 4611686018427387904; omega, hk.lg.dl.gb.rm, hk.lg.dl.gb.r0, hk.lg.dl.gb.wf⟩
   obtain ⟨h1, h2⟩ := hk.lg.dl.disked hD hF hG; have el : (absD (armS S x ps)).l = A.l := by rw [← hk.lg.a]; rfl
   have es : (absD (armS S x ps)).steps = A.steps := by rw [← hk.lg.a]; rfl
   obtain ⟨j1, _⟩ := hk.f3 h1 h2 rfl hk.lg.p hk.lg.nm (by rw [el]; exact hk.tv) (by rw [el]; exact hk.nm) (st' := st) (by rw [es]; exact hk.st); exact Or.inl ⟨rfl, SK.si j1 hrs ho⟩
 · exact Or.inr ⟨rfl, hk.lg.fr.trans (hb.mono hk.lg.fr.size)⟩
/-- Behind Boot. -/
def BT (W w : World) (bd : Nat) (N : Nat → Prop) (rs : List (List Int)) (sc : Nat) : Prop :=
 ∃ (S : DS) (A : DA) (P : PL) (n0 : Int) (ini : List Seg) (la : Option Seg) (ks : List Int), Dk W w bd S 1073741824 ⟨bootT A.l ks, false, A.steps, A.armed, fun _ => 0, A.room⟩ ∧ TV A.l P n0 ini la sc ∧ Srt A.l ∧ Wf A.l 1073741824 ∧ NmB A.l ∧ A.steps ≤ 4000000000000000000 ∧ P.rs = rs ∧ ∀ x, N x → S.role x = .none ∧ x < w.heap.size
theorem nmb_boot {l : List Tf} (h : NmB l) (ks : List Int) : NmB (bootT l ks) := fun p hp => by
 unfold bootT at hp; obtain ⟨j, hj, rfl⟩ := List.mem_mapIdx.1 hp; exact h l[j] (List.getElem_mem hj)
theorem wboot {W w : World} {bd b bm : Nat} {n0 : Int} {N : Nat → Prop} {br : Bool} {m : List (List UInt8 × Value × List Int)} {rs : List (List Int)} {sc st : Nat} (h : SI W w bd b bm N br m rs sc st n0) (hst : st ≤ 3000000000000000000) (v : Value) (ks : List Int) (hv : IntsV W v ks) (hkl : ks.length ≤ 9223372036854775807) :
 Calls Tryz.prog 18 #[.pointer (some ⟨bd, 0, none⟩), v] w fun e w' => e = .returned (.tuple #[]) ∧ BT W w' bd N rs sc ∧ (∀ x, N x → w'.heap[x]? = w.heap[x]?) := by
 obtain ⟨bl, S, L, A, P, ini, la, hk, hrs, ho⟩ := h; have hd : Dk W w bd S 1073741824 A := ⟨hk.lg.dl.disk, hk.lg.dl.gb, hk.lg.a, hk.lg.dl.vars, hk.lg.fr, fun x hx => (hk.lg.off x hx).1, hk.lg.v0⟩
 have el : absP S = A.l := congrArg DA.l hk.lg.a; refine (dk_boot2 hd v ks hv hkl).mono ?_; rintro e w' ⟨S', rfl, hd', hf⟩; refine ⟨rfl, ⟨S', A, P, n0, ini, la, ks, hd', hk.tv, el ▸ hk.lg.dl.disk.srt, el ▸ hk.lg.dl.gb.wf, hk.nm, by have := hk.st; omega, hrs, fun x hx => ?_⟩, fun x hx => ?_⟩
 · obtain ⟨h1, h2, h3, h4, h5⟩ := hk.no x hx
   exact ⟨hf.role x h5 h1, Nat.lt_of_lt_of_le h5 hf.size⟩
 · obtain ⟨h1, h2, h3, h4, h5⟩ := hk.no x hx
   exact hf.block x h5 h1
/-- Behind the second Open. -/
def Op1 (W w : World) (N : Nat → Prop) (rs : List (List Int)) (sc : Nat) (e : Ending) (w' : World) : Prop :=
 ∃ b bl bm m j D, e = .returned (.tuple #[.pointer (some ⟨b, 0, none⟩), .int .i64 0]) ∧ Below W.heap.size W w' ∧ KS w' D b bl false bm m ∧ (∀ x, D x → x < w'.heap.size) ∧ sc ≤ j ∧ j ≤ rs.length ∧ opK (rs.take j) = some (mk m) ∧ m.length ≤ 2000000000000 ∧ (∀ x, N x → w'.heap[x]? = w.heap[x]?)
theorem wopen1 {W w : World} {bd : Nat} {N : Nat → Prop} {rs : List (List Int)} {sc : Nat} (h : BT W w bd N rs sc) (hsn : ∀ r ∈ rs, Snd r) (most : Int) (hm : 1 ≤ most) :
 Calls Tryz.prog 11 #[.pointer (some ⟨bd, 0, none⟩), .string logB, .int .i64 most] w fun e w' => Op1 W w N rs sc e w' := by
 obtain ⟨S, A, P, n0, ini, la, ks, hd, htv, hsr, hwf, hnm, hst, hrs, hN⟩ := h; refine (kopen_gen (X := fun c bl L w1 => c = 0 ∧ ∃ S1 A1 P1, Lg W w1 bd bl S1 L 1073741824 A1 P1 ∧ sc ≤ P1.rs.length ∧ P1.rs <+: rs ∧ ∀ x, N x → w1.heap[x]? = w.heap[x]? ∧ x < w1.heap.size) ((dk_open2 hd rfl (by show A.steps < _; omega) (nmb_boot hnm ks) most hm).mono ?_)).mono ?_
 · rintro e w1 ⟨c, bl, S1, L1, A1, P1, rfl, hl, ho, hof⟩
   obtain ⟨hc0, k1, k2, _⟩ := open_crashT htv hsr hwf ho; subst hc0; obtain ⟨h1, h2⟩ := hl rfl; rw [hrs] at k2; have e1 : L1.rs.map (·.2) = P1.rs := by rw [← h1.p]; rfl
   have hle := k2.length_le; have hsm := (htv.small hwf (by omega)).1; rw [hrs] at hsm; refine ⟨0, bl, L1, rfl, ⟨rfl, S1, A1, P1, h1, k1, k2, fun x hx => ⟨hof.block x (hN x hx).2 (hN x hx).1, Nat.lt_of_lt_of_le (hN x hx).2 hof.size⟩⟩, fun _ => ⟨h1.dl.log, h2, ?_, fun p hp => ?_⟩⟩
   · have := congrArg List.length e1
     rw [List.length_map] at this; omega
   · have hpm : p.2 ∈ P1.rs := by rw [← e1]; exact List.mem_map_of_mem hp
     have := hsn p.2 (k2.subset hpm); exact ⟨this.1, this.2.1⟩
 · rintro e w' ⟨c, bl, L, w1, ⟨rfl, S1, A1, P1, h1, k1, k2, k3⟩, hb, hko⟩
   have e1 : L.rs.map (·.2) = P1.rs := by rw [← h1.p]; rfl
   have htk : P1.rs = rs.take P1.rs.length := List.prefix_iff_eq_take.1 k2; rcases hko with ⟨hc, _⟩ | ⟨_, hn, _⟩ | ⟨_, b, bm, m, hop, hml, rfl, hj⟩
   · exact absurd rfl hc
   · rw [e1] at hn
     obtain ⟨t, ht, _⟩ := opK_snd (rs := P1.rs) fun r hr => hsn r (k2.subset hr)
     rw [hn] at ht; cases ht
   · rw [e1] at hop
     exact ⟨b, bl, bm, m, P1.rs.length, _, rfl, h1.fr.trans (hb.mono h1.fr.size), hj.ks, fun x hx => hx.2, k1, k2.length_le, by rw [← htk]; exact hop, hml, fun x hx => (hb.block x (k3 x hx).2).trans (k3 x hx).1⟩
/-- Where the law's lists may lie. -/
def LD (W : World) (N : Nat → Prop) (v : Value) (x : Nat) : Prop := (x < W.heap.size ∨ N x) ∧ v.ownBlock ≠ some x
/-- The law's lists. -/
structure AL (W w : World) (N : Nat → Prop) (v : Value) (vs : List Value) (ms : List Kv) : Prop where
 own : w.ownsRow W.heap.size 43 1 v vs.length vs
 nb : ∀ b, v.ownBlock = some b → N b
 len : vs.length = ms.length
 it : ∀ (i : Nat) (a : Kv), ms[i]? = some a → ∃ u, vs[i]? = some u ∧ LsV w (LD W N v) u (a.map toCh)
theorem LD.keep {W w w' : World} {N : Nat → Prop} {v u : Value} {l : List Ch} (h : LsV w (LD W N v) u l) (hb : ∀ x, x < W.heap.size → w'.heap[x]? = w.heap[x]?) (hn : ∀ x, N x → w'.heap[x]? = w.heap[x]?) {N' : Nat → Prop} (hN : ∀ x, N x → N' x) : LsV w' (LD W N' v) u l :=
 h.mono (fun x hx => hx.1.elim (hb x) (hn x)) (fun x hx => ⟨hx.1.imp id (hN x), hx.2⟩)
theorem AL.keep {W w w' : World} {N : Nat → Prop} {v : Value} {vs : List Value} {ms : List Kv} (h : AL W w N v vs ms) (hb : ∀ x, x < W.heap.size → w'.heap[x]? = w.heap[x]?) (hn : ∀ x, N x → w'.heap[x]? = w.heap[x]?) {N' : Nat → Prop} (hN : ∀ x, N x → N' x) : AL W w' N' v vs ms :=
 ⟨ownsRow_heap h.own (fun b hb' => hn b (h.nb b hb')), fun b hb' => hN b (h.nb b hb'), h.len, fun i a ha => by
  obtain ⟨u, hu, hl⟩ := h.it i a ha; exact ⟨u, hu, LD.keep hl hb hn hN⟩⟩
theorem info43b : (Tryz.prog.info? 43).map (fun i => (i.zero, i.size, i.bytes)) = some (some (.slice none 0 0), 1, 24) := by kernel_rfl
/-- append of one list to the law's lists. -/
theorem wpList_append_u {w : World} {ops : Array Oper} {rest : List Oper} {o : Oper} {a : Act} {Q : Exit → Act → World → Prop} (hgd : o.guard = none) (s x : Operand)
 (ho : o.op = .call { callee := .builtin .append, args := #[s, x], argTypes := #[80, 80] }) (base : Nat)
 (v : Value) (l : List Value) (n : Value) (hn : ∃ a l c, n = .slice a l c) (hs : a.eval s = v) (hown : w.ownsRow base 43 1 v l.length l) (g : Nat) (hg : w.heap[g]? = some (.cells #[n] 43)) (hx : a.eval x = .slice (some ⟨g, 0, none⟩) 1 1)
 (hl : (l.length + 1) * 24 ≤ 140737488355328) (hbase : base ≤ w.heap.size)
 (h : ∀ v' w', w'.ownsRow base 43 1 v' (l ++ [n]).length (l ++ [n]) → w.grownBy w' v.ownBlock → (v'.ownBlock = v.ownBlock ∨ v'.ownBlock = some w.heap.size) → wpList Tryz.prog ops Q rest (a.put o.dst v') w') : wpList Tryz.prog ops Q (o :: rest) a w := by
 obtain ⟨i0, hi, hz0, hz1, hz2⟩ : ∃ i, Tryz.prog.info? 43 = some i ∧ i.zero = some (.slice none 0 0) ∧ i.size = 1 ∧ i.bytes = 24 := by
  have := info43b; cases h : Tryz.prog.info? 43 with
  | none => rw [h] at this; cases this
  | some i =>
    rw [h] at this; simp at this; exact ⟨i, rfl, this.1, this.2.1, this.2.2⟩
 refine wpList_append_own_at w hgd s x 80 ho base 43 i0 _ 1 24 Tryz.underlying80 hi hz0 hz1 hz2 rfl (by decide) v l.length l hs hown ⟨g, 0, none⟩ 1 1 [n] hx rfl (fun j u hu => ?_) (fun u hu => by simp at hu; subst hu; obtain ⟨_, _, _, rfl⟩ := hn; rfl) (by unfold maxLen; omega) (by omega) hbase (fun v' w' a b _ d => h v' w' ?_ b d)
 · rw [Addr.add_lit, Nat.zero_add, cell_of_block hg]
   simpa using hu
 · rw [List.length_append]
   exact a
/-- A list more. -/
theorem AL.add {W w w' : World} {N : Nat → Prop} {v v' : Value} {vs : List Value} {ms : List Kv} (h : AL W w N v vs ms) {u : Value} {a : Kv} (hu : LsV w (LD W N v) u (a.map toCh)) (hlt : ∀ x, (x < W.heap.size ∨ N x) → x < w.heap.size) (hrow : w'.ownsRow W.heap.size 43 1 v' (vs ++ [u]).length (vs ++ [u])) (hg : w.grownBy w' v.ownBlock) (ha : v'.ownBlock = v.ownBlock ∨ ∀ b, v'.ownBlock = some b → w.heap.size ≤ b) : AL W w' (fun x => N x ∨ (w.heap.size ≤ x ∧ x < w'.heap.size)) v' (vs ++ [u]) (ms ++ [a]) := by
 have hk : ∀ {t : Value} {l : List Ch}, LsV w (LD W N v) t l → LsV w' (LD W (fun x => N x ∨ (w.heap.size ≤ x ∧ x < w'.heap.size)) v') t l := fun ht => ht.mono (fun x hx => hg.block x (hlt x hx.1) (fun e => hx.2 e.symm)) (fun x hx => ⟨hx.1.imp id Or.inl, fun e => by
  rcases ha with ha | ha
  · exact hx.2 (ha ▸ e)
  · have h1 := ha x e
    have h2 := hlt x hx.1; omega⟩)
 refine ⟨hrow, fun b hb => ?_, by rw [List.length_append, List.length_append, h.len]; rfl, fun i t ht => ?_⟩
 · rcases ha with ha | ha
   · exact Or.inl (h.nb b (ha ▸ hb))
   · exact Or.inr ⟨ha b hb, (hrow.lt b hb).2⟩
 · rcases Nat.lt_or_ge i ms.length with hi | hi
   · rw [List.getElem?_append_left hi] at ht
     obtain ⟨x, hx, hl⟩ := h.it i t ht; exact ⟨x, by rw [List.getElem?_append_left (by rw [h.len]; exact hi)]; exact hx, hk hl⟩
   · have hi2 : i = ms.length := by
      have := (List.getElem?_eq_some_iff.1 ht).1; rw [List.length_append] at this; simp at this; omega
     subst hi2; have e : a = t := by simpa using ht
     subst e; exact ⟨u, by rw [← h.len]; simp, hk hu⟩
theorem mk_len (m : List (List UInt8 × Value × List Int)) : (mk m).length = m.length := by unfold mk mapG; rw [List.length_map]
theorem hv_mlen {rs : List (List Int)} {sc : Nat} {br : Bool} {m : List (List UInt8 × Value × List Int)} {ms : List Kv} {safe : Nat} (h : HV rs sc br (mk m) ms safe) (hrs : rs.length ≤ 100000000) (hb : br = false) : SrtG m ∧ m.length ≤ 940000000000 ∧ ∀ p ∈ m, p.1.length ≤ 64 := by
 subst hb; obtain ⟨h1, h2, h3⟩ := h.st; rw [mk_len] at h3; refine ⟨srt_mk h2, by omega, fun p hp => ?_⟩; have : (p.1, p.2.2) ∈ mk m := List.mem_map.2 ⟨p, hp, rfl⟩; exact (h1 _ this).2.1
/-- What a Put makes of the history. -/
def PutC (l : List Ch) (ms : List Kv) (safe : Nat) (c : Int) (br' : Bool) (m' : List (List UInt8 × Value × List Int)) (rs' : List (List Int)) (sc' : Nat) : Prop :=
 ((c = 1 ∨ c = 3) ∧ HV rs' sc' br' (mk m') ms safe) ∨
 (c = 0 ∧ ∃ s, ms.getLast? = some s ∧ HV rs' sc' br' (mk m') (ms ++ [doPs s l]) ms.length) ∨
 (c = 74 ∧ HV rs' sc' br' (mk m') ms safe) ∨
 ((c ≠ 0 ∧ c ≠ 1 ∧ c ≠ 3 ∧ c ≠ 74) ∧ ∃ s, ms.getLast? = some s ∧ HV rs' sc' br' (mk m') (ms ++ [doPs s l]) safe)
theorem put_cases {l : List Ch} {br : Bool} {m : List (List UInt8 × Value × List Int)} {rs : List (List Int)} {sc : Nat} {ms : List Kv} {safe : Nat} (h : HV rs sc br (mk m) ms safe) (hrs : rs.length ≤ 100000000) (hb : ∀ c ∈ l, KByt c.key ∧ KByt c.val) {c : Int} {br' : Bool} {m' : List (List UInt8 × Value × List Int)} {rs' : List (List Int)} {sc' : Nat} (hr : PutR l br m rs sc c br' m' rs' sc') : PutC l ms safe c br' m' rs' sc' := by
 rcases hr with ⟨rfl, rfl, rfl, rfl, rfl, rfl⟩ | ⟨rfl, hc, rfl, rfl, rfl, rfl⟩ | ⟨rfl, hok, hl, hs, h0, h1⟩
 · exact Or.inr (Or.inr (Or.inl ⟨rfl, h⟩))
 · exact Or.inl ⟨hc, h⟩
 · rcases hs with ⟨rfl, rfl, rfl, rfl⟩ | ⟨hc, rfl, rfl, hr⟩
   · have hp := h.put hrs hok hb hl
     rw [← (h0 rfl).1] at hp; refine Or.inr (Or.inl ⟨rfl, mk m, (h.cur rfl).2.1, ?_⟩); rw [List.length_append]; exact hp
   · rw [h1 hc]
     by_cases c1 : c = 1 ∨ c = 3
     · refine Or.inl ⟨c1, ?_⟩
       rcases hr with rfl | ⟨_, h3, h4, _⟩
       · exact h.stay
       · omega
     · by_cases c2 : c = 74
       · refine Or.inr (Or.inr (Or.inl ⟨c2, ?_⟩))
         rcases hr with rfl | ⟨_, _, _, h5⟩
         · exact h.stay
         · exact absurd c2 h5
       · exact Or.inr (Or.inr (Or.inr ⟨⟨hc, by omega, by omega, c2⟩, mk m, (h.cur rfl).2.1, h.bad hrs hok hb hl (hr.imp id fun h => h.1)⟩))
theorem snap_cases {br : Bool} {m : List (List UInt8 × Value × List Int)} {rs : List (List Int)} {sc : Nat} {ms : List Kv} {safe : Nat} (h : HV rs sc br (mk m) ms safe) {br' : Bool} {rs' : List (List Int)} {sc' : Nat} (hr : SnapR br m rs sc br' rs' sc') : HV rs' sc' br' (mk m) ms safe := by
 rcases hr with ⟨rfl, rfl, rfl⟩ | ⟨rfl, hl, rfl, rfl, hr⟩ | ⟨rfl, hl, rfl, rfl, k, hk, hr⟩
 · exact h
 · rw [allC_mk] at hl hr
   exact h.snapBad hl hr
 · rw [allC_mk] at hl hr
   exact h.snap hl hk hr
theorem SI.vars {W w : World} {bd b bm : Nat} {n0 : Int} {N : Nat → Prop} {br : Bool} {m : List (List UInt8 × Value × List Int)} {rs : List (List Int)} {sc st : Nat} (h : SI W w bd b bm N br m rs sc st n0) : Vars w := by
 obtain ⟨bl, S, L, A, P, ini, la, hk, hrs, ho⟩ := h; exact hk.lg.dl.vars
theorem SI.bel {W w : World} {bd b bm : Nat} {n0 : Int} {N : Nat → Prop} {br : Bool} {m : List (List UInt8 × Value × List Int)} {rs : List (List Int)} {sc st : Nat} (h : SI W w bd b bm N br m rs sc st n0) : Below W.heap.size W w := by
 obtain ⟨bl, S, L, A, P, ini, la, hk, hrs, ho⟩ := h; exact hk.lg.fr
theorem SI.many {W w : World} {bd b bm : Nat} {n0 : Int} {N : Nat → Prop} {br : Bool} {m : List (List UInt8 × Value × List Int)} {rs : List (List Int)} {sc st : Nat} (h : SI W w bd b bm N br m rs sc st n0) (hst : st ≤ 4000000000000000000) : rs.length ≤ 100000000 := by
 obtain ⟨bl, S, L, A, P, ini, la, hk, hrs, ho⟩ := h; rw [← hrs]; exact (hk.lgok hst).rs
theorem own_at {w : World} {base n : Nat} {e : TypeId} {v : Value} {xs : List Value} (h : w.ownsRow base e 1 v n xs) {j : Nat} {u : Value} (hx : xs[j]? = some u) : ∃ g c, v = .slice (some ⟨g, 0, none⟩) n c ∧ w.cell? ⟨g, j, none⟩ = some u := by
 rcases h.2 with ⟨_, h0⟩ | ⟨g, cap, cur, rfl, _⟩
 · have := (List.getElem?_eq_some_iff.1 hx).1
   have h1 := h.1; omega
 · have h0 := h.cells (g := g) rfl j u hx
   rw [Addr.add_lit, Nat.zero_add] at h0; exact ⟨g, cap, rfl, h0⟩
/-- The law's argument: lists of changes. -/
def RowsC (W : World) (a : Option Addr) (ls : List (Value × List Ch)) : Prop := ∀ (j : Nat) (p : Value × List Ch), ls[j]? = some p → ∃ b o, a = some ⟨b, o, none⟩ ∧ W.cell? ⟨b, o + j, none⟩ = some p.1 ∧ ChsV W (fun x => x < W.heap.size) p.1 p.2 ∧ ∀ c ∈ p.2, KByt c.key ∧ KByt c.val
def BoolsV (W : World) (a : Option Addr) (bs : List Bool) : Prop := ∀ (j : Nat) (x : Bool), bs[j]? = some x → ∃ b o, a = some ⟨b, o, none⟩ ∧ W.cell? ⟨b, o + j, none⟩ = some (.bool x)
/-- The worlds of the outer loop. -/
structure ST (W wr : World) (bd b bm : Nat) (k : Nat) (v : Value) (safe : Nat) (vs : List Value) (ms : List Kv) (br : Bool) (m : List (List UInt8 × Value × List Int)) (rs : List (List Int)) (sc : Nat) (N : Nat → Prop) (n0 : Int) : Prop where
 si : SI W wr bd b bm N br m rs sc (30 * k) n0
 al : AL W wr N v vs ms
 hv : HV rs sc br (mk m) ms safe
 cnt : vs.length ≤ k + 1
/-- The same within a round, behind Put; u: the list that is wanted. -/
structure SW (W wr : World) (bd b bm : Nat) (k : Nat) (v : Value) (vs : List Value) (ms : List Kv) (br : Bool) (m : List (List UInt8 × Value × List Int)) (rs : List (List Int)) (sc : Nat) (N : Nat → Prop) (n0 : Int) (u : Value) (a : Kv) : Prop where
 si : SI W wr bd b bm N br m rs sc (30 * k + 3) n0
 al : AL W wr N v vs ms
 ls : LsV wr (LD W N v) u (a.map toCh)
theorem SW.lt {W wr : World} {bd b bm : Nat} {k : Nat} {v : Value} {vs : List Value} {ms : List Kv} {br : Bool} {m : List (List UInt8 × Value × List Int)} {rs : List (List Int)} {sc : Nat} {N : Nat → Prop} {n0 : Int} {u : Value} {a : Kv} (h : SW W wr bd b bm k v vs ms br m rs sc N n0 u a) : ∀ x, (x < W.heap.size ∨ N x) → x < wr.heap.size := fun x hx => by
 have h1 := h.si.bel.size; rcases hx with hx | hx
 · omega
 · exact h.si.nlt x hx
/-- Behind the law's put. -/
theorem SW.put {W wr w' : World} {bd b bm : Nat} {k : Nat} {v : Value} {vs : List Value} {ms : List Kv} {br : Bool} {m : List (List UInt8 × Value × List Int)} {rs : List (List Int)} {sc : Nat} {N : Nat → Prop} {n0 : Int} {u u' : Value} {a a' : Kv} (h : SW W wr bd b bm k v vs ms br m rs sc N n0 u a) (hb : Below wr.heap.size wr w') (hl : LsV w' (fun x => LD W N v x ∨ (wr.heap.size ≤ x ∧ x < w'.heap.size)) u' (a'.map toCh)) : SW W w' bd b bm k v vs ms br m rs sc (fun x => N x ∨ (wr.heap.size ≤ x ∧ x < w'.heap.size)) n0 u' a' := by
 have hlt := h.lt; refine ⟨h.si.grown (r := none) ⟨hb.os, hb.tape, hb.output, hb.size, fun x hx _ => hb.block x hx⟩ (fun x hx => by cases hx) (fun x hx => ?_), h.al.keep (fun x hx => hb.block x (hlt x (Or.inl hx))) (fun x hx => hb.block x (hlt x (Or.inr hx))) (fun x hx => Or.inl hx), hl.mono (fun _ _ => rfl) (fun x hx => ?_)⟩
 · rcases hx with hx | hx
   · exact ⟨Or.inl hx, Nat.lt_of_lt_of_le (hlt x (Or.inr hx)) hb.size⟩
   · exact ⟨Or.inr hx.1, hx.2⟩
 · rcases hx with hx | hx
   · exact ⟨hx.1.imp id Or.inl, hx.2⟩
   · refine ⟨Or.inr (Or.inr hx), fun e => ?_⟩
     have := hlt x (Or.inr (h.al.nb x e)); omega
/-- Behind append. -/
theorem SW.add {W wr w' : World} {bd b bm : Nat} {k : Nat} {v v' : Value} {vs : List Value} {ms : List Kv} {br : Bool} {m : List (List UInt8 × Value × List Int)} {rs : List (List Int)} {sc : Nat} {N : Nat → Prop} {n0 : Int} {u : Value} {a : Kv} (h : SW W wr bd b bm k v vs ms br m rs sc N n0 u a) (hrow : w'.ownsRow W.heap.size 43 1 v' (vs ++ [u]).length (vs ++ [u])) (hg : wr.grownBy w' v.ownBlock) (ha : v'.ownBlock = v.ownBlock ∨ ∀ b, v'.ownBlock = some b → wr.heap.size ≤ b) : SI W w' bd b bm (fun x => N x ∨ (wr.heap.size ≤ x ∧ x < w'.heap.size)) br m rs sc (30 * k + 3) n0 ∧ AL W w' (fun x => N x ∨ (wr.heap.size ≤ x ∧ x < w'.heap.size)) v' (vs ++ [u]) (ms ++ [a]) := by
 have hlt := h.lt; refine ⟨h.si.grown hg (fun x hx => ⟨h.al.nb x hx, (h.al.own.lt x hx).1⟩) (fun x hx => ?_), h.al.add h.ls hlt hrow hg ha⟩; rcases hx with hx | hx
 · exact ⟨Or.inl hx, Nat.lt_of_lt_of_le (hlt x (Or.inr hx)) hg.size⟩
 · exact ⟨Or.inr hx.1, hx.2⟩
end Go.Proofs.YtconkienlcegaaaGreatDoor
