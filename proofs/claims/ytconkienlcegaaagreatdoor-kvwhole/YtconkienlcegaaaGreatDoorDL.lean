/- disk: Boot. -/
import Derived.Test.YtconkienlcegaaaGreatDoorGDK
namespace Go.Proofs.YtconkienlcegaaaGreatDoor
open Go.RowKit Go.Maps Go.Joins
set_option linter.unusedSimpArgs false
set_option linter.unusedVariables false
/-- Whole numbers that lie in memory. -/
def IntsV (w : World) (v : Value) (ks : List Int) : Prop := ∃ a cap, v = .slice a ks.length cap ∧ ∀ j x, ks[j]? = some x → ∃ b o, a = some ⟨b, o, none⟩ ∧ w.cell? ⟨b, o + j, none⟩ = some (.int .i64 x)
theorem IntsV.fr {w w' : World} {S S' : DS} {v : Value} {ks : List Int} (h : IntsV w v ks) (hr : ∀ b, dBlock v ks = some b → S.role b = .none) (hF : Fr w w' S S') : IntsV w' v ks := by
 obtain ⟨a, cap, rfl, hc⟩ := h; refine ⟨a, cap, rfl, fun j x hj => ?_⟩; obtain ⟨b, o, rfl, h1⟩ := hc j x hj; refine ⟨b, o, rfl, ?_⟩; have h2 := cell_lt h1; rw [World.cell?_of_block (hF.block _ h2 (hr _ (by rw [dBlock_here hj]; rfl)))]; exact h1
/-- How many bytes of the file number j are left. -/
def keepI (f : FileC) (ks : List Int) (j : Nat) : Int := match ks[j]? with
 | none => f.safe
 | some x => min (max x f.safe) f.bs.length
/-- Booted: up, without a plan. -/
def upS (S : DS) : DS := { S with down := false, pl := none, plan := fun _ => 0 }
theorem DiskIs.setB {w w' : World} {bd : Nat} {S : DS} (h : DiskIs w bd S) (hk : ∀ b, b ≠ bd → w'.heap[b]? = w.heap[b]?) (hs : w.heap.size ≤ w'.heap.size)
 (hd : w'.heap[bd]? = some (.cells (dC (upS S)) 89)) : DiskIs w' bd (upS S) where
 disk := hd
 rd := h.rd
 files := ownsMap_heap h.files (hk S.bm (fun e => by have := h.rm; rw [e, h.rd] at this; cases this))
 rm := h.rm
 plan := fun _ => rfl
 rp := fun b hb => by cases hb
 file := fun p hp => (hk _ (fun e => by have := h.rf p hp; rw [e, h.rd] at this; cases this)).trans (h.file p hp)
 rf := h.rf
 row := fun p hp => ownsRow_heap (h.row p hp) (fun b hb => hk b (fun e => by have := h.rr p hp b hb; rw [e, h.rd] at this; cases this))
 rr := h.rr
 fresh := fun b hb => h.fresh b (by omega)
/-- The first k of these are cut. -/
structure Cutto (S S' : DS) (L : List (List UInt8)) (ks : List Int) (k : Nat) : Prop where
 room : S'.room = S.room
 bm : S'.bm = S.bm
 down : S'.down = S.down
 steps : S'.steps = S.steps
 armed : S'.armed = S.armed
 pl : S'.pl = S.pl
 plan : S'.plan = S.plan
 fs : S'.fs = S.fs
 done : ∀ j n, j < k → L[j]? = some n → (S'.fl n).bs = (S.fl n).bs.take (keepI (S.fl n) ks j).toNat ∧ (S'.fl n).safe = keepI (S.fl n) ks j
 todo : ∀ j n, k ≤ j → L[j]? = some n → S'.fl n = S.fl n
theorem Cutto.start (S : DS) (L : List (List UInt8)) (ks : List Int) : Cutto S S L ks 0 := ⟨rfl, rfl, rfl, rfl, rfl, rfl, rfl, rfl, fun j n h => by omega, fun _ _ _ _ => rfl⟩
theorem Cutto.step {S S' : DS} {L : List (List UInt8)} {ks : List Int} {k : Nat} (h : Cutto S S' L ks k) (hN : L.Nodup) {n : List UInt8} (hn : L[k]? = some n) (f : FileC) (hf : f.bs = (S.fl n).bs.take (keepI (S.fl n) ks k).toNat ∧ f.safe = keepI (S.fl n) ks k) (z : Nat) : Cutto S (setFl S' n f z) L ks (k + 1) := by
 have hne : ∀ j m, j ≠ k → L[j]? = some m → m ≠ n := fun j m hj hm e => by
  rw [e] at hm; obtain ⟨h1, h2⟩ := List.getElem?_eq_some_iff.1 hm; obtain ⟨h3, h4⟩ := List.getElem?_eq_some_iff.1 hn; have hp := List.pairwise_iff_getElem.1 hN; rcases Nat.lt_or_gt_of_ne hj with h5 | h5
  · exact hp j k h1 h3 h5 (h2.trans h4.symm)
  · exact hp k j h3 h1 h5 (h4.trans h2.symm)
 refine ⟨h.room, h.bm, h.down, h.steps, h.armed, h.pl, h.plan, h.fs, fun j m hj hm => ?_, fun j m hj hm => ?_⟩
 · by_cases e : j = k
   · subst e
     rw [hn] at hm; injection hm with hm
     subst hm; show ((if _ then f else _ : FileC).bs = _ ∧ (if _ then f else _ : FileC).safe = _); rw [if_pos rfl]; exact hf
   · show ((if _ then f else _ : FileC).bs = _ ∧ (if _ then f else _ : FileC).safe = _)
     rw [if_neg (hne j m e hm)]; exact h.done j m (by omega) hm
 · show (if _ then f else _ : FileC) = _
   rw [if_neg (hne j m (by omega) hm)]; exact h.todo j m (by omega) hm
theorem look_of_mem {fs : List (List UInt8 × Nat)} {n : List UInt8} (h : n ∈ fs.map (·.1)) : ∃ g, look fs n = some g := by
 obtain ⟨p, hp, rfl⟩ := List.mem_map.1 h; unfold look; cases hf : fs.find? (fun q => q.1 == p.1) with
 | none =>
   have := List.find?_eq_none.1 hf p hp; simp at this
 | some q => exact ⟨q.2, rfl⟩
theorem DiskIs.nodup {w : World} {bd : Nat} {S : DS} (h : DiskIs w bd S) : (S.fs.map (·.1)).Nodup := by
 have := h.apart; rw [List.pairwise_map] at this; rw [List.Nodup, List.pairwise_map]; exact this.imp (fun hpq e => hpq (by show Lit.string _ = Lit.string _; rw [e]))
theorem take_row {w : World} {a : Option Addr} {cap : Nat} {bs : List Int} (h : w.ownsRow 0 5 1 (.slice a bs.length cap) bs.length (vB bs)) {m : Nat} (hm : m ≤ bs.length) : w.ownsRow 0 5 1 (.slice a m cap) (bs.take m).length (vB (bs.take m)) := by
 have e : (bs.take m).length = m := by rw [List.length_take]; omega
 rw [e]; refine ⟨by rw [vB_length, e]; omega, ?_⟩; rcases h.2 with ⟨h1, h2⟩ | ⟨g, cap', cur, h1, h2, h3, h4, h5, h6, h7⟩
 · injection h1 with h1 h1' h1''
   left
   rw [h1, h1'']; have : m = 0 := by omega
   subst this; exact ⟨rfl, rfl⟩
 · injection h1 with h1 h1' h1''
   subst h1''; right; refine ⟨g, cap, cur, by rw [h1], h2, h3, by omega, h5, h6, ?_⟩; rw [Nat.mul_one] at h7 ⊢; have e2 : vB (bs.take m) = (vB bs).take m := by simp [vB, List.map_take]
   rw [e2, ← h7, List.take_take, Nat.min_eq_left hm]
theorem row_cap {w : World} {a : Option Addr} {n cap : Nat} {xs : List Value} (h : w.ownsRow 0 5 1 (.slice a n cap) n xs) : n ≤ cap ∧ cap ≤ 9223372036854775807 ∧ (a = none → cap = 0) := by
 rcases h.2 with ⟨h1, h2⟩ | ⟨g, cap', cur, h1, h2, h3, h4, h5, h6, h7⟩
 · injection h1 with h1 h1' h1''
   subst h1 h1''; exact ⟨by omega, by omega, fun _ => rfl⟩
 · injection h1 with h1 h1' h1''
   subst h1 h1''; unfold maxLen at h5; exact ⟨h4, by omega, fun e => by cases e⟩
theorem keepI_bd (f : FileC) (ks : List Int) (j : Nat) (h0 : 0 ≤ f.safe) (h1 : f.safe ≤ f.bs.length) : 0 ≤ keepI f ks j ∧ keepI f ks j ≤ f.bs.length := by
 unfold keepI; split <;> omega
theorem cut_int {w : World} {g : Nat} {a : Option Addr} {len cap : Nat} {sf : Int} (hb : w.heap[g]? = some (.cells #[.slice a len cap, .int .i64 sf] 116)) (m : Int) (h0 : 0 ≤ m) (hn : m ≤ len) (hlc : len ≤ cap) (hm : cap ≤ 9223372036854775807) (ha : a = none → cap = 0) :
 Calls Tryz.prog 56 #[.pointer (some ⟨g, 0, none⟩), .int .i64 m] w fun e w' => e = .returned (.tuple #[]) ∧ w' = (w.setCell ⟨g, 0, none⟩ (.slice a m.toNat cap)).setCell ⟨g, 1, none⟩ (.int .i64 m) := by
 obtain ⟨k, rfl⟩ := Int.eq_ofNat_of_zero_le h0; exact cut_any hb k (by omega) hlc hm ha
theorem DiskIs.cutF {w : World} {bd : Nat} {S : DS} (h : DiskIs w bd S) {n : List UInt8} {g : Nat} (hm : (n, g) ∈ S.fs) {a : Option Addr} {cap : Nat} (hsl : (S.fl n).sl = .slice a (S.fl n).bs.length cap) (m : Int) (h0 : 0 ≤ m) (h1 : m ≤ (S.fl n).bs.length) :
 DiskIs ((w.setCell ⟨g, 0, none⟩ (.slice a m.toNat cap)).setCell ⟨g, 1, none⟩ (.int .i64 m)) bd (setFl S n { sl := .slice a m.toNat cap, bs := (S.fl n).bs.take m.toNat, safe := m } w.heap.size) ∧
 Fr w ((w.setCell ⟨g, 0, none⟩ (.slice a m.toNat cap)).setCell ⟨g, 1, none⟩ (.int .i64 m)) S (setFl S n { sl := .slice a m.toNat cap, bs := (S.fl n).bs.take m.toNat, safe := m } w.heap.size) := by
 have hk : ∀ b, b < w.heap.size → b ≠ g → (S.fl n).sl.ownBlock ≠ some b → ((w.setCell ⟨g, 0, none⟩ (.slice a m.toNat cap)).setCell ⟨g, 1, none⟩ (.int .i64 m)).heap[b]? = w.heap[b]? := fun b _ hb _ => (Below.heap_setCell _ _ _ _ hb).trans (Below.heap_setCell _ _ _ _ hb)
 have hrow := h.row _ hm; rw [show ((n, g) : List UInt8 × Nat).1 = n from rfl, hsl] at hrow; refine ⟨h.setF hm _ hk (by simp) ?_ ?_ (fun b hb => Or.inl ?_), h.frF hm _ hk (by simp) ⟨rfl, rfl, rfl⟩⟩
 · rw [block_setCell (block_setCell (h.file _ hm) _)]
   simp
 · refine ownsRow_heap (take_row hrow (by omega)) (fun b hb => ?_)
   have hbg : b ≠ g := fun e => by
    have h2 := h.rr _ hm b (by rw [show ((n, g) : List UInt8 × Nat).1 = n from rfl, hsl]; cases a <;> exact hb); rw [e, h.rf _ hm] at h2; cases h2
   exact (Below.heap_setCell _ _ _ _ hbg).trans (Below.heap_setCell _ _ _ _ hbg)
 · rw [hsl]
   cases a <;> exact hb
set_option maxRecDepth 100000 in
set_option maxHeartbeats 8000000 in
/-- (*Disk).Boot -/
theorem boot_any {w : World} {bd : Nat} {S : DS} (h : DiskIs w bd S) (hl : S.fs.length ≤ 1000) (hsafe : ∀ p ∈ S.fs, 0 ≤ (S.fl p.1).safe ∧ (S.fl p.1).safe ≤ (S.fl p.1).bs.length) (v : Value) (ks : List Int) (hv : IntsV w v ks) (hkl : ks.length ≤ 9223372036854775807) (hvr : ∀ b, dBlock v ks = some b → S.role b = .none) :
 Calls Tryz.prog 18 #[.pointer (some ⟨bd, 0, none⟩), v] w fun e w' => e = .returned (.tuple #[]) ∧ ∃ (S' : DS) (ss : List (List UInt8)), ss.Perm (S.fs.map (·.1)) ∧ Cutto (upS S) S' (ss.mergeSort (fun x y => decide (x ≤ y))) ks ss.length ∧ DiskIs w' bd S' ∧ Fr w w' S S' := by
 have HS : Hid (∀ p ∈ S.fs, 0 ≤ (S.fl p.1).safe ∧ (S.fl p.1).safe ≤ (S.fl p.1).bs.length) := hsafe; have HV : Hid (IntsV w v ks ∧ ∀ b, dBlock v ks = some b → S.role b = .none) := ⟨hv, hvr⟩
 have HD : Hid (DiskIs w bd S) := h; obtain ⟨va, vc, hvf⟩ : ∃ va vc, v = .slice va ks.length vc := by obtain ⟨a, c, e, _⟩ := hv; exact ⟨a, c, e⟩
 have c2 : w.cell? ⟨bd, 2, none⟩ = some (.bool S.down) := by rw [cell_of_block h.disk]; rfl
 have c5 : w.cell? ⟨bd, 5, none⟩ = some (.map S.pl) := by rw [cell_of_block h.disk]; rfl
 have f2 : w.frozen? ⟨bd, 2, none⟩ = false := unfrozen_of_block h.disk 2; have f5 : w.frozen? ⟨bd, 5, none⟩ = false := unfrozen_of_block h.disk 5; have hD1 : DiskIs ((w.setCell ⟨bd, 2, none⟩ (.bool false)).setCell ⟨bd, 5, none⟩ (.map none)) bd (upS S) := by
  refine h.setB (fun b hb => (Below.heap_setCell _ _ _ _ hb).trans (Below.heap_setCell _ _ _ _ hb)) (by simp) ?_; rw [block_setCell (block_setCell h.disk _)]; simp [dC, upS]
 have hF1 : Fr w ((w.setCell ⟨bd, 2, none⟩ (.bool false)).setCell ⟨bd, 5, none⟩ (.map none)) S (upS S) :=
  ⟨rfl, rfl, rfl, by simp, fun b hb hr => have hb' : b ≠ bd := fun e => by { rw [e, h.rd] at hr; cases hr }
   (Below.heap_setCell _ _ _ _ hb').trans (Below.heap_setCell _ _ _ _ hb'), fun b hb hr => hr⟩
 have H1 : Hid (DiskIs ((w.setCell ⟨bd, 2, none⟩ (.bool false)).setCell ⟨bd, 5, none⟩ (.map none)) bd (upS S) ∧ Fr w ((w.setCell ⟨bd, 2, none⟩ (.bool false)).setCell ⟨bd, 5, none⟩ (.map none)) S (upS S)) := ⟨hD1, hF1⟩
 subst hvf; clear h hv hvr hsafe hD1 hF1; go_enter Tryz.func18, Tryz.ntmps18; go_wp2_with (first
  | (go_at_call 55
     refine (names_any H1.out.1 hl).mono ?_; rintro e w1 ⟨nv, ss, rfl, hperm, hrow, hnil, hb1⟩; obtain ⟨na, ncap, hnv⟩ := row_form hrow; subst hnv; have H2 : Hid (DiskIs w1 bd (upS S) ∧ Fr w w1 S (upS S) ∧ ss.Perm (S.fs.map (·.1)) ∧ w1.ownsRow w.heap.size 9 1 (.slice na ss.length ncap) ss.length ((ss.mergeSort (fun x y => decide (x ≤ y))).map encStr)) := ⟨H1.out.1.below hb1, H1.out.2.trans (Fr.below hb1), hperm, ownsRow_le hrow (by simp)⟩
     clear hperm hrow hnil hb1)
  | go_in)
 obtain ⟨L, hL⟩ : ∃ L, L = ss.mergeSort (fun x y => decide (x ≤ y)) := ⟨_, rfl⟩
 have hLp : L.Perm (S.fs.map (·.1)) := by rw [hL]; exact (List.mergeSort_perm _ _).trans H2.out.2.2.1
 have hLl : L.length = ss.length := by rw [hL]; exact List.length_mergeSort _
 have hLN : L.Nodup := hLp.nodup_iff.2 HD.out.nodup; have hcells : ∀ j n, L[j]? = some n → ∃ gs, na = some ⟨gs, 0, none⟩ ∧ S.role gs = .none ∧ w1.cell? ⟨gs, j, none⟩ = some (encStr n) := fun j n hj => by
  have hrow := H2.out.2.2.2; rw [← hL] at hrow; have hjl := (List.getElem?_eq_some_iff.1 hj).1; rcases hrow.2 with ⟨h1, h2⟩ | ⟨gs, cap', cur, h1, h2, h3, _⟩
  · omega
  · injection h1 with h1 h1' h1''
    refine ⟨gs, h1, HD.out.fresh gs h2, ?_⟩; have := hrow.cells (g := gs) (by rw [h1]; rfl) j (encStr n) (by rw [List.getElem?_map, hj]; rfl); rw [Addr.add_lit, Nat.zero_add] at this; exact this
 have HL : Hid (L.Perm (S.fs.map (·.1)) ∧ L.Nodup ∧ L = ss.mergeSort (fun x y => decide (x ≤ y)) ∧ (∀ j n, L[j]? = some n → ∃ gs, na = some ⟨gs, 0, none⟩ ∧ S.role gs = .none ∧ w1.cell? ⟨gs, j, none⟩ = some (encStr n)) ∧ ∀ n ∈ L, n.length ≤ 9223372036854775807) := ⟨hLp, hLN, hL, hcells, fun n hn => by
  have h1 := strKeys_le HD.out.files Tryz.underlying9 n (by rw [keys_toD]; exact hLp.mem_iff.1 hn); unfold maxLen at h1; omega⟩
 have hlen : L.length ≤ 1000 := by have := hLp.length_eq; rw [List.length_map] at this; omega
 clear hL hLp hLN hcells c2 c5 f2 f5 H1; rw [← hLl]; have HLl : Hid (L.length = ss.length) := hLl; clear hLl; go_loopw [19] (fun i wr => ∃ (k : Nat) (S' : DS), k ≤ L.length ∧ i = .int .i64 k ∧ Cutto (upS S) S' L ks k ∧ DiskIs wr bd S' ∧ Fr w1 wr (upS S) S') (fun i _ => L.length - (intOf i).toNat)
 case atStart => exact ⟨0, _, Nat.zero_le _, rfl, Cutto.start _ _ _, H2.out.1, Fr.refl _ _⟩
 case round =>
  obtain ⟨k, S', hk, rfl, hcut, hDr, hFr⟩ := hrel; by_cases hkl : k < L.length
  · have hn : L[k]? = some L[k] := List.getElem?_eq_getElem hkl
    obtain ⟨n, hnk⟩ : ∃ n, n = L[k] := ⟨_, rfl⟩
    rw [← hnk] at hn; obtain ⟨gs, hna, hrs, hcw⟩ := HL.out.2.2.2.1 k n hn; subst hna; have hcell : wr.cell? ⟨gs, k, none⟩ = some (.string ⟨n.toArray⟩) := by
     rw [World.cell?_of_block (hFr.block gs (cell_lt hcw) hrs)]; exact hcw
    have hnm : n ∈ L := by rw [hnk]; exact List.getElem_mem hkl
    obtain ⟨g, hg⟩ := look_of_mem (fs := S'.fs) (n := n) (by rw [hcut.fs]; exact HL.out.1.mem_iff.1 hnm); have hm := look_mem hg; have hlk := hDr.look_no (s := ⟨n.toArray⟩) (by show n.toArray.size ≤ 9223372036854775807; rw [List.size_toArray]; exact HL.out.2.2.2.2 n hnm); rw [show (⟨n.toArray⟩ : ByteArray).data.toList = n from by simp, hg, show pv (some g) = .pointer (some ⟨g, 0, none⟩) from rfl] at hlk; have hfl : S'.fl n = S.fl n := hcut.todo k n (Nat.le_refl _) hn; have hsf : 0 ≤ (S.fl n).safe ∧ (S.fl n).safe ≤ (S.fl n).bs.length := HS.out (n, g) (by rw [← show S'.fs = S.fs from hcut.fs]; exact hm); have hfile := hDr.file _ hm; have hrow := hDr.row _ hm; rw [show ((n, g) : List UInt8 × Nat).1 = n from rfl, hfl] at hfile hrow; obtain ⟨a, cap, hsl⟩ := row_form hrow; rw [hsl] at hfile hrow; have hcap := row_cap hrow; have c1 : wr.cell? ⟨bd, 1, none⟩ = some (.map (some S'.bm)) := by rw [cell_of_block hDr.disk]; rfl
    have c0 : wr.cell? ⟨g, 0, none⟩ = some (.slice a (S.fl n).bs.length cap) := by rw [cell_of_block hfile]; rfl
    have cs : wr.cell? ⟨g, 1, none⟩ = some (.int .i64 (S.fl n).safe) := by rw [cell_of_block hfile]; rfl
    have hki : (k : Int) < L.length := by omega
    have hbd := keepI_bd (S.fl n) ks k hsf.1 hsf.2; have hkeep : ((keepI (S.fl n) ks k).toNat : Int) = keepI (S.fl n) ks k := by omega
    have HW : Hid (DiskIs wr bd S' ∧ Fr w1 wr (upS S) S' ∧ Cutto (upS S) S' L ks k ∧ wr.ownsRow 0 5 1 (.slice a (S.fl n).bs.length cap) (S.fl n).bs.length (vB (S.fl n).bs) ∧ wr.heap[g]? = some (.cells #[.slice a (S.fl n).bs.length cap, .int .i64 (S.fl n).safe] 116)) := ⟨hDr, hFr, hcut, hrow, hfile⟩
    clear hDr hFr hcut hrow hfile hcw hnk; by_cases hkk : k < ks.length
    · obtain ⟨x, hx⟩ : ∃ x, ks[k]? = some x := ⟨_, List.getElem?_eq_getElem hkk⟩
      have hkx : keepI (S.fl n) ks k = min (max x (S.fl n).safe) (S.fl n).bs.length := by unfold keepI; rw [hx]
      have hIv := HV.out.1.fr HV.out.2 (H2.out.2.1.trans HW.out.2.1); obtain ⟨va', vc', hve, hvc⟩ := hIv; injection hve with hva _ hvc'
      subst hva hvc'; obtain ⟨vb, vo, hvab, hxc⟩ := hvc k x hx; subst hvab; have hkki : (k : Int) < ks.length := by omega
      clear hvc; go_wp2; have HI : Hid (wr.cell? ⟨vb, vo + k, none⟩ = some (.int .i64 x) ∧ wr.cell? ⟨g, 0, none⟩ = some (.slice a (S.fl n).bs.length cap) ∧ wr.cell? ⟨g, 1, none⟩ = some (.int .i64 (S.fl n).safe)) := ⟨hxc, c0, cs⟩
      refine wp_region_held_drew (S := fun w' => w'.heap = wr.heap) (by kernel_rfl) rfl (fun hHeld => ?_); refine wpAnyH_take (i := 0) (v := .slice (some ⟨vb, vo, none⟩) ks.length vc) rfl (by kernel_rfl) (by kernel_rfl) (by kernel_rfl) (fun _ _ _ h => h) (Or.inl ⟨by rfl, fun w9 hSw => ?_⟩) hHeld ?_
      · go_simp
      simp only [List.getElem_toArray, List.getElem_cons_succ, List.getElem_cons_zero, Act.put, List.setIfInBounds_toArray, List.set_cons_zero, List.set_cons_succ]; refine wpAnyH_take (i := 1) (v := .int .i64 (k : Int)) rfl (by kernel_rfl) (by kernel_rfl) (by kernel_rfl) (fun _ _ _ h => h) (Or.inl ⟨by rfl, fun w9 hSw => ?_⟩) hHeld ?_
      · go_simp
      simp only [List.getElem_toArray, List.getElem_cons_succ, List.getElem_cons_zero, Act.put, List.setIfInBounds_toArray, List.set_cons_zero, List.set_cons_succ]; refine wpAnyH_take (i := 2) (v := .pointer (some ⟨vb, vo + k, none⟩)) rfl (by kernel_rfl) (by kernel_rfl) (by kernel_rfl) (fun _ _ _ h => h) (Or.inl ⟨by rfl, fun w9 hSw => ?_⟩) hHeld ?_
      · go_simp
      simp only [List.getElem_toArray, List.getElem_cons_succ, List.getElem_cons_zero, Act.put, List.setIfInBounds_toArray, List.set_cons_zero, List.set_cons_succ]; refine wpAnyH_take (i := 3) (v := .int .i64 x) rfl (by kernel_rfl) (by kernel_rfl) (by kernel_rfl) (fun _ _ _ h => h) (Or.inl ⟨by rfl, fun w9 hSw => ?_⟩) hHeld ?_
      · have hc : w9.cell? ⟨vb, vo + k, none⟩ = some (.int .i64 x) := (World.cell?_of_block (by rw [hSw])).trans HI.out.1
        go_simp
      simp only [List.getElem_toArray, List.getElem_cons_succ, List.getElem_cons_zero, Act.put, List.setIfInBounds_toArray, List.set_cons_zero, List.set_cons_succ]; refine wpAnyH_take (i := 4) (v := .pointer (some ⟨g, 0, none⟩)) rfl (by kernel_rfl) (by kernel_rfl) (by kernel_rfl) (fun _ _ _ h => h) (Or.inl ⟨by rfl, fun w9 hSw => ?_⟩) hHeld ?_
      · go_simp
      simp only [List.getElem_toArray, List.getElem_cons_succ, List.getElem_cons_zero, Act.put, List.setIfInBounds_toArray, List.set_cons_zero, List.set_cons_succ]; refine wpAnyH_take (i := 5) (v := .pointer (some ⟨g, 0, none⟩)) rfl (by kernel_rfl) (by kernel_rfl) (by kernel_rfl) (fun _ _ _ h => h) (Or.inl ⟨by rfl, fun w9 hSw => ?_⟩) hHeld ?_
      · go_simp
      simp only [List.getElem_toArray, List.getElem_cons_succ, List.getElem_cons_zero, Act.put, List.setIfInBounds_toArray, List.set_cons_zero, List.set_cons_succ]; refine wpAnyH_take (i := 6) (v := .pointer (some ⟨g, 1, none⟩)) rfl (by kernel_rfl) (by kernel_rfl) (by kernel_rfl) (fun _ _ _ h => h) (Or.inl ⟨by rfl, fun w9 hSw => ?_⟩) hHeld ?_
      · go_simp
      simp only [List.getElem_toArray, List.getElem_cons_succ, List.getElem_cons_zero, Act.put, List.setIfInBounds_toArray, List.set_cons_zero, List.set_cons_succ]; refine wpAnyH_take (i := 7) (v := .int .i64 (S.fl n).safe) rfl (by kernel_rfl) (by kernel_rfl) (by kernel_rfl) (fun _ _ _ h => h) (Or.inl ⟨by rfl, fun w9 hSw => ?_⟩) hHeld ?_
      · have hc : w9.cell? ⟨g, 1, none⟩ = some (.int .i64 (S.fl n).safe) := (World.cell?_of_block (by rw [hSw])).trans HI.out.2.2
        go_simp
      simp only [List.getElem_toArray, List.getElem_cons_succ, List.getElem_cons_zero, Act.put, List.setIfInBounds_toArray, List.set_cons_zero, List.set_cons_succ]; refine wpAnyH_take (i := 8) (v := .int .i64 (max x (S.fl n).safe)) rfl (by kernel_rfl) (by kernel_rfl) (by kernel_rfl) (fun _ _ _ h => h) (Or.inl ⟨by rfl, fun w9 hSw => ?_⟩) hHeld ?_
      · go_simp
      simp only [List.getElem_toArray, List.getElem_cons_succ, List.getElem_cons_zero, Act.put, List.setIfInBounds_toArray, List.set_cons_zero, List.set_cons_succ]; refine wpAnyH_take (i := 9) (v := .pointer (some ⟨g, 0, none⟩)) rfl (by kernel_rfl) (by kernel_rfl) (by kernel_rfl) (fun _ _ _ h => h) (Or.inl ⟨by rfl, fun w9 hSw => ?_⟩) hHeld ?_
      · go_simp
      simp only [List.getElem_toArray, List.getElem_cons_succ, List.getElem_cons_zero, Act.put, List.setIfInBounds_toArray, List.set_cons_zero, List.set_cons_succ]; refine wpAnyH_take (i := 10) (v := .pointer (some ⟨g, 0, none⟩)) rfl (by kernel_rfl) (by kernel_rfl) (by kernel_rfl) (fun _ _ _ h => h) (Or.inl ⟨by rfl, fun w9 hSw => ?_⟩) hHeld ?_
      · go_simp
      simp only [List.getElem_toArray, List.getElem_cons_succ, List.getElem_cons_zero, Act.put, List.setIfInBounds_toArray, List.set_cons_zero, List.set_cons_succ]; refine wpAnyH_take (i := 11) (v := .pointer (some ⟨g, 0, none⟩)) rfl (by kernel_rfl) (by kernel_rfl) (by kernel_rfl) (fun _ _ _ h => h) (Or.inl ⟨by rfl, fun w9 hSw => ?_⟩) hHeld ?_
      · go_simp
      simp only [List.getElem_toArray, List.getElem_cons_succ, List.getElem_cons_zero, Act.put, List.setIfInBounds_toArray, List.set_cons_zero, List.set_cons_succ]; refine wpAnyH_take (i := 12) (v := .slice a (S.fl n).bs.length cap) rfl (by kernel_rfl) (by kernel_rfl) (by kernel_rfl) (fun _ _ _ h => h) (Or.inl ⟨by rfl, fun w9 hSw => ?_⟩) hHeld ?_
      · have hc : w9.cell? ⟨g, 0, none⟩ = some (.slice a (S.fl n).bs.length cap) := (World.cell?_of_block (by rw [hSw])).trans HI.out.2.1
        go_simp
      simp only [List.getElem_toArray, List.getElem_cons_succ, List.getElem_cons_zero, Act.put, List.setIfInBounds_toArray, List.set_cons_zero, List.set_cons_succ]; refine wpAnyH_take (i := 13) (v := .int .i64 ((S.fl n).bs.length : Int)) rfl (by kernel_rfl) (by kernel_rfl) (by kernel_rfl) (fun _ _ _ h => h) (Or.inl ⟨by rfl, fun w9 hSw => ?_⟩) hHeld ?_
      · go_simp
      simp only [List.getElem_toArray, List.getElem_cons_succ, List.getElem_cons_zero, Act.put, List.setIfInBounds_toArray, List.set_cons_zero, List.set_cons_succ]; refine wpAnyH_take (i := 14) (v := .int .i64 (min (max x (S.fl n).safe) (S.fl n).bs.length)) rfl (by kernel_rfl) (by kernel_rfl) (by kernel_rfl) (fun _ _ _ h => h) (Or.inl ⟨by rfl, fun w9 hSw => ?_⟩) hHeld ?_
      · go_simp
      simp only [List.getElem_toArray, List.getElem_cons_succ, List.getElem_cons_zero, Act.put, List.setIfInBounds_toArray, List.set_cons_zero, List.set_cons_succ]; refine wpAnyH_take (i := 15) (v := .int .i64 (min (max x (S.fl n).safe) (S.fl n).bs.length)) rfl (by kernel_rfl) (by kernel_rfl) (by kernel_rfl) (fun _ _ _ h => h) (Or.inl ⟨by rfl, fun w9 hSw => ?_⟩) hHeld ?_
      · go_simp
      simp only [List.getElem_toArray, List.getElem_cons_succ, List.getElem_cons_zero, Act.put, List.setIfInBounds_toArray, List.set_cons_zero, List.set_cons_succ]; refine wpAnyH_done (by kernel_rfl) ?_ _; have HW2 : Hid (DiskIs wr.drew bd S' ∧ Fr w1 wr.drew (upS S) S' ∧ wr.drew.heap[g]? = some (.cells #[.slice a (S.fl n).bs.length cap, .int .i64 (S.fl n).safe] 116)) := ⟨HW.out.1.kept (fun _ _ => rfl) (Nat.le_refl _), ⟨HW.out.2.1.os, HW.out.2.1.tape, HW.out.2.1.output, HW.out.2.1.size, HW.out.2.1.block, HW.out.2.1.role⟩, HW.out.2.2.2.2⟩
      clear hHeld HI; generalize wr.drew = wr2 at HW2 ⊢; rw [hkx] at hbd; go_wp2_with (first
       | (go_at_call 56
          refine (cut_int HW2.out.2.2 (min (max x (S.fl n).safe) (S.fl n).bs.length) hbd.1 hbd.2 hcap.1 hcap.2.1 hcap.2.2).mono ?_; rintro e w2 ⟨rfl, rfl⟩)
       | go_in)
      rw [← hkx] at hbd; go_roundw
      case rel =>
       have hc := HW2.out.1.cutF hm (by rw [hfl]; exact hsl) (keepI (S.fl n) ks k) hbd.1 (by rw [hfl]; exact hbd.2); rw [hkx] at hc; refine ⟨k + 1, _, by omega, by go_num, ?_, hc.1, HW2.out.2.1.trans hc.2⟩; refine HW.out.2.2.1.step HL.out.2.1 hn _ ⟨?_, ?_⟩ _
       · show List.take _ (S'.fl n).bs = List.take (keepI (S.fl n) ks k).toNat (S.fl n).bs
         rw [hfl, hkx]
       · show _ = keepI (S.fl n) ks k
         rw [hkx]
      case measure => simp [intOf]; omega
    · have hkki : decide ((k : Int) < ks.length) = false := by simp; omega
      have hkx : keepI (S.fl n) ks k = (S.fl n).safe := by unfold keepI; rw [List.getElem?_eq_none (by omega)]
      rw [hkx] at hbd; go_wp2_with (first
       | (go_at_call 56
          refine (cut_int HW.out.2.2.2.2 (S.fl n).safe hbd.1 hbd.2 hcap.1 hcap.2.1 hcap.2.2).mono ?_; rintro e w2 ⟨rfl, rfl⟩)
       | go_in)
      rw [← hkx] at hbd; go_roundw
      case rel =>
       have hc := HW.out.1.cutF hm (by rw [hfl]; exact hsl) (keepI (S.fl n) ks k) hbd.1 (by rw [hfl]; exact hbd.2); rw [hkx] at hc; refine ⟨k + 1, _, by omega, by go_num, ?_, hc.1, HW.out.2.1.trans hc.2⟩; refine HW.out.2.2.1.step HL.out.2.1 hn _ ⟨?_, ?_⟩ _
       · show List.take _ (S'.fl n).bs = List.take (keepI (S.fl n) ks k).toNat (S.fl n).bs
         rw [hfl, hkx]
       · show _ = keepI (S.fl n) ks k
         rw [hkx]
      case measure => simp [intOf]; omega
  · have hki : decide ((k : Int) < L.length) = false := by simp; omega
    go_wp2; go_end0
    obtain rfl : k = L.length := by omega
    refine ⟨rfl, S', ss, H2.out.2.2.1, ?_, hDr, H2.out.2.1.trans hFr⟩; rw [← HL.out.2.2.1, ← HLl.out]; exact hcut
end Go.Proofs.YtconkienlcegaaaGreatDoor
