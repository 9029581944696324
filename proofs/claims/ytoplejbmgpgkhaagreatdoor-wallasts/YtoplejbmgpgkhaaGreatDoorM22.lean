/- PJ, PK, PL, laid into one text. -/
import Derived.Test.YtoplejbmgpgkhaaGreatDoorM9
import Derived.Test.YtoplejbmgpgkhaaGreatDoorRK
import Derived.Test.YtoplejbmgpgkhaaGreatDoorM20
/- disk: the program's Spoil. -/
namespace Go.Proofs.YtoplejbmgpgkhaaGreatDoor
open Go.RowKit Go.Maps Go.Joins
set_option linter.unusedSimpArgs false
set_option linter.unusedVariables false
/-- Bytes of which one is spoilt. -/
def spB (l : List Int) (x y : Int) : List Int := l.set x.toNat (bits .xor .u8 (l.getD x.toNat 0) y)
theorem spB_length (l : List Int) (x y : Int) : (spB l x y).length = l.length := List.length_set
theorem row_set {w : World} {gb rc k : Nat} {cur : Array Value} {bs : List Int} {q : Int} (hcur : w.heap[gb]? = some (.cells cur 5 (0, 0))) (hlc : bs.length ≤ rc) (hcm : rc ≤ maxLen) (hcs : cur.size = rc * 1) (htk : cur.toList.take (bs.length * 1) = vB bs) (hk : k < bs.length) :
    (w.setCell ⟨gb, k, none⟩ (.int .u8 q)).ownsRow 0 5 1 (.slice (some ⟨gb, 0, none⟩) bs.length rc) (bs.set k q).length (vB (bs.set k q)) := by
  refine ⟨by rw [vB_length]; omega, Or.inr ⟨gb, rc, cur.setIfInBounds k (.int .u8 q), by rw [List.length_set], Nat.zero_le _, ?_, by rw [List.length_set]; exact hlc, hcm, by simpa using hcs, ?_⟩⟩
  · rw [block_setCell hcur]
  · rw [List.length_set, Array.toList_setIfInBounds, List.take_set, htk]
    unfold vB
    rw [List.map_set]
set_option maxRecDepth 100000 in
set_option maxHeartbeats 8000000 in
theorem spoil_any {w : World} {bd : Nat} {S : DS} (h : DiskIs w bd S) (s : ByteArray) (hs : s.size ≤ 9223372036854775807) (x y : Int) {g : Nat} (hl : look S.fs s.data.toList = some g) (h0 : 0 ≤ x) (h1 : x < (S.fl s.data.toList).bs.length) :
    Calls Tryz.prog 29 #[.pointer (some ⟨bd, 0, none⟩), .string s, .int .i64 x, .int .u8 y] w fun e w' => e = .returned (.int .i64 0) ∧ ∃ z, DiskIs w' bd (setFl S s.data.toList { S.fl s.data.toList with bs := spB (S.fl s.data.toList).bs x y } z) ∧ Fr w w' S (setFl S s.data.toList { S.fl s.data.toList with bs := spB (S.fl s.data.toList).bs x y } z) := by
  have c1 : w.cell? ⟨bd, 1, none⟩ = some (.map (some S.bm)) := by rw [cell_of_block h.disk]; rfl
  have hlook := h.look_ok hs
  rw [hl] at hlook
  simp only [pv, Option.isSome_some] at hlook
  have hm := look_mem hl
  have hfile := h.file _ hm
  have c0 : w.cell? ⟨g, 0, none⟩ = some (S.fl s.data.toList).sl := by rw [cell_of_block hfile]; rfl
  have hrow := h.row _ hm
  obtain ⟨k, hk⟩ : ∃ k : Nat, x = k := ⟨x.toNat, by omega⟩
  subst hk
  have hkl : k < (S.fl s.data.toList).bs.length := by omega
  obtain ⟨gb, rc, cur, hrf, _, hcur, hlc, hcm, hcs, htk⟩ : ∃ gb rc cur, (S.fl s.data.toList).sl = .slice (some ⟨gb, 0, none⟩) (S.fl s.data.toList).bs.length rc ∧ 0 ≤ gb ∧ w.heap[gb]? = some (.cells cur 5 (0, 0)) ∧ (S.fl s.data.toList).bs.length ≤ rc ∧ rc ≤ maxLen ∧ cur.size = rc * 1 ∧ cur.toList.take ((S.fl s.data.toList).bs.length * 1) = vB (S.fl s.data.toList).bs := by
    rcases hrow.2 with ⟨_, hz⟩ | hz
    · have hz' : (S.fl s.data.toList).bs.length = 0 := hz
      omega
    · exact hz
  obtain ⟨z, hz⟩ : ∃ z, (S.fl s.data.toList).bs[k]? = some z := ⟨_, List.getElem?_eq_getElem hkl⟩
  have cb : w.cell? ⟨gb, k, none⟩ = some (.int .u8 z) := by
    have := hrow.cells (g := gb) (by show (S.fl s.data.toList).sl.ownBlock = _; rw [hrf]; rfl) k (.int .u8 z) (by show (vB (S.fl s.data.toList).bs)[k]? = _; simp [vB, hz])
    rw [Addr.add_lit, Nat.zero_add] at this
    exact this
  have fb : w.frozen? ⟨gb, k, none⟩ = false := unfrozen_of_block hcur k
  rw [hrf] at c0
  have HD : Hid (DiskIs w bd S) := h
  have HRF : Hid ((S.fl s.data.toList).sl = .slice (some ⟨gb, 0, none⟩) (S.fl s.data.toList).bs.length rc ∧ w.heap[gb]? = some (.cells cur 5 (0, 0)) ∧ (S.fl s.data.toList).bs.length ≤ rc ∧ rc ≤ maxLen ∧ cur.size = rc * 1 ∧ cur.toList.take ((S.fl s.data.toList).bs.length * 1) = vB (S.fl s.data.toList).bs) := ⟨hrf, hcur, hlc, hcm, hcs, htk⟩
  have HM : Hid ((s.data.toList, g) ∈ S.fs) := hm
  have HZ : Hid ((S.fl s.data.toList).bs[k]? = some z) := hz
  clear h hrow hrf hcur hlc hcm hcs htk hm hfile hl hz
  generalize hL : (S.fl s.data.toList).bs.length = L at *
  have HL : Hid ((S.fl s.data.toList).bs.length = L) := hL
  clear hL
  go_enter Tryz.func29, Tryz.ntmps29
  go_wp2
  go_ret
  have hm := HM.out
  have hd := HD.out
  obtain ⟨hrf, hcur, hlc, hcm, hcs, htk⟩ := HRF.out
  have hLe := HL.out
  have hgr := hd.rf _ hm
  have hbr := hd.rr _ hm gb (by show (S.fl s.data.toList).sl.ownBlock = _; rw [hrf]; rfl)
  have hne : g ≠ gb := fun e => by
    have hgr' : S.role g = .file s.data.toList := hgr
    rw [e, hbr] at hgr'
    cases hgr'
  have hq : spB (S.fl s.data.toList).bs k y = (S.fl s.data.toList).bs.set k (bits .xor .u8 z y) := by
    unfold spB
    have : (S.fl s.data.toList).bs.getD k 0 = z := by simp [List.getD, HZ.out]
    rw [Int.toNat_natCast, this]
  have hk : ∀ b, b < w.heap.size → b ≠ g → (S.fl s.data.toList).sl.ownBlock ≠ some b → (w.setCell ⟨gb, k, none⟩ (.int .u8 (bits .xor .u8 z y))).heap[b]? = w.heap[b]? := fun b _ _ h3 => Below.heap_setCell _ _ _ _ (fun e => h3 (by rw [hrf]; show some gb = some b; rw [e]))
  have hs4 : w.heap.size ≤ (w.setCell ⟨gb, k, none⟩ (.int .u8 (bits .xor .u8 z y))).heap.size := by simp
  refine ⟨rfl, w.heap.size, ?_, hd.frF hm _ hk hs4 ⟨rfl, rfl, rfl⟩⟩
  refine hd.setF hm _ hk hs4 ?_ ?_ (fun b hb => Or.inl hb)
  · exact (Below.heap_setCell _ _ _ _ hne).trans (hd.file _ hm)
  · rw [hq]
    show (w.setCell ⟨gb, k, none⟩ (.int .u8 (bits .xor .u8 z y))).ownsRow 0 5 1 (S.fl s.data.toList).sl _ _
    rw [hrf, ← hLe]
    rw [← hLe] at hlc htk hkl
    exact row_set hcur hlc hcm hcs htk hkl
set_option maxHeartbeats 4000000 in
theorem spoil_gone {w : World} {bd : Nat} {S : DS} (h : DiskIs w bd S) (s : ByteArray) (hs : s.size ≤ 9223372036854775807) (x y : Int) (hl : look S.fs s.data.toList = none) :
    Calls Tryz.prog 29 #[.pointer (some ⟨bd, 0, none⟩), .string s, .int .i64 x, .int .u8 y] w fun e w' => e = .returned (.int .i64 33) ∧ w' = w := by
  have c1 : w.cell? ⟨bd, 1, none⟩ = some (.map (some S.bm)) := by rw [cell_of_block h.disk]; rfl
  have hlook := h.look_ok hs
  rw [hl] at hlook
  simp only [pv, Option.isSome_none] at hlook
  clear h hl
  go_enter Tryz.func29, Tryz.ntmps29
  go_wp2
  go_ret
  exact ⟨rfl, rfl⟩
set_option maxHeartbeats 4000000 in
theorem spoil_arg {w : World} {bd : Nat} {S : DS} (h : DiskIs w bd S) (s : ByteArray) (hs : s.size ≤ 9223372036854775807) (x y : Int) {g : Nat} (hl : look S.fs s.data.toList = some g) (hx : x < 0 ∨ ((S.fl s.data.toList).bs.length : Int) ≤ x) :
    Calls Tryz.prog 29 #[.pointer (some ⟨bd, 0, none⟩), .string s, .int .i64 x, .int .u8 y] w fun e w' => e = .returned (.int .i64 1) ∧ w' = w := by
  have c1 : w.cell? ⟨bd, 1, none⟩ = some (.map (some S.bm)) := by rw [cell_of_block h.disk]; rfl
  have hlook := h.look_ok hs
  rw [hl] at hlook
  simp only [pv, Option.isSome_some] at hlook
  have hm := look_mem hl
  have hfile := h.file _ hm
  have c0 : w.cell? ⟨g, 0, none⟩ = some (S.fl s.data.toList).sl := by rw [cell_of_block hfile]; rfl
  obtain ⟨ra, rc, hrf⟩ := row_form (h.row _ hm)
  rw [hrf] at c0
  have c0' : w.cell? ⟨g, 0, none⟩ = some (.slice ra (S.fl s.data.toList).bs.length rc) := c0
  clear h hl hm hfile hrf c0
  generalize (S.fl s.data.toList).bs.length = L at *
  by_cases h0 : x < 0
  · go_enter Tryz.func29, Tryz.ntmps29
    go_wp2
    go_ret
    exact ⟨rfl, rfl⟩
  · have h1 : (L : Int) ≤ x := by omega
    go_enter Tryz.func29, Tryz.ntmps29
    go_wp2
    go_ret
    exact ⟨rfl, rfl⟩
end Go.Proofs.YtoplejbmgpgkhaaGreatDoor
/- disk: the document's Spoil. -/
namespace Go.Proofs.YtoplejbmgpgkhaaGreatDoor
open Go.RowKit Go.Maps Go.Joins
set_option linter.unusedSimpArgs false
set_option linter.unusedVariables false
/-- One file of the list is another, with bytes in a block of their own. -/
def setB (R : RS) (k : Nat) (f' : RF) (z : Nat) : RS := { R with A := R.A.set k f', own := fun b => if z ≤ b ∧ f'.bv.ownBlock = some b then 3 else R.own b }
theorem RefIs.setBl {w w' : World} {br : Nat} {R : RS} (h : RefIs w br R) {k g : Nat} (hg : R.lv.ownBlock = some g) (f' : RF) (hk : ∀ b, b < w.heap.size → b ≠ g → w'.heap[b]? = w.heap[b]?) (hs : w.heap.size ≤ w'.heap.size)
    (hl : w'.ownsRow 0 103 3 R.lv (R.A.set k f').length (rfL (R.A.set k f'))) (hr : w'.ownsRow 0 5 1 f'.bv f'.bs.length (vB f'.bs)) (ho : ∀ b, f'.bv.ownBlock = some b → w.heap.size ≤ b) (hn : f'.nm.size ≤ 9223372036854775807) : RefIs w' br (setB R k f' w.heap.size) := by
  have h2 := h.rl g hg
  have hk' : ∀ b, R.own b ≠ 0 → R.own b ≠ 2 → w'.heap[b]? = w.heap[b]? := fun b h0 hb => hk b (h.own_lt h0) (fun e => hb (by rw [e]; exact h2))
  have hmem : ∀ x ∈ R.A.set k f', x = f' ∨ x ∈ R.A := fun x hx => (List.mem_or_eq_of_mem_set hx).symm
  have hold : ∀ b, R.own b ≠ 0 → (setB R k f' w.heap.size).own b = R.own b := fun b hb => by
    have := h.own_lt hb
    exact if_neg (fun hc => by omega)
  refine ⟨?_, ?_, hl, fun b hb => ?_, fun x hx => ?_, fun x hx b hb => ?_, fun x hx => ?_, ?_, fun b hb => ?_, fun b hb => ?_⟩
  · exact (hk' br (by rw [h.rd]; simp) (by rw [h.rd]; simp)).trans h.disk
  · rw [hold br (by rw [h.rd]; simp)]
    exact h.rd
  · have := h.rl b hb
    rw [hold b (by rw [this]; simp)]
    exact this
  · rcases hmem x hx with rfl | hx
    · exact hr
    · exact ownsRow_heap (h.row x hx) (fun b hb => hk' b (by rw [h.rr x hx b hb]; simp) (by rw [h.rr x hx b hb]; simp))
  · rcases hmem x hx with rfl | hx
    · exact if_pos ⟨ho b hb, hb⟩
    · have := h.rr x hx b hb
      rw [hold b (by rw [this]; simp)]
      exact this
  · rcases hmem x hx with rfl | hx
    · exact hn
    · exact h.nm x hx
  · exact ownsRow_heap h.plan (fun b hb => hk' b (by rw [h.rp b hb]; simp) (by rw [h.rp b hb]; simp))
  · have := h.rp b hb
    rw [hold b (by rw [this]; simp)]
    exact this
  · show (if w.heap.size ≤ b ∧ f'.bv.ownBlock = some b then 3 else R.own b) = 0
    rw [if_neg (fun hc => by have := (hr.lt b hc.2).2; omega)]
    exact h.fresh b (by omega)
theorem setB_fr {w w' : World} {br : Nat} {R : RS} (h : RefIs w br R) {k g : Nat} (hg : R.lv.ownBlock = some g) (f' : RF) (hk : ∀ b, b < w.heap.size → b ≠ g → w'.heap[b]? = w.heap[b]?) (hs : w.heap.size ≤ w'.heap.size) (ho : w'.os = w.os ∧ w'.tape = w.tape ∧ w'.output = w.output) : RFr w w' R (setB R k f' w.heap.size) :=
  ⟨ho.1, ho.2.1, ho.2.2, hs, fun b hb hr => hk b hb (fun e => by rw [e, h.rl g hg] at hr; cases hr), fun b hb h0 => by
    show (if w.heap.size ≤ b ∧ f'.bv.ownBlock = some b then 3 else R.own b) = 0
    rw [if_neg (fun hc => by omega)]
    exact h0⟩
set_option maxRecDepth 100000 in
set_option maxHeartbeats 8000000 in
theorem rspoil_ok {w : World} {br : Nat} {R : RS} (h : RefIs w br R) (hl : R.A.length ≤ 100) (s : ByteArray) (x y : Int) {k : Nat} {f : RF} (hi : idxR s R.A = (k : Nat)) (hkf : R.A[k]? = some f) (h0 : 0 ≤ x) (h1 : x < (f.bs.length : Int)) (hle : f.bs.length ≤ 1073741824) :
    Calls Tryz.prog 30 #[.pointer (some ⟨br, 0, none⟩), .string s, .int .i64 x, .int .u8 y] w fun e w' => e = .returned (.int .i64 0) ∧ ∃ bv, RefIs w' br (setB R k { f with bv := bv, bs := spB f.bs x y } w.heap.size) ∧ RFr w w' R (setB R k { f with bv := bv, bs := spB f.bs x y } w.heap.size) := by
  have HR : Hid (RefIs w br R) := h
  obtain ⟨m, hm⟩ : ∃ m : Nat, x = m := ⟨x.toNat, by omega⟩
  subst hm
  have hml : m < f.bs.length := by omega
  have hkl : k < R.A.length := (List.getElem?_eq_some_iff.1 hkf).1
  have hki : (k : Int) < R.A.length := by omega
  obtain ⟨g, cap, hlv, hog, hgl, hlc, hcc⟩ := h.cell hkf
  have c3 : w.cell? ⟨br, 3, none⟩ = some (.slice (some ⟨g, 0, none⟩) R.A.length cap) := by rw [cell_of_block h.disk]; simp [rC, hlv]
  have hc1 := hcc 1 _ rfl
  obtain ⟨ba, bc, hbv⟩ := row_form (h.row f (List.mem_of_getElem? hkf))
  have hc1' : w.cell? ⟨g, k * 3 + 1, none⟩ = some (.slice ba f.bs.length bc) := by rw [← hbv]; exact hc1
  have hby := BytesV.of_own (h.row f (List.mem_of_getElem? hkf))
  rw [hbv] at hby
  have HBY : Hid (BytesV w (.slice ba f.bs.length bc) f.bs) := hby
  have hbr := h.lt
  have HLV : Hid (R.lv.ownBlock = some g) := by show R.lv.ownBlock = some g; rw [hlv]; rfl
  obtain ⟨z, hz⟩ : ∃ z, f.bs[m]? = some z := ⟨_, List.getElem?_eq_getElem hml⟩
  have HZ : Hid (f.bs[m]? = some z) := hz
  have hfz : w.frozen? ⟨g, k * 3 + 1, none⟩ = false := by
    rcases h.list.2 with ⟨h0, _⟩ | ⟨g', cap', cur, h0, _, hc, _⟩
    · rw [h0] at hlv; cases hlv
    · rw [h0] at hlv
      injection hlv with e1 _ _
      injection e1 with e1
      injection e1 with e1 _ _
      subst e1
      exact unfrozen_of_block hc _
  have HKF : Hid (R.A[k]? = some f) := hkf
  have HI : Hid (idxR s R.A = (k : Nat)) := hi
  clear h hlv hcc hc1 hbv hby hz hkf hi hog
  generalize hLn : f.bs.length = Ln at *
  have HLn : Hid (f.bs.length = Ln) := hLn
  clear hLn
  go_enter Tryz.func30, Tryz.ntmps30
  go_wp2_with (first
    | (go_at_call 69
       refine (rat_any HR.out (by omega) s).mono ?_
       rw [HI.out]
       rintro e w1 ⟨rfl, hw1⟩
       subst hw1)
    | (at_builtin
       refine wpList_append_b rfl _ _ rfl w1.heap.size (.slice (some ⟨w1.heap.size, 0, none⟩) 0 0) (.slice ba Ln bc) [] f.bs rfl ⟨rfl, Or.inr ⟨w1.heap.size, 0, #[], by simp, Nat.le_refl _, by have := heap_alloc_new w1 (.cells #[] 5); simpa using this, Nat.le_refl _, by decide, rfl, rfl⟩⟩ rfl (HBY.out.below (by go_grown)) (by simp only [List.length_nil, Nat.zero_add]; rw [HLn.out]; omega) (by simp) ?_
       intro v1 w2 ho hg ha
       rw [List.nil_append] at ho
       have hB : Below w1.heap.size w1 w2 := ((Below.refl _ w1).alloc (Nat.le_refl _) _).grown hg (by simp) (fun jj hjj => by have h9 : w1.heap.size = jj := (by simpa [Value.ownBlock] using hjj); omega)
       obtain ⟨gg, cap2, cur, hv1, hgg, hcur, _⟩ : ∃ gg cap2 cur, v1 = .slice (some ⟨gg, 0, none⟩) f.bs.length cap2 ∧ w1.heap.size ≤ gg ∧ w2.heap[gg]? = some (.cells cur 5 (0, 0)) ∧ True := by
         rcases ho.2 with ⟨_, hz0⟩ | ⟨gg, cap2, cur, e1, e2, e3, _⟩
         · have := HLn.out; omega
         · exact ⟨gg, cap2, cur, e1, e2, e3, trivial⟩
       subst hv1
       have d3 : w2.cell? ⟨br, 3, none⟩ = some (.slice (some ⟨g, 0, none⟩) R.A.length cap) := (hB.cell (p := ⟨br, 3, none⟩) hbr).trans c3
       have dz : w2.cell? ⟨gg, m, none⟩ = some (.int .u8 z) := by
         have := ho.cells (g := gg) rfl m (.int .u8 z) (by simp [vB, HZ.out])
         rw [Addr.add_lit, Nat.zero_add] at this
         exact this
       have fz : w2.frozen? ⟨gg, m, none⟩ = false := unfrozen_of_block hcur m
       have dl : w2.cell? ⟨g, k * 3 + 1, none⟩ = some (.slice ba Ln bc) := (hB.cell (p := ⟨g, k * 3 + 1, none⟩) hgl).trans hc1'
       have fl : w2.frozen? ⟨g, k * 3 + 1, none⟩ = false := by rw [World.frozen?_of_block (hB.block g hgl)]; exact hfz
       have n1 : ¬ br = gg := by omega
       have n2 : ¬ g = gg := by omega
       have n3 : ¬ gg = g := by omega
       have H2 : Hid (w2.ownsRow w1.heap.size 5 1 (.slice (some ⟨gg, 0, none⟩) f.bs.length cap2) f.bs.length (vB f.bs) ∧ Below w1.heap.size w1 w2) := ⟨ho, hB⟩
       clear ho hg ha hB hcur
       rw [HLn.out])
    | go_in)
  go_ret
  have hR := HR.out
  have hB := H2.out.2
  have hLe := HLn.out
  have hq : spB f.bs m y = f.bs.set m (bits .xor .u8 z y) := by
    unfold spB
    have : f.bs.getD m 0 = z := by simp [List.getD, HZ.out]
    rw [Int.toNat_natCast, this]
  have hgo := HLV.out
  have hk : ∀ b, b < w1.heap.size → b ≠ g → ((w2.setCell ⟨gg, m, none⟩ (.int .u8 (bits .xor .u8 z y))).setCell ⟨g, k * 3 + 1, none⟩ (.slice (some ⟨gg, 0, none⟩) Ln cap2)).heap[b]? = w1.heap[b]? := fun b h1 h2 => (Below.heap_setCell _ _ _ _ h2).trans ((Below.heap_setCell _ _ _ _ (fun e => by have e' : b = gg := e; omega)).trans (hB.block b h1))
  have hs : w1.heap.size ≤ ((w2.setCell ⟨gg, m, none⟩ (.int .u8 (bits .xor .u8 z y))).setCell ⟨g, k * 3 + 1, none⟩ (.slice (some ⟨gg, 0, none⟩) Ln cap2)).heap.size := by simpa using hB.size
  have hlA : (w2.setCell ⟨gg, m, none⟩ (.int .u8 (bits .xor .u8 z y))).ownsRow 0 103 3 R.lv R.A.length (rfL R.A) := ownsRow_heap hR.list (fun b hb => by
    have e1 : g = b := by rw [hgo] at hb; exact Option.some.inj hb
    subst e1
    exact (Below.heap_setCell _ _ _ _ n2).trans (hB.block _ hgl))
  have hlB := ownsRow_set hlA hgo (k * 3 + 1) (.slice (some ⟨gg, 0, none⟩) Ln cap2)
  rw [rfL_set1 R.A k f _ (spB f.bs m y) HKF.out] at hlB
  have hrA := ownsRow_set H2.out.1 (g := gg) rfl m (.int .u8 (bits .xor .u8 z y))
  have hrB : ((w2.setCell ⟨gg, m, none⟩ (.int .u8 (bits .xor .u8 z y))).setCell ⟨g, k * 3 + 1, none⟩ (.slice (some ⟨gg, 0, none⟩) Ln cap2)).ownsRow w1.heap.size 5 1 (.slice (some ⟨gg, 0, none⟩) f.bs.length cap2) f.bs.length ((vB f.bs).set m (.int .u8 (bits .xor .u8 z y))) := ownsRow_heap hrA (fun b hb => Below.heap_setCell _ _ _ _ (fun e => by
    have e1 : gg = b := by simpa [Value.ownBlock] using hb
    have e2 : b = g := e
    omega))
  have hrC := ownsRow_le hrB (Nat.zero_le _)
  refine ⟨rfl, .slice (some ⟨gg, 0, none⟩) Ln cap2, hR.setBl hgo _ hk hs ?_ ?_ (fun b hb => ?_) (hR.nm f (List.mem_of_getElem? HKF.out)), setB_fr hR hgo _ hk hs ⟨hB.os, hB.tape, hB.output⟩⟩
  · rw [List.length_set]
    exact hlB
  · show (((w2.setCell ⟨gg, m, none⟩ (.int .u8 (bits .xor .u8 z y))).setCell ⟨g, k * 3 + 1, none⟩ (.slice (some ⟨gg, 0, none⟩) Ln cap2))).ownsRow 0 5 1 (.slice (some ⟨gg, 0, none⟩) Ln cap2) (spB f.bs m y).length (vB (spB f.bs m y))
    rw [hq, List.length_set, ← hLe]
    rw [← hLe] at hrC
    have e : vB (f.bs.set m (bits .xor .u8 z y)) = (vB f.bs).set m (.int .u8 (bits .xor .u8 z y)) := by unfold vB; rw [List.map_set]
    rw [e]
    exact hrC
  · have e1 : gg = b := by simpa [Value.ownBlock] using hb
    omega
set_option maxHeartbeats 4000000 in
theorem rspoil_gone {w : World} {br : Nat} {R : RS} (h : RefIs w br R) (hl : R.A.length ≤ 100) (s : ByteArray) (x y : Int) (hi : idxR s R.A = -1) :
    Calls Tryz.prog 30 #[.pointer (some ⟨br, 0, none⟩), .string s, .int .i64 x, .int .u8 y] w fun e w' => e = .returned (.int .i64 33) ∧ w' = w := by
  have HR : Hid (RefIs w br R) := h
  have HI : Hid (idxR s R.A = -1) := hi
  clear h hi
  go_enter Tryz.func30, Tryz.ntmps30
  go_wp2_with (first
    | (go_at_call 69
       refine (rat_any HR.out (by omega) s).mono ?_
       rw [HI.out]
       rintro e w1 ⟨rfl, hw1⟩
       subst hw1)
    | go_in)
  go_ret
  exact ⟨rfl, rfl⟩
set_option maxHeartbeats 4000000 in
theorem rspoil_arg {w : World} {br : Nat} {R : RS} (h : RefIs w br R) (hl : R.A.length ≤ 100) (s : ByteArray) (x y : Int) {k : Nat} {f : RF} (hi : idxR s R.A = (k : Nat)) (hkf : R.A[k]? = some f) (hx : x < 0 ∨ (f.bs.length : Int) ≤ x) :
    Calls Tryz.prog 30 #[.pointer (some ⟨br, 0, none⟩), .string s, .int .i64 x, .int .u8 y] w fun e w' => e = .returned (.int .i64 1) ∧ w' = w := by
  have HR : Hid (RefIs w br R) := h
  have hkl : k < R.A.length := (List.getElem?_eq_some_iff.1 hkf).1
  have hki : (k : Int) < R.A.length := by omega
  obtain ⟨g, cap, hlv, hog, hgl, hlc, hcc⟩ := h.cell hkf
  have c3 : w.cell? ⟨br, 3, none⟩ = some (.slice (some ⟨g, 0, none⟩) R.A.length cap) := by rw [cell_of_block h.disk]; simp [rC, hlv]
  have hc1 := hcc 1 _ rfl
  obtain ⟨ba, bc, hbv⟩ := row_form (h.row f (List.mem_of_getElem? hkf))
  have hc1' : w.cell? ⟨g, k * 3 + 1, none⟩ = some (.slice ba f.bs.length bc) := by rw [← hbv]; exact hc1
  have HI : Hid (idxR s R.A = (k : Nat)) := hi
  clear h hlv hcc hc1 hbv hkf hi hog
  generalize f.bs.length = Ln at *
  by_cases h0 : x < 0
  · go_enter Tryz.func30, Tryz.ntmps30
    go_wp2_with (first
      | (go_at_call 69
         refine (rat_any HR.out (by omega) s).mono ?_
         rw [HI.out]
         rintro e w1 ⟨rfl, hw1⟩
         subst hw1)
      | go_in)
    go_ret
    exact ⟨rfl, rfl⟩
  · have h1 : (Ln : Int) ≤ x := by omega
    go_enter Tryz.func30, Tryz.ntmps30
    go_wp2_with (first
      | (go_at_call 69
         refine (rat_any HR.out (by omega) s).mono ?_
         rw [HI.out]
         rintro e w1 ⟨rfl, hw1⟩
         subst hw1)
      | go_in)
    go_ret
    exact ⟨rfl, rfl⟩
end Go.Proofs.YtoplejbmgpgkhaaGreatDoor
/- disk: Spoil of both by what it tells. -/
namespace Go.Proofs.YtoplejbmgpgkhaaGreatDoor
open Go.RowKit Go.Maps Go.Joins
set_option linter.unusedSimpArgs false
set_option linter.unusedVariables false
def eSpo (l : List Tf) (s : ByteArray) (x : Int) : Int := match fT l (nb s) with | some p => if x < 0 ∨ (p.2.1.length : Int) ≤ x then 1 else 0 | none => 33
def lSpo (l : List Tf) (s : ByteArray) (x y : Int) : List Tf := match fT l (nb s) with | some p => if x < 0 ∨ (p.2.1.length : Int) ≤ x then l else setT l (nb s) (spB p.2.1 x y) p.2.2 | none => l
theorem spo_wf {l : List Tf} {ro : Int} (hs : Srt l) (h : Wf l ro) (s : ByteArray) (x y : Int) : Wf (lSpo l s x y) ro := by
  unfold lSpo
  split
  · rename_i p hp
    split
    · exact h
    · have h1 := fT_mem hp
      have h7 := h.safe p h1.1
      exact Wf.set hs h h1.1 h1.2 _ _ (by rw [spB_length]; have := h.sum; omega) (by rw [spB_length]; exact h7)
  · exact h
theorem GS.same (S : DS) : GS S S S.down S.steps (absP S) := ⟨rfl, rfl, rfl, rfl, rfl, rfl⟩
theorem HS.same (R : RS) : HS R R R.down R.n (absR R.A) := ⟨rfl, rfl, rfl, rfl, rfl, rfl⟩
theorem g_spoil {w : World} {bd : Nat} {S : DS} {room : Int} (h : DiskIs w bd S) (hb : GB S room) (s : ByteArray) (hs : s.size ≤ 9223372036854775807) (x y : Int) :
    Calls Tryz.prog 29 #[.pointer (some ⟨bd, 0, none⟩), .string s, .int .i64 x, .int .u8 y] w fun e w' => e = .returned (.int .i64 (eSpo (absP S) s x)) ∧ ∃ S', DiskIs w' bd S' ∧ Fr w w' S S' ∧ GS S S' S.down S.steps (lSpo (absP S) s x y) := by
  cases hl : look S.fs (nb s) with
  | none =>
    refine (spoil_gone h s hs x y hl).mono ?_
    rintro e w' ⟨rfl, rfl⟩
    refine ⟨by simp [eSpo, fT_none hl], S, h, Fr.refl _ _, ?_⟩
    rw [show lSpo (absP S) s x y = absP S from by simp [lSpo, fT_none hl]]
    exact GS.same S
  | some g =>
    by_cases hx : x < 0 ∨ ((S.fl (nb s)).bs.length : Int) ≤ x
    · refine (spoil_arg h s hs x y hl hx).mono ?_
      rintro e w' ⟨rfl, rfl⟩
      refine ⟨by simp only [eSpo, fT_some hl, if_pos hx], S, h, Fr.refl _ _, ?_⟩
      rw [show lSpo (absP S) s x y = absP S from by simp only [lSpo, fT_some hl, if_pos hx]]
      exact GS.same S
    · refine (spoil_any h s hs x y hl (by omega) (by show x < ((S.fl (nb s)).bs.length : Int); omega)).mono ?_
      rintro e w' ⟨rfl, z, hD, hF⟩
      refine ⟨by simp only [eSpo, fT_some hl, if_neg hx], _, hD, hF, rfl, rfl, rfl, rfl, rfl, ?_⟩
      rw [absP_set]
      simp only [lSpo, fT_some hl, if_neg hx]
theorem h_spoil {w : World} {br : Nat} {R : RS} {ro : Int} (h : RefIs w br R) (hb : HB R ro) (s : ByteArray) (x y : Int) :
    Calls Tryz.prog 30 #[.pointer (some ⟨br, 0, none⟩), .string s, .int .i64 x, .int .u8 y] w fun e w' => e = .returned (.int .i64 (eSpo (absR R.A) s x)) ∧ ∃ R', RefIs w' br R' ∧ RFr w w' R R' ∧ HS R R' R.down R.n (lSpo (absR R.A) s x y) := by
  have hl := hb.len
  rcases idx_cases s R.A with hi | ⟨k, f, hi, hkf⟩
  · refine (rspoil_gone h (by omega) s x y hi).mono ?_
    rintro e w' ⟨rfl, rfl⟩
    refine ⟨by simp [eSpo, fT_absR_none hi], R, h, RFr.refl _ _, ?_⟩
    rw [show lSpo (absR R.A) s x y = absR R.A from by simp [lSpo, fT_absR_none hi]]
    exact HS.same R
  · obtain ⟨hf1, hf2⟩ := fT_absR_some hi hkf
    by_cases hx : x < 0 ∨ (f.bs.length : Int) ≤ x
    · have hx' : x < 0 ∨ ((tR f).2.1.length : Int) ≤ x := hx
      refine (rspoil_arg h (by omega) s x y hi hkf hx).mono ?_
      rintro e w' ⟨rfl, rfl⟩
      refine ⟨by simp only [eSpo, hf1, if_pos hx'], R, h, RFr.refl _ _, ?_⟩
      rw [show lSpo (absR R.A) s x y = absR R.A from by simp only [lSpo, hf1, if_pos hx']]
      exact HS.same R
    · have hx' : ¬ (x < 0 ∨ ((tR f).2.1.length : Int) ≤ x) := hx
      have hle : f.bs.length ≤ 1073741824 := by
        have h3 := (del_here (p := tR f) rfl (fT_mem hf1).1).2
        have h4 := hb.wf.sum
        have h5 := hb.r0
        simp only [tR] at h3
        omega
      refine (rspoil_ok h (by omega) s x y hi hkf (by omega) (by omega) hle).mono ?_
      rintro e w' ⟨rfl, bv, hD, hF⟩
      refine ⟨by simp only [eSpo, hf1, if_neg hx'], _, hD, hF, rfl, rfl, rfl, rfl, rfl, ?_⟩
      show absR (R.A.set k { f with bv := bv, bs := spB f.bs x y }) = _
      rw [absR_set hb.srt hkf hf2 (f' := { f with bv := bv, bs := spB f.bs x y }) hf2]
      simp only [lSpo, hf1, if_neg hx']
      rfl
theorem Tw.next0 {w w2 : World} {bd br : Nat} {S S' : DS} {R R' : RS} {ro : Int} {l : List Tf} (h : Tw w bd br S R ro) (hD : DiskIs w2 bd S') (hR : RefIs w2 br R') (hap : ∀ b, R'.own b ≠ 0 → S'.role b = .none) (hp : GS S S' S.down S.steps l) (hr : HS R R' R.down R.n l) (hw : Wf l ro) : Tw w2 bd br S' R' ro := by
  have hc := h.gb.cnt
  have hc2 := h.hb.cnt
  refine ⟨hD, ⟨by unfold Cnt; rw [hp.armed, hp.steps]; exact hc, hp.room.trans h.gb.rm, h.gb.r0, by rw [hp.abs]; exact hw⟩, hR, ⟨⟨by rw [hr.plan]; exact h.hb.planR.len, by rw [hr.plan]; exact h.hb.planR.kind, fun hne => by rw [hr.frm, hr.n]; exact h.hb.planR.frm (by rw [← hr.plan]; exact hne)⟩, by unfold Rn; rw [hr.n]; exact hc2, hr.room.trans h.hb.rm, h.gb.r0, by rw [hr.abs]; exact hw, by rw [hr.abs, ← hp.abs]; exact hD.srt⟩, by rw [hp.abs, hr.abs], hap, by rw [hp.down, hr.down]; exact h.down, by rw [hp.steps, hr.n]; exact h.steps, by rw [hp.armed, hr.frm]; exact h.armed, fun x hx => by rw [hp.plan, hr.plan]; exact h.plan x hx⟩
end Go.Proofs.YtoplejbmgpgkhaaGreatDoor
