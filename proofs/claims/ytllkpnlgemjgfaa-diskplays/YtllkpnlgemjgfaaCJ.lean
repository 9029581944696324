/- disk: DiskSafe, what holds on its way. -/
import Derived.Test.YtllkpnlgemjgfaaCI
namespace Go.Proofs.Ytllkpnlgemjgfaa
open Go.RowKit Go.Maps Go.Joins
set_option linter.unusedSimpArgs false
set_option linter.unusedVariables false
def safeB : ByteArray := { data := #[115, 97, 102, 101] }
theorem safe_name : nameB safeB = true := by decide +kernel
theorem safe_size : safeB.size ≤ 9223372036854775807 := by decide +kernel
/-- The program's disk, on the way. -/
structure Dv (w w' : World) (bd : Nat) (S : DS) (ro : Int) : Prop where
  disk : DiskIs w' bd S
  pb : PB S ro
  bel : Below w.heap.size w w'
  off : ∀ b, b < w.heap.size → S.role b = .none
theorem below_of {w w1 w2 : World} {ok : Nat → Prop} (h : Below w.heap.size w w1) (hos : w2.os = w1.os) (ht : w2.tape = w1.tape) (ho : w2.output = w1.output) (hs : w1.heap.size ≤ w2.heap.size) (hb : ∀ b, b < w1.heap.size → ok b → w2.heap[b]? = w1.heap[b]?) (hk : ∀ b, b < w.heap.size → ok b) : Below w.heap.size w w2 :=
  ⟨hos.trans h.os, ht.trans h.tape, ho.trans h.output, Nat.le_trans h.size hs, fun b hlt => (hb b (Nat.lt_of_lt_of_le hlt h.size) (hk b hlt)).trans (h.block b hlt)⟩
theorem Dv.next {w w1 w2 : World} {bd : Nat} {S S' : DS} {ro : Int} {ok : Bool} {l : List Tf} (h : Dv w w1 bd S ro) (hD : DiskIs w2 bd S') (hF : Fr w1 w2 S S') (hp : PS S S' ok l) (hw : Wf l ro) (hst : S.steps < 4611686018427387903) : Dv w w2 bd S' ro := by
  have hc := h.pb.cnt
  unfold Cnt at hc
  refine ⟨hD, ⟨hp.down, hp.plan, ?_, hp.room.trans h.pb.rm, h.pb.r0, by rw [hp.abs]; exact hw⟩, below_of h.bel hF.os hF.tape hF.output hF.size hF.block h.off, fun b hb => hF.role b (Nat.lt_of_lt_of_le hb h.bel.size) (h.off b hb)⟩
  unfold Cnt
  rw [hp.armed, hp.steps]
  split <;> omega
theorem wf_nil {ro : Int} (h : 0 ≤ ro) : Wf [] ro := ⟨by simp, by simpa [sumT] using h, by simp⟩
theorem Dv.new {w w1 : World} {bd : Nat} {S : DS} (hD : DiskIs w1 bd S) (hb : Below w.heap.size w w1) (hS : S = { room := 1073741824, bm := w.heap.size, down := false, steps := 0, armed := 0, pl := none, plan := fun _ => 0, fs := [], fl := S.fl, role := S.role }) (ho : ∀ b, b < w.heap.size → S.role b = .none) : Dv w w1 bd S 1073741824 ∧ absP S = [] ∧ S.steps = 0 := by
  have ha : absP S = [] := by rw [hS]; rfl
  refine ⟨⟨hD, ⟨by rw [hS], by rw [hS]; intro; rfl, ?_, by rw [hS], by omega, by rw [ha]; exact wf_nil (by omega)⟩, hb, ho⟩, ha, by rw [hS]⟩
  rw [hS]
  unfold Cnt
  show (0 : Int) ≤ 0 ∧ (0 : Int) ≤ 0 ∧ (0 : Int) < 4611686018427387904
  omega
/-- The document's disk, beside it. -/
theorem RB.next {R R' : RS} {ro : Int} {ok : Bool} {l : List Tf} (h : RB R ro) (hr : RPS R R' ok l) (hw : Wf l ro) (hsrt : Srt l) (hn : R.n < 4611686018427387903) : RB R' ro := by
  have hc2 := h.cnt
  unfold Rn at hc2
  refine ⟨hr.down, hr.plan, ?_, hr.room.trans h.rm, h.r0, by rw [hr.abs]; exact hw, by rw [hr.abs]; exact hsrt⟩
  unfold Rn
  rw [hr.n]
  split <;> omega
theorem app_new (data : List Int) (hl : data.length ≤ 1000) : lApp [] 1073741824 safeB data = [(nb safeB, data, 0)] ∧ eApp [] 1073741824 safeB data = 0 := by
  have h1 : ¬ (fT [] (nb safeB) = none ∧ 16 ≤ ([] : List Tf).length) := by simp
  have h2 : ¬ (1073741824 : Int) < (sumT [] : Int) + data.length := by simp [sumT]; omega
  have h3 : fT [] (nb safeB) = none := rfl
  constructor
  · unfold lApp
    rw [safe_name, if_pos rfl, if_neg h1, if_neg h2]
    rfl
  · unfold eApp
    rw [safe_name, if_pos rfl, if_neg h1, if_neg h2]
theorem fT_one (n : List UInt8) (a : List Int) (b : Int) : fT [(n, a, b)] n = some (n, a, b) := by simp [fT]
theorem sync_one (data : List Int) : lSync [(nb safeB, data, 0)] safeB = [(nb safeB, data, (data.length : Int))] ∧ eFind [(nb safeB, data, 0)] safeB = 0 := by
  constructor
  · unfold lSync
    rw [safe_name, if_pos rfl, fT_one]
    simp [setT]
  · unfold eFind
    rw [safe_name, if_pos rfl, fT_one]
    rfl
theorem srt_one (x : Tf) : Srt [x] := List.pairwise_singleton _ _
theorem wf_one (n : List UInt8) (data : List Int) (b : Int) (hl : data.length ≤ 1000) (hb : 0 ≤ b ∧ b ≤ data.length) : Wf [(n, data, b)] 1073741824 :=
  ⟨by simp, by simp [sumT]; omega, fun p hp => by simp at hp; subst hp; exact hb⟩
/-- Both disks, on the way. -/
structure Sv (w wr : World) (bd br : Nat) (S : DS) (R : RS) (data : List Int) (k : Nat) : Prop where
  two : Two wr bd br S R 1073741824
  bel : Below w.heap.size w wr
  off : ∀ b, b < w.heap.size → S.role b = .none ∧ R.own b = 0
  has : fT (absP S) (nb safeB) = some (nb safeB, data, (data.length : Int))
  st : S.steps ≤ 2 + k
  rn : R.n ≤ 2 + k
theorem Sv.grow {w wr wr' : World} {bd br : Nat} {S : DS} {R : RS} {data : List Int} {k : Nat} (h : Sv w wr bd br S R data k) (hb : Below wr.heap.size wr wr') : Sv w wr' bd br S R data k :=
  ⟨h.two.below hb, h.bel.trans (hb.mono h.bel.size), h.off, h.has, h.st, h.rn⟩
theorem Sv.more {w wr : World} {bd br : Nat} {S : DS} {R : RS} {data : List Int} {k : Nat} (h : Sv w wr bd br S R data k) : Sv w wr bd br S R data (k + 1) :=
  ⟨h.two, h.bel, h.off, h.has, by have := h.st; omega, by have := h.rn; omega⟩
theorem Sv.next {w wr w2 : World} {bd br : Nat} {S S' : DS} {R R' : RS} {data : List Int} {k : Nat} {kd x : Int} {s t : ByteArray} {bs : List Int} (h : Sv w wr bd br S R data k) (hT : Two w2 bd br S' R' 1073741824) (hF : F2 wr w2 S R S' R') (ha : absP S' = lOp (absP S) 1073741824 kd x s t bs) (hs : s ≠ safeB) (ht : t ≠ safeB) (h1 : S'.steps ≤ S.steps + 1) (h2 : R'.n ≤ R.n + 1) : Sv w w2 bd br S' R' data (k + 1) := by
  have e1 : nb safeB ≠ nb s := fun e => hs (nm_eq.2 e.symm)
  have e2 : nb safeB ≠ nb t := fun e => ht (nm_eq.2 e.symm)
  refine ⟨hT, below_of (ok := fun b => S.role b = .none ∧ R.own b = 0) h.bel hF.os hF.tape hF.output hF.size (fun b hb hk => hF.block b hb hk.1 hk.2) h.off, fun b hb => hF.off b (Nat.lt_of_lt_of_le hb h.bel.size) (h.off b hb).1 (h.off b hb).2, ?_, by have := h.st; omega, by have := h.rn; omega⟩
  rw [ha, lOp_f e1 e2]
  exact h.has
/-- The start of the loop. -/
theorem Sv.start {w w4 w6 : World} {bd br : Nat} {S : DS} {R0 R : RS} {data : List Int} (hl : data.length ≤ 1000) (hd : Dv w w4 bd S 1073741824) (hD : DiskIs w6 bd S) (hR : RefIs w6 br R) (hap : ∀ b, R.own b ≠ 0 → S.role b = .none) (hF : F2 w4 w6 S R0 S R) (h0 : ∀ b, b < w.heap.size → R0.own b = 0) (hb : RB R 1073741824) (ha : absP S = [(nb safeB, data, (data.length : Int))]) (hr : absR R.A = [(nb safeB, data, (data.length : Int))]) (h1 : S.steps ≤ 2) (h2 : R.n ≤ 2) : Sv w w6 bd br S R data 0 :=
  ⟨⟨hD, hd.pb, hR, hb, ha.trans hr.symm, hap⟩, below_of (ok := fun b => S.role b = .none ∧ R0.own b = 0) hd.bel hF.os hF.tape hF.output hF.size (fun b hb hk => hF.block b hb hk.1 hk.2) (fun b hb => ⟨hd.off b hb, h0 b hb⟩),
   fun b hb => hF.off b (Nat.lt_of_lt_of_le hb hd.bel.size) (hd.off b hb) (h0 b hb), by rw [ha]; exact fT_one _ _ _, by omega, by omega⟩
theorem fT_set_here {n : List UInt8} (b : List Int) (s : Int) : ∀ {l : List Tf} {p : Tf}, fT l n = some p → fT (setT l n b s) n = some (n, b, s)
  | [], _, h => by cases h
  | q :: l, p, h => by
    unfold fT setT at *
    rw [List.map_cons]
    by_cases e : q.1 = n
    · rw [if_pos e]
      simp
    · rw [if_neg e]
      have e' : (q.1 == n) = false := by simpa using e
      rw [List.find?_cons, e'] at h ⊢
      exact fT_set_here b s h
/-- What more adds. -/
theorem app_more {l : List Tf} {ro : Int} {data more : List Int} (h : fT l (nb safeB) = some (nb safeB, data, (data.length : Int))) : ∃ ext, (ext = more ∨ ext = []) ∧ fT (lApp l ro safeB more) (nb safeB) = some (nb safeB, data ++ ext, (data.length : Int)) := by
  have h1 : ¬ (fT l (nb safeB) = none ∧ 16 ≤ l.length) := by rw [h]; simp
  unfold lApp
  rw [safe_name, if_pos rfl, if_neg h1]
  split
  · exact ⟨[], Or.inr rfl, by rw [h, List.append_nil]⟩
  · rw [h]
    refine ⟨more, Or.inl rfl, ?_⟩
    exact fT_set_here _ _ h
/-- Bytes as the walk meets them. -/
def Cs (w : World) (v : Value) (xs : List Int) : Prop := (v = .slice none 0 0 ∧ xs = []) ∨ ∃ g o cap, v = .slice (some ⟨g, o, none⟩) xs.length cap ∧ ∀ i, i < xs.length → w.cell? ⟨g, o + i, none⟩ = some (.int .u8 (xs.getD i 0))
theorem Cs.of {w : World} {v : Value} {xs : List Int} (hv : w.ownsRow 0 5 1 v xs.length (vB xs)) : Cs w v xs := by
  rcases hv.2 with ⟨rfl, h0⟩ | ⟨g, cap, cur, rfl, _⟩
  · exact Or.inl ⟨rfl, List.eq_nil_of_length_eq_zero h0⟩
  · refine Or.inr ⟨g, 0, cap, rfl, fun i hi => ?_⟩
    have := hv.cells (g := g) rfl i (.int .u8 (xs.getD i 0)) (by simp [vB, List.getElem?_eq_getElem hi])
    rw [Addr.add_lit] at this
    exact this
theorem same_b {w : World} {a b : Value} {xs : List Int} (ha : Cs w a xs) (hb : Cs w b xs) : Calls Try.prog 20 #[a, b] w fun e w' => e = .returned (.bool true) ∧ w' = w := by
  have key : ∀ v, Cs w v xs → (∃ a l c, v = .slice a l c) ∧ (convert 31 9 v).run Try.prog w = .ok (.string (strOfNums xs)) w := fun v hv => by
    rcases hv with ⟨rfl, rfl⟩ | ⟨g, o, cap, rfl, hc⟩
    · exact ⟨⟨_, _, _, rfl⟩, run_convert_bytes_nil w 31 5 Try.underlying31 Try.underlying5 0 0 9 Try.underlying9⟩
    · exact ⟨⟨_, _, _, rfl⟩, run_convert_bytes_arg w 31 5 Try.underlying31 Try.underlying5 g o xs.length cap xs rfl (fun i hi => hc i hi) 9 Try.underlying9⟩
  obtain ⟨⟨_, _, _, rfl⟩, h1⟩ := key a ha
  obtain ⟨⟨_, _, _, rfl⟩, h2⟩ := key b hb
  clear ha hb key
  go_enter Try.func20, Try.ntmps20
  go_wp2
  go_ret
  exact ⟨by simp, rfl⟩
theorem keep_bounds {f : FileC} {ks : List Int} {j : Nat} (h : 0 ≤ f.safe ∧ f.safe ≤ f.bs.length) : f.safe ≤ keepI f ks j ∧ keepI f ks j ≤ f.bs.length := by
  unfold keepI
  split <;> omega
/-- Boot leaves of the safe file at the least what is safe. -/
theorem boot_safe {w : World} {bd : Nat} {S : DS} {ro : Int} {bs : List Int} {sf : Int} (h : DiskIs w bd S) (hb : PB S ro) (hf : fT (absP S) (nb safeB) = some (nb safeB, bs, sf)) (v : Value) (ks : List Int) (hv : IntsV w v ks) (hkl : ks.length ≤ 9223372036854775807) (hvr : ∀ b, dBlock v ks = some b → S.role b = .none) :
    Calls Try.prog 18 #[.pointer (some ⟨bd, 0, none⟩), v] w fun e w' => e = .returned (.tuple #[]) ∧ ∃ (S' : DS) (m : Int) (g : Nat), DiskIs w' bd S' ∧ Fr w w' S S' ∧ Cnt S' ∧ findV S' [safeB] = some g ∧ ((stepS S' [safeB]).fl safeB.data.toList).bs = bs.take m.toNat ∧ sf ≤ m ∧ m ≤ bs.length ∧ 0 ≤ sf := by
  have hmem : ∀ p ∈ S.fs, (p.1, (S.fl p.1).bs, (S.fl p.1).safe) ∈ absP S := fun p hp => List.mem_map.2 ⟨p, hp, rfl⟩
  have hlen : S.fs.length ≤ 1000 := by
    have := hb.wf.len
    unfold absP at this
    rw [List.length_map] at this
    omega
  refine (boot_any h hlen (fun p hp => hb.wf.safe _ (hmem p hp)) v ks hv hkl hvr).mono ?_
  rintro e w' ⟨rfl, S', ss, hp, hc, hD, hF⟩
  refine ⟨rfl, S', ?_⟩
  obtain ⟨g, hg⟩ : ∃ g, look S.fs (nb safeB) = some g := by
    cases hl : look S.fs (nb safeB) with
    | none => rw [fT_none hl] at hf; cases hf
    | some g => exact ⟨g, rfl⟩
  have hfs := fT_some hg
  rw [hf] at hfs
  injection hfs with hfs
  injection hfs with _ hfs
  injection hfs with hfb hfsf
  have hm := look_mem hg
  have hs2 := hb.wf.safe _ (hmem _ hm)
  have hL : nb safeB ∈ ss.mergeSort (fun x y => decide (x ≤ y)) := List.mem_mergeSort.2 (hp.symm.subset (List.mem_map.2 ⟨_, hm, rfl⟩))
  obtain ⟨j, hj, hje⟩ := List.mem_iff_getElem.1 hL
  have hd := hc.done j (nb safeB) (by rw [List.length_mergeSort] at hj; exact hj) (by rw [List.getElem?_eq_getElem hj, hje])
  have hkb : (S.fl (nb safeB)).safe ≤ keepI (S.fl (nb safeB)) ks j ∧ keepI (S.fl (nb safeB)) ks j ≤ (S.fl (nb safeB)).bs.length := keep_bounds hs2
  have h9 : S'.down = false := hc.down
  have h8 : ∀ x, S'.plan x = 0 := fun x => by rw [hc.plan]; rfl
  have hok : okN [safeB] = true := by decide +kernel
  have h7 : stepE S' [safeB] = 0 := by simp [stepE, h9, hok, stK, h8, faultE]
  refine ⟨keepI (S.fl (nb safeB)) ks j, g, hD, hF, ?_, ?_, ?_, by rw [hfsf]; exact hkb.1, by rw [hfb]; exact hkb.2, by rw [hfsf]; exact hs2.1⟩
  · have := hb.cnt
    unfold Cnt at this ⊢
    rw [hc.armed, hc.steps]
    exact this
  · rw [findV1 h7, hc.fs]
    exact hg
  · have : (stepS S' [safeB]).fl = S'.fl := (stepS_fields S' [safeB]).2.2.2.1
    rw [this, hd.1, hfb]
    rfl
end Go.Proofs.Ytllkpnlgemjgfaa
