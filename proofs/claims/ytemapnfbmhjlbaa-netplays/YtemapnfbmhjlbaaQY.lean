/- QF, QG, laid into one text. -/
import Derived.Test.YtemapnfbmhjlbaaQE
/- net: a step of both nets. -/
namespace Go.Proofs.Ytemapnfbmhjlbaa
open Go.RowKit Go.Maps Go.Joins
set_option linter.unusedVariables false
/-- What lay there at the start lies there still, and belongs to neither. -/
structure Lo (w0 w : World) (N : NS) (R : RS) : Prop where
  bel : Below w0.heap.size w0 w
  n0 : ∀ x, x < w0.heap.size → N.own x = 0
  r0 : ∀ x, x < w0.heap.size → R.own x = 0
theorem Lo.below {w0 w w' : World} {N : NS} {R : RS} (h : Lo w0 w N R) (hb : Below w.heap.size w w') : Lo w0 w' N R := ⟨h.bel.trans (hb.mono h.bel.size), h.n0, h.r0⟩
theorem Lo.prog {w0 w w' : World} {N N' : NS} {R : RS} (h : Lo w0 w N R) (f : NFr w w' N N') : Lo w0 w' N' R where
  bel := ⟨f.os.trans h.bel.os, f.tape.trans h.bel.tape, f.output.trans h.bel.output, Nat.le_trans h.bel.size f.size, fun k hk => (f.block k (Nat.lt_of_lt_of_le hk h.bel.size) (h.n0 k hk)).trans (h.bel.block k hk)⟩
  n0 := fun x hx => f.own x (Nat.lt_of_lt_of_le hx h.bel.size) (h.n0 x hx)
  r0 := h.r0
theorem Lo.doc {w0 w w' : World} {N : NS} {R R' : RS} (h : Lo w0 w N R) (f : RFr w w' R R') : Lo w0 w' N R' where
  bel := ⟨f.os.trans h.bel.os, f.tape.trans h.bel.tape, f.output.trans h.bel.output, Nat.le_trans h.bel.size f.size, fun k hk => (f.block k (Nat.lt_of_lt_of_le hk h.bel.size) (h.r0 k hk)).trans (h.bel.block k hk)⟩
  n0 := h.n0
  r0 := fun x hx => f.own x (Nat.lt_of_lt_of_le hx h.bel.size) (h.r0 x hx)
/-- Both nets, told alike. -/
structure Tw (w0 w : World) (b c : Nat) (N : NS) (R : RS) (A : NA) (M : Int) : Prop where
  sd : Sd w b c N R
  lo : Lo w0 w N R
  an : absN N = A
  ar : absR R = A
  ok : AOk A M
  gd : Gd A
/-- The program has stepped, the document not yet. -/
structure Hf (w0 w : World) (b c : Nat) (N : NS) (R : RS) (A B : NA) (M : Int) : Prop where
  sd : Sd w b c N R
  lo : Lo w0 w N R
  an : absN N = B
  ar : absR R = A
  ok : AOk A M
  gd : Gd A
theorem Tw.below {w0 w w' : World} {b c : Nat} {N : NS} {R : RS} {A : NA} {M : Int} (h : Tw w0 w b c N R A M) (hb : Below w.heap.size w w') : Tw w0 w' b c N R A M := ⟨h.sd.below hb, h.lo.below hb, h.an, h.ar, h.ok, h.gd⟩
theorem Hf.below {w0 w w' : World} {b c : Nat} {N : NS} {R : RS} {A B : NA} {M : Int} (h : Hf w0 w b c N R A B M) (hb : Below w.heap.size w w') : Hf w0 w' b c N R A B M := ⟨h.sd.below hb, h.lo.below hb, h.an, h.ar, h.ok, h.gd⟩
theorem Tw.prog {w0 w w' : World} {b c : Nat} {N N' : NS} {R : RS} {A B : NA} {M : Int} (h : Tw w0 w b c N R A M) (h1 : NetIs w' b N') (f : NFr w w' N N') (e : absN N' = B) : Hf w0 w' b c N' R A B M := ⟨h.sd.prog h1 f, h.lo.prog f, e, h.ar, h.ok, h.gd⟩
theorem Hf.doc {w0 w w' : World} {b c : Nat} {N : NS} {R R' : RS} {A B : NA} {M M' : Int} (h : Hf w0 w b c N R A B M) (h1 : RIs w' c R') (f : RFr w w' R R') (e : absR R' = B) (ok : AOk B M') (gd : Gd B) : Tw w0 w' b c N R' B M' := ⟨h.sd.doc h1 f, h.lo.doc f, h.an, e, ok, gd⟩
theorem Tw.nok {w0 w : World} {b c : Nat} {N : NS} {R : RS} {A : NA} {M : Int} (h : Tw w0 w b c N R A M) (hM : M ≤ 4611686018427387904) : NOk N := AOk.nok (by rw [h.an]; exact h.ok) hM
theorem Tw.ris {w0 w : World} {b c : Nat} {N : NS} {R : RS} {A : NA} {M : Int} (h : Tw w0 w b c N R A M) : Rise N.fl := AOk.ris (M := M) (by rw [h.an]; exact h.ok)
theorem Tw.asc {w0 w : World} {b c : Nat} {N : NS} {R : RS} {A : NA} {M : Int} (h : Tw w0 w b c N R A M) : Asc N.tm := by have := h.ok.asc; rw [← h.an] at this; exact this
theorem Hf.rok {w0 w : World} {b c : Nat} {N : NS} {R : RS} {A B : NA} {M : Int} (h : Hf w0 w b c N R A B M) (hM : M ≤ 4611686018427387904) : ROk R := AOk.rok (by rw [h.ar]; exact h.ok) hM
theorem Hf.asc {w0 w : World} {b c : Nat} {N : NS} {R : RS} {A B : NA} {M : Int} (h : Hf w0 w b c N R A B M) : Asc R.tm := by have := h.ok.asc; rw [← h.ar] at this; exact this
theorem Hf.ge {w0 w : World} {b c : Nat} {N : NS} {R : RS} {A B : NA} {M : Int} (h : Hf w0 w b c N R A B M) : ∀ t ∈ R.tm, R.clk ≤ t.at_ := by have := h.gd; rw [← h.ar] at this; exact this
theorem Hf.ris {w0 w : World} {b c : Nat} {N : NS} {R : RS} {A B : NA} {M : Int} (h : Hf w0 w b c N R A B M) : Rise R.fl := fun i j p q hp hq hij => by
  have h2 := h.ok.rise
  rw [← h.ar, show (absR R).fl = R.fl.map pkA from rfl, List.pairwise_iff_getElem] at h2
  obtain ⟨a1, a2⟩ := List.getElem?_eq_some_iff.1 hp
  obtain ⟨b1, b2⟩ := List.getElem?_eq_some_iff.1 hq
  have h3 := h2 i j (by simpa using a1) (by simpa using b1) hij
  rw [List.getElem_map, List.getElem_map, a2, b2] at h3
  exact h3
/-- Set, of the one and then of the other. -/
theorem Tw.setP {w0 w : World} {b c : Nat} {N : NS} {R : RS} {A : NA} {M : Int} (h : Tw w0 w b c N R A M) (hM : M ≤ 4611686018427387904) (x y z : Int) :
    Calls Try.prog 18 #[.pointer (some ⟨b, 0, none⟩), .int .i64 x, .int .i64 y, .int .i64 z] w fun e w' => e = .returned (.int .i64 (nSet A x y z).1) ∧ ∃ N', Hf w0 w' b c N' R A (nSet A x y z).2 M ∧ NFr w w' N N' := by
  refine (set_any h.sd.net (h.nok hM) h.asc x y z).mono ?_
  rw [h.an]
  rintro e w' ⟨h1, N', h2, h3, h4⟩
  exact ⟨h1, N', h.prog h2 h3 h4, h3⟩
theorem Hf.setD {w0 w : World} {b c : Nat} {N : NS} {R : RS} {A : NA} {M : Int} {x y z : Int} (h : Hf w0 w b c N R A (nSet A x y z).2 M) (hM : M ≤ 4611686018427387904) :
    Calls Try.prog 19 #[.pointer (some ⟨c, 0, none⟩), .int .i64 x, .int .i64 y, .int .i64 z] w fun e w' => e = .returned (.int .i64 (nSet A x y z).1) ∧ ∃ R', Tw w0 w' b c N R' (nSet A x y z).2 M ∧ RFr w w' R R' := by
  refine (rset_any h.sd.ref (h.rok hM) h.asc x y z).mono ?_
  rw [h.ar]
  rintro e w' ⟨h1, R', h2, h3, h4⟩
  exact ⟨h1, R', h.doc h2 h3 h4 (h.ok.set x y z) (h.gd.set x y z), h3⟩
theorem Tw.sendP {w0 w : World} {b c : Nat} {N : NS} {R : RS} {A : NA} {M : Int} (h : Tw w0 w b c N R A M) (hM : M ≤ 4611686018427387904) (x y : Int) (v : Value) (bs : List Int) (hv : BytesV w v bs) :
    Calls Try.prog 11 #[.pointer (some ⟨b, 0, none⟩), .int .i64 x, .int .i64 y, v] w fun e w' => e = .returned (.int .i64 (nSend A x y bs).1) ∧ ∃ N', Hf w0 w' b c N' R A (nSend A x y bs).2 M ∧ NFr w w' N N' := by
  refine (send_any h.sd.net (h.nok hM) x y v bs hv).mono ?_
  rw [h.an]
  rintro e w' ⟨h1, N', h2, h3, h4⟩
  exact ⟨h1, N', h.prog h2 h3 h4, h3⟩
theorem Hf.sendD {w0 w : World} {b c : Nat} {N : NS} {R : RS} {A : NA} {M : Int} {x y : Int} {bs : List Int} (h : Hf w0 w b c N R A (nSend A x y bs).2 M) (hM : M ≤ 4611686018427387904) (v : Value) (hv : BytesV w v bs) (h63 : bs.length ≤ 9223372036854775807) :
    Calls Try.prog 12 #[.pointer (some ⟨c, 0, none⟩), .int .i64 x, .int .i64 y, v] w fun e w' => e = .returned (.int .i64 (nSend A x y bs).1) ∧ ∃ R', Tw w0 w' b c N R' (nSend A x y bs).2 (M + 1) ∧ RFr w w' R R' := by
  refine (rSend_any h.sd.ref (h.rok hM) x y v bs hv h63).mono ?_
  rw [h.ar]
  rintro e w' ⟨h1, R', h2, h3, h4⟩
  exact ⟨h1, R', h.doc h2 h3 h4 (h.ok.send x y bs) (h.gd.send x y bs), h3⟩
theorem Tw.copyP {w0 w : World} {b c : Nat} {N : NS} {R : RS} {A : NA} {M : Int} (h : Tw w0 w b c N R A M) (hM : M ≤ 4611686018427387904) (x : Int) :
    Calls Try.prog 16 #[.pointer (some ⟨b, 0, none⟩), .int .i64 x] w fun e w' => e = .returned (.int .i64 (nCopy A x).1) ∧ ∃ N', Hf w0 w' b c N' R A (nCopy A x).2 M ∧ NFr w w' N N' := by
  refine (copy_any h.sd.net (h.nok hM) h.ris x).mono ?_
  rw [h.an]
  rintro e w' ⟨h1, N', h2, h3, h4⟩
  exact ⟨h1, N', h.prog h2 h3 h4, h3⟩
theorem Hf.copyD {w0 w : World} {b c : Nat} {N : NS} {R : RS} {A : NA} {M : Int} {x : Int} (h : Hf w0 w b c N R A (nCopy A x).2 M) (hM : M ≤ 4611686018427387904) :
    Calls Try.prog 17 #[.pointer (some ⟨c, 0, none⟩), .int .i64 x] w fun e w' => e = .returned (.int .i64 (nCopy A x).1) ∧ ∃ R', Tw w0 w' b c N R' (nCopy A x).2 (M + 1) ∧ RFr w w' R R' := by
  refine (rCopy_any h.sd.ref (h.rok hM) h.ris x).mono ?_
  rw [h.ar]
  rintro e w' ⟨h1, R', h2, h3, h4⟩
  exact ⟨h1, R', h.doc h2 h3 h4 (h.ok.copy x) (h.gd.copy x), h3⟩
theorem Tw.clearP {w0 w : World} {b c : Nat} {N : NS} {R : RS} {A : NA} {M : Int} (h : Tw w0 w b c N R A M) (hM : M ≤ 4611686018427387904) (x : Int) :
    Calls Try.prog 20 #[.pointer (some ⟨b, 0, none⟩), .int .i64 x] w fun e w' => e = .returned (.tuple #[]) ∧ ∃ N', Hf w0 w' b c N' R A (nClear A x) M ∧ NFr w w' N N' := by
  refine (clear_any h.sd.net (h.nok hM) x).mono ?_
  rw [h.an]
  rintro e w' ⟨h1, N', h2, h3, h4⟩
  exact ⟨h1, N', h.prog h2 h3 h4, h3⟩
theorem Hf.clearD {w0 w : World} {b c : Nat} {N : NS} {R : RS} {A : NA} {M : Int} {x : Int} (h : Hf w0 w b c N R A (nClear A x) M) (hM : M ≤ 4611686018427387904) :
    Calls Try.prog 21 #[.pointer (some ⟨c, 0, none⟩), .int .i64 x] w fun e w' => e = .returned (.tuple #[]) ∧ ∃ R', Tw w0 w' b c N R' (nClear A x) M ∧ RFr w w' R R' := by
  refine (rclear_any h.sd.ref (h.rok hM) x).mono ?_
  rw [h.ar]
  rintro e w' ⟨h1, R', h2, h3, h4⟩
  exact ⟨h1, R', h.doc h2 h3 h4 (h.ok.clear x) (h.gd.clear x), h3⟩
end Go.Proofs.Ytemapnfbmhjlbaa
/- net: Take and Tick of both nets. -/
namespace Go.Proofs.Ytemapnfbmhjlbaa
open Go.RowKit Go.Maps Go.Joins
set_option linter.unusedVariables false
theorem Tw.takeP {w0 w : World} {b c : Nat} {N : NS} {R : RS} {A : NA} {M : Int} (h : Tw w0 w b c N R A M) (hM : M ≤ 4611686018427387904) (x : Int) :
    Calls Try.prog 13 #[.pointer (some ⟨b, 0, none⟩), .int .i64 x] w fun e w' => ∃ q : PK, e = .returned (.tuple #[.agg #[.int .i64 q.id, .int .i64 q.fr, .int .i64 q.to, q.dv], .int .i64 (nTake A x).1]) ∧ pkA q = (nTake A x).2.1 ∧ BytesV w' q.dv q.bs ∧ (∀ y, dBlock q.dv q.bs.length = some y → R.own y = 0) ∧ ∃ N', Hf w0 w' b c N' R A (nTake A x).2.2 M ∧ NFr w w' N N' := by
  refine (take_any h.sd.net (h.nok hM) h.ris x).mono ?_
  rw [h.an]
  rintro e w' ⟨q, N', h1, h2, h3, h4, h5, h6, h7⟩
  exact ⟨q, h1, h2, h6, fun y hy => by
    obtain ⟨p, hp, hd⟩ := (h7 y hy).2
    exact h.sd.d2 p hp y hd, N', h.prog h3 h4 h5, h4⟩
theorem Hf.takeD {w0 w : World} {b c : Nat} {N : NS} {R : RS} {A : NA} {M : Int} {x : Int} (h : Hf w0 w b c N R A (nTake A x).2.2 M) (hM : M ≤ 4611686018427387904) :
    Calls Try.prog 14 #[.pointer (some ⟨c, 0, none⟩), .int .i64 x] w fun e w' => ∃ q : PK, e = .returned (.tuple #[.agg #[.int .i64 q.id, .int .i64 q.fr, .int .i64 q.to, q.dv], .int .i64 (nTake A x).1]) ∧ pkA q = (nTake A x).2.1 ∧ BytesV w' q.dv q.bs ∧ ∃ R', Tw w0 w' b c N R' (nTake A x).2.2 M ∧ RFr w w' R R' := by
  refine (rtake_any h.sd.ref (h.rok hM) h.ris x).mono ?_
  rw [h.ar]
  rintro e w' ⟨q, R', h1, h2, h3, h4, h5, h6, h7⟩
  exact ⟨q, h1, h2, h6, R', h.doc h3 h4 h5 (h.ok.take x) (h.gd.take x), h4⟩
theorem RFr.bytes {w w' : World} {R R' : RS} (f : RFr w w' R R') {v : Value} {bs : List Int} (hv : BytesV w v bs) (h0 : ∀ y, dBlock v bs.length = some y → R.own y = 0) : BytesV w' v bs := hv.kept (fun y hy => f.block y (dBlock_lt hv hy) (h0 y hy))
theorem Tw.tickP {w0 w : World} {b c : Nat} {N : NS} {R : RS} {A : NA} {M : Int} (h : Tw w0 w b c N R A M) (hM : M ≤ 4611686018427387904) (x : Int) :
    Calls Try.prog 23 #[.pointer (some ⟨b, 0, none⟩), .int .i64 x] w fun e w' => ∃ v, e = .returned v ∧ w'.ownsRow w.heap.size 63 3 v (nTick A x).1.length (tmL (nTick A x).1) ∧ (∀ g, v.ownBlock = some g → R.own g = 0) ∧ ∃ N', Hf w0 w' b c N' R A (nTick A x).2 M ∧ NFr w w' N N' := by
  refine (tick_any h.sd.net (h.nok hM) x).mono ?_
  rw [h.an]
  rintro e w' ⟨v, N', h1, h2, h3, h4, h5, h6⟩
  exact ⟨v, h1, h2, fun g hg => h.sd.ref.fresh g (h2.lt g hg).1, N', h.prog h3 h4 h5, h4⟩
theorem Hf.tickD {w0 w : World} {b c : Nat} {N : NS} {R : RS} {A : NA} {M : Int} {x : Int} (h : Hf w0 w b c N R A (nTick A x).2 M) (hM : M ≤ 4611686018427387904) :
    Calls Try.prog 24 #[.pointer (some ⟨c, 0, none⟩), .int .i64 x] w fun e w' => ∃ v, e = .returned v ∧ w'.ownsRow w.heap.size 92 3 v (nTick A x).1.length (tmL (nTick A x).1) ∧ ∃ R', Tw w0 w' b c N R' (nTick A x).2 M ∧ RFr w w' R R' := by
  refine (rtick_any h.sd.ref (h.rok hM) h.ge x).mono ?_
  rw [h.ar]
  rintro e w' ⟨v, R', h1, h2, h3, h4, h5, h6⟩
  exact ⟨v, h1, h2, R', h.doc h3 h4 h5 (h.ok.tick x) (h.gd.tick h.ok x), h4⟩
theorem RFr.rowk {w w' : World} {R R' : RS} (f : RFr w w' R R') {base size n : Nat} {e : TypeId} {v : Value} {xs : List Value} (hr : w.ownsRow base e size v n xs) (h0 : ∀ g, v.ownBlock = some g → R.own g = 0) : w'.ownsRow base e size v n xs := ownsRow_heap hr (fun x hx => f.block x (hr.lt x hx).2 (h0 x hx))
end Go.Proofs.Ytemapnfbmhjlbaa
