/- QJ, QL, laid into one text. -/
import Derived.Test.YtemapnfbmhjlbaaQH
import Derived.Test.YtemapnfbmhjlbaaNU
import Derived.Test.YtemapnfbmhjlbaaQI
/- net: NetPlays, what the walk carries. -/
namespace Go.Proofs.Ytemapnfbmhjlbaa
open Go.RowKit Go.Maps Go.Joins
set_option linter.unusedVariables false
theorem Tw.up {w0 w : World} {b c : Nat} {N : NS} {R : RS} {A : NA} {M M' : Int} (h : Tw w0 w b c N R A M) (hM : M ≤ M') : Tw w0 w b c N R A M' := ⟨h.sd, h.lo, h.an, h.ar, h.ok.mono hM, h.gd⟩
theorem Hf.same {w0 w : World} {b c : Nat} {N : NS} {R : RS} {A : NA} {M : Int} (h : Hf w0 w b c N R A A M) : Tw w0 w b c N R A M := ⟨h.sd, h.lo, h.an, h.ar, h.ok, h.gd⟩
theorem Tw.nowP {w0 w : World} {b c : Nat} {N : NS} {R : RS} {A : NA} {M : Int} (h : Tw w0 w b c N R A M) :
    Calls Try.prog 26 #[.pointer (some ⟨b, 0, none⟩)] w fun e w' => e = .returned (.int .i64 A.clk) ∧ ∃ N', Tw w0 w' b c N' R A M ∧ NFr w w' N N' := by
  refine (Now_any h.sd.net).mono ?_
  rintro e w' ⟨rfl, g, h1, f⟩
  exact ⟨by rw [← h.an]; rfl, _, (h.prog h1 f (B := A) (by rw [← h.an]; rfl)).same, f⟩
/-- What a call of Flight gave. -/
structure Fo (w : World) (N : NS) (A : NA) (va : Option Addr) (vc : Nat) (l : List PK) : Prop where
  row : w.ownsRow 0 35 4 (.slice va l.length vc) l.length (pkL l)
  data : ∀ p ∈ l, BytesV w p.dv p.bs
  eq : l.map pkA = A.fl
  own : ∀ g, (Value.slice va l.length vc).ownBlock = some g → N.own g = 0
  dat : ∀ p ∈ l, ∀ x, dBlock p.dv p.bs.length = some x → N.own x = 0
theorem Fo.nfr {w w' : World} {N N' : NS} {A : NA} {va : Option Addr} {vc : Nat} {l : List PK} (h : Fo w N A va vc l) (f : NFr w w' N N') : Fo w' N' A va vc l where
  row := (f.rowk h.row h.own).1
  data := fun p hp => (h.data p hp).kept (fun x hx => f.block x (dBlock_lt (h.data p hp) hx) (h.dat p hp x hx))
  eq := h.eq
  own := (f.rowk h.row h.own).2
  dat := fun p hp x hx => f.own x (dBlock_lt (h.data p hp) hx) (h.dat p hp x hx)
theorem Fo.below {w w' : World} {N : NS} {A : NA} {va : Option Addr} {vc : Nat} {l : List PK} (h : Fo w N A va vc l) (hb : Below w.heap.size w w') : Fo w' N A va vc l := h.nfr (NFr.below hb)
theorem Tw.flightP {w0 w : World} {b c : Nat} {N : NS} {R : RS} {A : NA} {M : Int} (h : Tw w0 w b c N R A M) (hM : M ≤ 4611686018427387904) :
    Calls Try.prog 25 #[.pointer (some ⟨b, 0, none⟩)] w fun e w' => ∃ va vc l, e = .returned (.slice va l.length vc) ∧ Fo w' N A va vc l ∧ Tw w0 w' b c N R A M := by
  refine (flight_src h.sd.net (h.nok hM)).mono ?_
  rintro e w' ⟨v, l, rfl, ho, he, hb, hs⟩
  obtain ⟨va, vc, rfl⟩ := row_form ho.row
  refine ⟨va, vc, l, rfl, ⟨rowz ho.row, ho.data, by rw [he, ← h.an]; rfl, fun g hg => h.sd.net.fresh g (ho.row.lt g hg).1, fun p hp x hx => ?_⟩, h.below hb⟩
  rcases hs p hp x hx with ⟨q, hq, hy⟩ | hy
  · exact h.sd.net.rd q hq x hy
  · exact h.sd.net.fresh x hy
/-- The box of the call that comes. -/
structure Bx (w : World) (N : NS) (R : RS) (x : Nat) (cs : Array Value) : Prop where
  at_ : w.heap[x]? = some (.cells cs 32)
  n0 : N.own x = 0
  r0 : R.own x = 0
theorem Bx.nfr {w w' : World} {N N' : NS} {R : RS} {x : Nat} {cs : Array Value} (h : Bx w N R x cs) (f : NFr w w' N N') : Bx w' N' R x cs := ⟨(f.block x (heap_lt h.at_) h.n0).trans h.at_, f.own x (heap_lt h.at_) h.n0, h.r0⟩
theorem Bx.rfr {w w' : World} {N : NS} {R R' : RS} {x : Nat} {cs : Array Value} (h : Bx w N R x cs) (f : RFr w w' R R') : Bx w' N R' x cs := ⟨(f.block x (heap_lt h.at_) h.r0).trans h.at_, h.n0, f.own x (heap_lt h.at_) h.r0⟩
/-- Bytes that came in. -/
theorem Tw.bytes {w0 w : World} {b c : Nat} {N : NS} {R : RS} {A : NA} {M : Int} (h : Tw w0 w b c N R A M) {v : Value} {bs : List Int} (hv : BytesV w0 v bs) : BytesV w v bs := hv.below h.lo.bel
theorem Hf.bytes {w0 w : World} {b c : Nat} {N : NS} {R : RS} {A B : NA} {M : Int} (h : Hf w0 w b c N R A B M) {v : Value} {bs : List Int} (hv : BytesV w0 v bs) : BytesV w v bs := hv.below h.lo.bel
/-- The box as it was laid. -/
theorem Tw.boxed {w0 w : World} {b c : Nat} {N : NS} {R : RS} {A : NA} {M : Int} (h : Tw w0 w b c N R A M) (cs : Array Value) : Tw w0 (w.alloc (.cells cs 32)) b c N R A M ∧ Bx (w.alloc (.cells cs 32)) N R w.heap.size cs :=
  ⟨h.below ((Below.refl _ w).alloc (Nat.le_refl _) _), heap_alloc_new _ _, h.sd.net.fresh _ (Nat.le_refl _), h.sd.ref.fresh _ (Nat.le_refl _)⟩
theorem Fo.rlen {w0 w w' : World} {b c : Nat} {N N' : NS} {R : RS} {A : NA} {M : Int} {va : Option Addr} {vc : Nat} {l : List PK} (h : Fo w N A va vc l) (t : Tw w0 w' b c N' R A M) : R.fl.length = l.length := by
  have h1 := congrArg List.length h.eq
  have h2 := congrArg (fun a => a.fl.length) t.ar
  simp only [List.length_map, absR] at h1 h2
  omega
theorem Tw.rtm {w0 w : World} {b c : Nat} {N : NS} {R : RS} {A : NA} {M : Int} (h : Tw w0 w b c N R A M) : TmR w R.tv A.tm := by
  have := TmR.of h.sd.ref.tm
  rwa [show R.tm = A.tm by rw [← h.ar]; rfl] at this
end Go.Proofs.Ytemapnfbmhjlbaa
/- net: NetPlays, rows of packets of both sides. -/
namespace Go.Proofs.Ytemapnfbmhjlbaa
open Go.RowKit Go.Maps Go.Joins
set_option linter.unusedVariables false
theorem bel_kept {n : Nat} {w w' : World} (hb : Below n w w') {p : Addr} {v : Value} (hp : w.cell? p = some v) (hn : n = w.heap.size := by rfl) : w'.cell? p = some v := by
  subst hn
  exact (hb.cell (cell_lt hp)).trans hp
theorem PkV.ofE {w : World} {base : Nat} {e : TypeId} {a : Option Addr} {n c : Nat} {l : List PK} (h : w.ownsRow base e 4 (.slice a n c) l.length (pkL l)) : PkV w a l where
  at_ := fun i p hp => by
    rcases h.2 with ⟨e, h0⟩ | ⟨g, cap, cur, e, _, hg, _, _, _, ht⟩
    · rw [List.eq_nil_of_length_eq_zero h0] at hp; simp at hp
    · injection e with e1 e2 e3
      have hc : ∀ j u, (pkC p)[j]? = some u → w.cell? ⟨g, 0 + i * 4 + j, none⟩ = some u := fun j u hu => by
        have hj : j < 4 := by
          have := (List.getElem?_eq_some_iff.1 hu).1
          simpa [pkC] using this
        have := h.cells (g := g) (by rw [e1]; rfl) (i * 4 + j) u (by rw [pkL_at l i p hp j hj]; exact hu)
        rw [Addr.add_lit, ← Nat.add_assoc] at this
        exact this
      exact ⟨g, 0, e1, hc 0 _ rfl, hc 1 _ rfl, hc 2 _ rfl, hc 3 _ rfl⟩
theorem box4 {w : World} {g : Nat} {a b c d : Value} {t : TypeId} (h : w.heap[g]? = some (.cells #[a, b, c, d] t)) : w.cell? ⟨g, 0, none⟩ = some a ∧ w.cell? ⟨g, 1, none⟩ = some b ∧ w.cell? ⟨g, 2, none⟩ = some c ∧ w.cell? ⟨g, 3, none⟩ = some d := by
  refine ⟨?_, ?_, ?_, ?_⟩ <;> rw [cell_of_block h] <;> rfl
theorem Bx.cell {w : World} {N : NS} {R : RS} {x : Nat} {cs : Array Value} (h : Bx w N R x cs) (i : Nat) (v : Value) (hv : cs[i]? = some v) : w.cell? ⟨x, i, none⟩ = some v := (cell_of_block h.at_ i).trans hv
/-- The k-th of both. -/
theorem Fo.both {w0 w : World} {b c : Nat} {N : NS} {R : RS} {A : NA} {M : Int} {va : Option Addr} {vc : Nat} {l : List PK} (h : Fo w N A va vc l) (t : Tw w0 w b c N R A M) (i : Nat) (hi : i < l.length) :
    ∃ (p q : PK) (g o ra rg ro : _) (rn rc : Nat), va = some ⟨g, o, none⟩ ∧ R.fv = .slice ra rn rc ∧ rn = l.length ∧ ra = some ⟨rg, ro, none⟩ ∧ p.id = q.id ∧ p.fr = q.fr ∧ p.to = q.to ∧ BytesV w p.dv p.bs ∧ BytesV w q.dv p.bs
      ∧ (w.cell? ⟨g, o + i * 4, none⟩ = some (.int .i64 p.id) ∧ w.cell? ⟨g, o + i * 4 + 1, none⟩ = some (.int .i64 p.fr) ∧ w.cell? ⟨g, o + i * 4 + 2, none⟩ = some (.int .i64 p.to) ∧ w.cell? ⟨g, o + i * 4 + 3, none⟩ = some p.dv)
      ∧ (w.cell? ⟨rg, ro + i * 4, none⟩ = some (.int .i64 p.id) ∧ w.cell? ⟨rg, ro + i * 4 + 1, none⟩ = some (.int .i64 p.fr) ∧ w.cell? ⟨rg, ro + i * 4 + 2, none⟩ = some (.int .i64 p.to) ∧ w.cell? ⟨rg, ro + i * 4 + 3, none⟩ = some q.dv) := by
  have hl := h.rlen t
  obtain ⟨p, hp⟩ : ∃ p, l[i]? = some p := ⟨_, List.getElem?_eq_getElem hi⟩
  obtain ⟨q, hq⟩ : ∃ q, R.fl[i]? = some q := ⟨_, List.getElem?_eq_getElem (by omega)⟩
  have he : pkA p = pkA q := by
    have h1 : (l.map pkA)[i]? = some (pkA p) := by rw [List.getElem?_map, hp]; rfl
    have h2 : (R.fl.map pkA)[i]? = some (pkA q) := by rw [List.getElem?_map, hq]; rfl
    have h3 : R.fl.map pkA = A.fl := by rw [← t.ar]; rfl
    rw [h.eq, ← h3, h2] at h1
    exact (Option.some.inj h1).symm
  obtain ⟨ra, rc, hrv⟩ := row_form t.sd.ref.fl
  have hrow := t.sd.ref.fl
  rw [hrv] at hrow
  obtain ⟨g, o, e1, c⟩ := (PkV.ofE h.row).at_ i p hp
  obtain ⟨rg, ro, e2, d⟩ := (PkV.ofE hrow).at_ i q hq
  simp only [pkA, Prod.mk.injEq] at he
  have hb := t.sd.ref.data q (List.mem_of_getElem? hq)
  rw [← he.2.2.2] at hb
  rw [← he.1, ← he.2.1, ← he.2.2.1] at d
  exact ⟨p, q, g, o, ra, rg, ro, R.fl.length, rc, e1, hrv, hl, e2, he.1, he.2.1, he.2.2.1, h.data p (List.mem_of_getElem? hp), hb, c, d⟩
theorem tick_len (A : NA) (most : Int) : (nTick A most).1.length ≤ A.tm.length := by
  unfold nTick
  split
  · simp
  · split
    · simp
    · exact List.length_take_le' _ _
end Go.Proofs.Ytemapnfbmhjlbaa
