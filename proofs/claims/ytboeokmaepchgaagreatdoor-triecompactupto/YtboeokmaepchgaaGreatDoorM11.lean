/- TE, TG, laid into one text. -/
import Derived.Test.YtboeokmaepchgaaGreatDoorM10
/- trie: Compact, the program's and the reference's. -/
namespace Go.Proofs.YtboeokmaepchgaaGreatDoor
open Go.RowKit Go.Maps Go.Joins Go.Shelf
set_option linter.unusedSimpArgs false
set_option linter.unusedVariables false
/-- Bytes that came in. -/
structure SrcN (w : World) (a : Option Addr) (cap : Nat) (bs : List Int) : Prop where
  is : BytesV w (.slice a bs.length cap) bs
  cp : bs.length ≤ cap
  by' : Byt bs
  le : bs.length ≤ 15000000
theorem SrcN.below {w w' : World} {a : Option Addr} {cap : Nat} {bs : List Int} (h : SrcN w a cap bs) (hb : Below w.heap.size w w') : SrcN w' a cap bs := ⟨h.is.below hb, h.cp, h.by', h.le⟩
def nibOk (ns : List Int) : Bool := ns.all fun c => decide (c < 16)
theorem nibOk_nib {ns : List Int} (h : nibOk ns = true) (hb : Byt ns) : Nib ns := fun c hc => ⟨(hb c hc).1, by have := List.all_eq_true.1 h c hc; simpa using this⟩
theorem nibOk_not {ns : List Int} {k : Nat} {c : Int} (h : ns[k]? = some c) (hc : 15 < c) : nibOk ns = false := by
  cases e : nibOk ns with
  | false => rfl
  | true =>
    have := List.all_eq_true.1 e c (List.mem_of_getElem? h)
    simp at this
    omega
theorem nibOk_of {ns : List Int} (h : ∀ c ∈ ns, c ≤ 15) : nibOk ns = true := List.all_eq_true.2 fun c hc => by have := h c hc; simp; omega
def cpE (ns : List Int) : Int := if nibOk ns then 0 else 1
def cpR (ns : List Int) (b : Bool) : List Int := if nibOk ns then cpB ns b else []
/-- What Compact tells. -/
def CpQ (w w' : World) (ns : List Int) (b : Bool) (e : Ending) : Prop := ∃ v, e = .returned (.tuple #[v, .int .i64 (cpE ns)]) ∧ w'.ownsRow w.heap.size 5 1 v (cpR ns b).length (vB (cpR ns b))
theorem cpq_no {w : World} {ns : List Int} {b : Bool} (h : nibOk ns = false) : CpQ w w ns b (.returned (.tuple #[.slice none 0 0, .int .i64 1])) := by
  unfold CpQ cpE cpR
  rw [h]
  exact ⟨_, rfl, World.ownsRow_nil _ _ _ _⟩
theorem cpq_yes {w w' : World} {ns : List Int} {b : Bool} {v : Value} (h : nibOk ns = true) (ho : w'.ownsRow w.heap.size 5 1 v (cpB ns b).length (vB (cpB ns b))) : CpQ w w' ns b (.returned (.tuple #[v, .int .i64 0])) := by
  unfold CpQ cpE cpR
  rw [h]
  exact ⟨_, rfl, ho⟩
theorem BytesV.drop' {w : World} {g o N cap l : Nat} {bs : List Int} (h : BytesV w (.slice (some ⟨g, o, none⟩) N cap) bs) (hl : l ≤ bs.length) (hc : bs.length ≤ cap) : BytesV w (.slice (some ⟨g, if cap = l then o else o + l, none⟩) (N - l) (cap - l)) (bs.drop l) := by
  have hn := h.len
  subst hn
  refine Or.inr ⟨_, _, by rw [List.length_drop], fun j u hu => ?_⟩
  have hj : j < bs.length - l := by
    have := (List.getElem?_eq_some_iff.1 hu).1
    rw [vB_length, List.length_drop] at this
    exact this
  rw [if_neg (by omega)]
  rw [vB_drop, List.getElem?_drop] at hu
  obtain ⟨x, hx⟩ : ∃ x, bs[l + j]? = some x := ⟨_, List.getElem?_eq_getElem (by omega)⟩
  obtain ⟨g', o', e, kc⟩ := h.at hx
  cases e
  rw [show (vB bs)[l + j]? = some (.int .u8 x) from by simp [vB, hx]] at hu
  cases hu
  rw [Addr.add_lit, Nat.add_assoc]
  exact kc
set_option maxRecDepth 100000 in
set_option maxHeartbeats 8000000 in
/-- trie.Compact -/
theorem Compact_any {w : World} {a : Option Addr} {cap : Nat} {ns : List Int} (b : Bool) (h : SrcN w a cap ns) :
    Calls Tryz.prog 5 #[.slice a ns.length cap, .bool b] w fun e w' => Below w.heap.size w w' ∧ CpQ w w' ns b e := by
  have HS : Hid (SrcN w a cap ns) := h
  obtain ⟨N, hN⟩ : ∃ N, N = ns.length := ⟨_, rfl⟩
  have HV : Hid (BytesV w (.slice a N cap) ns) := by show BytesV _ _ _; rw [hN]; exact h.is
  have hl := h.le
  rw [← hN] at hl ⊢
  have HN : Hid (N = ns.length) := hN
  clear h hN
  go_enter Tryz.func5, Tryz.ntmps5
  go_wp2_with fail
  go_loopw [10] (fun i wr => ∃ (j : Nat), j ≤ N ∧ i = .int .i64 j ∧ wr = w ∧ Hid (∀ c ∈ ns.take j, c ≤ 15)) (fun i _ => N - (intOf i).toNat)
  case atStart => exact ⟨0, Nat.zero_le _, rfl, rfl, fun c hc => by simp at hc⟩
  case round =>
    obtain ⟨j, hj, rfl, hwr, HI⟩ := hrel
    subst hwr
    by_cases hjk : j < N
    · have hki : (j : Int) < N := by omega
      obtain ⟨y, hy⟩ : ∃ y, ns[j]? = some y := ⟨_, List.getElem?_eq_getElem (by have := HN.out; omega)⟩
      obtain ⟨g, o, rfl, kc⟩ := HV.out.at hy
      by_cases hb : 15 < y
      · have HE : Hid (nibOk ns = false) := nibOk_not hy hb
        clear hy
        go_wp2
        go_ret2
        exact ⟨Below.refl _ _, cpq_no HE.out⟩
      · have HE : Hid (∀ c ∈ ns.take (j + 1), c ≤ 15) := fun c hc => by
          rw [List.take_add_one, hy] at hc
          rcases List.mem_append.1 hc with hc | hc
          · exact HI.out c hc
          · obtain rfl := List.mem_singleton.1 hc
            omega
        clear hy
        go_wp2
        go_roundw
        case rel => exact ⟨j + 1, by omega, by go_num, by trivial, HE.out⟩
        case measure => simp [intOf]; omega
    · have hki : ¬ (j : Int) < N := by omega
      have hok : nibOk ns = true := nibOk_of (by have := HI.out; rw [List.take_of_length_le (by have := HN.out; omega)] at this; exact this)
      have HC : Hid _ := compact_any b HS.out.is (nibOk_nib hok HS.out.by') (by have := HN.out; omega)
      rw [← HN.out] at HC
      have HK : Hid (nibOk ns = true) := hok
      clear hok
      go_wp2_with (first
        | (refine Calls.mono HC.out ?_
           rintro e w2 ⟨v2, rfl, ho2, hb2⟩
           obtain ⟨a2, c2, rfl⟩ := row_form ho2))
      go_ret2
      exact ⟨hb2, cpq_yes HK.out ho2⟩
end Go.Proofs.YtboeokmaepchgaaGreatDoor
/- trie: Expand, the program's and the reference's. -/
namespace Go.Proofs.YtboeokmaepchgaaGreatDoor
open Go.RowKit Go.Maps Go.Joins Go.Shelf
set_option linter.unusedSimpArgs false
set_option linter.unusedVariables false
/-- What Expand tells: no path, or its nibbles and whether it is a leaf's. -/
def exB (bs : List Int) : Option (List Int × Bool) :=
  match bs with
  | [] => none
  | c :: r => if 63 < c then none else if c / 16 % 2 = 1 then some (c % 16 :: hvB r, decide (2 ≤ c / 16)) else if c % 16 = 0 then some (hvB r, decide (2 ≤ c / 16)) else none
def ExQ (w w' : World) (bs : List Int) (e : Ending) : Prop :=
  match exB bs with
  | none => e = .returned (.tuple #[.slice none 0 0, .bool false, .int .i64 1])
  | some (ns, l) => ∃ v, e = .returned (.tuple #[v, .bool l, .int .i64 0]) ∧ BytesV w' v ns
theorem and2 (y : Int) (h0 : 0 ≤ y) (h1 : y < 4) : bits .and .u8 y 2 = (if 2 ≤ y then 2 else 0) := by
  obtain ⟨y, rfl⟩ := Int.eq_ofNat_of_zero_le h0
  have : ∀ y : Fin 4, bits .and .u8 ((y.val : Nat) : Int) 2 = (if 2 ≤ ((y.val : Nat) : Int) then 2 else 0) := by decide +kernel
  exact this ⟨y, by omega⟩
theorem and1 (y : Int) (h0 : 0 ≤ y) (h1 : y < 4) : bits .and .u8 y 1 = y % 2 := by
  obtain ⟨y, rfl⟩ := Int.eq_ofNat_of_zero_le h0
  have : ∀ y : Fin 4, bits .and .u8 ((y.val : Nat) : Int) 1 = ((y.val : Nat) : Int) % 2 := by decide +kernel
  exact this ⟨y, by omega⟩
theorem and16 (y : Int) (h0 : 0 ≤ y) (h1 : y < 256) : bits .and .u8 y 16 = (if y / 16 % 2 = 1 then 16 else 0) := by
  obtain ⟨y, rfl⟩ := Int.eq_ofNat_of_zero_le h0
  have : ∀ y : Fin 256, bits .and .u8 ((y.val : Nat) : Int) 16 = (if ((y.val : Nat) : Int) / 16 % 2 = 1 then 16 else 0) := by decide +kernel
  exact this ⟨y, by omega⟩
theorem and32 (y : Int) (h0 : 0 ≤ y) (h1 : y < 64) : bits .and .u8 y 32 = (if 2 ≤ y / 16 then 32 else 0) := by
  obtain ⟨y, rfl⟩ := Int.eq_ofNat_of_zero_le h0
  have : ∀ y : Fin 64, bits .and .u8 ((y.val : Nat) : Int) 32 = (if 2 ≤ ((y.val : Nat) : Int) / 16 then 32 else 0) := by decide +kernel
  exact this ⟨y, by omega⟩
set_option maxRecDepth 100000 in
set_option maxHeartbeats 8000000 in
/-- trie.Expand -/
theorem Expand_any {w : World} {a : Option Addr} {cap : Nat} {bs : List Int} (h : SrcN w a cap bs) :
    Calls Tryz.prog 7 #[.slice a bs.length cap] w fun e w' => Below w.heap.size w w' ∧ ExQ w w' bs e := by
  have HC : Hid _ := halves_any h.is h.by' (by have := h.le; omega)
  have HY : Hid (Byt bs) := h.by'
  go_enter Tryz.func7, Tryz.ntmps7
  go_wp2_with fail
  refine Calls.mono HC.out ?_
  rintro e w1 ⟨v1, rfl, ho1, hb1⟩
  obtain ⟨a1, c1, rfl, hq1, hq2, hq3, hq4⟩ := row_cap ho1
  have HV : Hid (BytesV w1 (.slice a1 (hvB bs).length c1) (hvB bs)) := BytesV.of_own ho1
  have HB : Hid (Below w.heap.size w w1) := hb1
  clear ho1 hb1 HC
  cases bs with
  | nil =>
    have e0 : (hvB ([] : List Int)).length = 0 := rfl
    rw [e0]
    clear hq1 hq2 hq3 hq4
    go_wp2
    go_ret3
    exact ⟨HB.out, rfl⟩
  | cons c r =>
    have hcb := HY.out c (List.mem_cons_self ..)
    have hlen : (hvB (c :: r)).length = 2 * r.length + 2 := by rw [hvB_length]; simp only [List.length_cons]; omega
    obtain ⟨n, hn⟩ : ∃ n, n = (hvB (c :: r)).length := ⟨_, rfl⟩
    obtain ⟨g, o, e, kc0⟩ := HV.out.at (k := 0) (x := c / 16) rfl
    cases e
    obtain ⟨g', o', e, kc1⟩ := HV.out.at (k := 1) (x := c % 16) rfl
    cases e
    rw [Nat.add_zero] at kc0
    rw [← hn] at HV hq1 ⊢
    have hn2 : 2 ≤ n := by omega
    have HN : Hid (n = (hvB (c :: r)).length) := hn
    have hni : ¬ (n : Int) = 0 := by omega
    have hnb : ((n : Int) == 0) = false := by simp; omega
    have hn1 : (1 : Int) < n := by omega
    have hn0 : (0 : Int) < n := by omega
    clear hlen hq4 hq3 hn
    by_cases h3 : 3 < c / 16
    · have HE : Hid (exB (c :: r) = none) := by show _ = _; unfold exB; simp only; rw [if_pos (by omega)]
      go_wp2
      go_ret3
      refine ⟨HB.out, ?_⟩
      unfold ExQ
      rw [HE.out]
      exact rfl
    · have ha2 := and2 (c / 16) (by omega) (by omega)
      have ha1 := and1 (c / 16) (by omega) (by omega)
      have hs1 := slL2 w1 g o n c1 1 1 rfl (by omega)
      have hs2 := slL2 w1 g o n c1 2 2 rfl (by omega)
      obtain ⟨o1, ho1⟩ : ∃ o1, o1 = (if c1 = 1 then o else o + 1) := ⟨_, rfl⟩
      obtain ⟨o2, ho2⟩ : ∃ o2, o2 = (if c1 = 2 then o else o + 2) := ⟨_, rfl⟩
      rw [← ho1] at hs1
      rw [← ho2] at hs2
      have HV1 : Hid (BytesV w1 (.slice (some ⟨g, o1, none⟩) (n - 1) (c1 - 1)) (c % 16 :: hvB r)) := by show BytesV _ _ _; rw [ho1]; exact HV.out.drop' (l := 1) (by have := HN.out; omega) (by have := HN.out; omega)
      have HV2 : Hid (BytesV w1 (.slice (some ⟨g, o2, none⟩) (n - 2) (c1 - 2)) (hvB r)) := by show BytesV _ _ _; rw [ho2]; exact HV.out.drop' (l := 2) (by have := HN.out; omega) (by have := HN.out; omega)
      obtain ⟨n1, hn1'⟩ : ∃ x, x = n - 1 := ⟨_, rfl⟩
      obtain ⟨n2, hn2'⟩ : ∃ x, x = n - 2 := ⟨_, rfl⟩
      obtain ⟨d1, hd1⟩ : ∃ x, x = c1 - 1 := ⟨_, rfl⟩
      obtain ⟨d2, hd2⟩ : ∃ x, x = c1 - 2 := ⟨_, rfl⟩
      rw [← hn1', ← hd1] at hs1 HV1
      rw [← hn2', ← hd2] at hs2 HV2
      clear ho1 ho2 hn1' hn2' hd1 hd2 HV HN
      have h63 : ¬ 63 < c := by omega
      obtain ⟨q, hq⟩ : ∃ q, q = c / 16 := ⟨_, rfl⟩
      obtain ⟨t, ht⟩ : ∃ t, t = c % 16 := ⟨_, rfl⟩
      have HE : Hid (exB (c :: r) = if q % 2 = 1 then some (t :: hvB r, decide (2 ≤ q)) else if t = 0 then some (hvB r, decide (2 ≤ q)) else none) := by show _ = _; unfold exB; simp only; rw [if_neg h63, hq, ht]
      rw [← hq] at kc0 ha1 ha2 h3
      rw [← ht] at kc1 HV1
      have hq0 : 0 ≤ q := by omega
      have HQ : Hid (0 ≤ q ∧ q ≤ 3) := ⟨by omega, by omega⟩
      clear hq ht h63 hcb
      obtain ⟨l2, hl2⟩ : ∃ l2 : Int, l2 = (if 2 ≤ q then 2 else 0) := ⟨_, rfl⟩
      rw [← hl2] at ha2
      by_cases hod : q % 2 = 1
      · rw [hod] at ha1
        rw [if_pos hod] at HE
        by_cases hlf : 2 ≤ q
        · rw [if_pos hlf] at hl2
          subst hl2
          have HD : Hid (decide (2 ≤ q) = true) := by show _ = _; simp [hlf]
          clear hlf hod
          go_wp2
          go_ret3
          refine ⟨HB.out, ?_⟩
          unfold ExQ
          rw [HE.out, HD.out]
          exact ⟨_, rfl, HV1.out⟩
        · rw [if_neg hlf] at hl2
          subst hl2
          have HD : Hid (decide (2 ≤ q) = false) := by show _ = _; simp [hlf]
          clear hlf hod
          go_wp2
          go_ret3
          refine ⟨HB.out, ?_⟩
          unfold ExQ
          rw [HE.out, HD.out]
          exact ⟨_, rfl, HV1.out⟩
      · have hod' : q % 2 = 0 := by omega
        rw [hod'] at ha1
        rw [if_neg hod] at HE
        by_cases hz : t = 0
        · rw [if_pos hz] at HE
          subst hz
          by_cases hlf : 2 ≤ q
          · rw [if_pos hlf] at hl2
            subst hl2
            have HD : Hid (decide (2 ≤ q) = true) := by show _ = _; simp [hlf]
            clear hlf hod hod'
            go_wp2
            go_ret3
            refine ⟨HB.out, ?_⟩
            unfold ExQ
            rw [HE.out, HD.out]
            exact ⟨_, rfl, HV2.out⟩
          · rw [if_neg hlf] at hl2
            subst hl2
            have HD : Hid (decide (2 ≤ q) = false) := by show _ = _; simp [hlf]
            clear hlf hod hod'
            go_wp2
            go_ret3
            refine ⟨HB.out, ?_⟩
            unfold ExQ
            rw [HE.out, HD.out]
            exact ⟨_, rfl, HV2.out⟩
        · rw [if_neg hz] at HE
          clear hod hod' hl2
          go_wp2
          go_ret3
          refine ⟨HB.out, ?_⟩
          unfold ExQ
          rw [HE.out]
          exact rfl
end Go.Proofs.YtboeokmaepchgaaGreatDoor
