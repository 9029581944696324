/- RG, RH, laid into one text. -/
import Derived.Test.YtboeokmaepchgaaGreatDoorM7
/- rlp: check. -/
namespace Go.Proofs.YtboeokmaepchgaaGreatDoor
open Go.RowKit Go.Maps Go.Joins
set_option linter.unusedSimpArgs false
set_option linter.unusedVariables false
theorem shpL_take {xs : List Tr} {k : Nat} {x : Tr} (h : xs[k]? = some x) : shpL (xs.take (k + 1)) = (shpL (xs.take k) && shp x) := by
  have e : xs.take (k + 1) = xs.take k ++ [x] := by rw [List.take_add_one, h]; rfl
  rw [e]
  generalize xs.take k = ys
  induction ys with
  | nil => simp [shpL]
  | cons y ys ih => simp [shpL, ih, Bool.and_assoc]
theorem shpL_false {xs : List Tr} {k : Nat} {x : Tr} (h : xs[k]? = some x) (hx : shp x = false) : shpL xs = false := by
  cases hs : shpL xs with
  | false => rfl
  | true =>
    have := (shpL_iff xs).1 hs x (List.mem_of_getElem? h)
    rw [hx] at this
    cases this
set_option maxRecDepth 100000 in
set_option maxHeartbeats 8000000 in
/-- rlp.check -/
theorem check_any (x : Tr) : ∀ (w : World) (sb si : Value) (D : Nat → Prop), ItV w D sb si x → (∀ b, D b → b < w.heap.size) →
    Calls Tryz.prog 150 #[.agg #[.bool x.l, sb, si]] w fun e w' => Below w.heap.size w w' ∧ (shp x = true → e = .returned (.tuple #[])) ∧ (shp x = false → e = pan 1) := by
  induction x using Tr.ind with
  | h l b xs ih =>
    intro w sb si D h hD
    obtain ⟨ab, cb, rfl⟩ : ∃ a cap, sb = .slice a b.length cap := h.b.is.form
    obtain ⟨ai, ci, rfl, i1, i2, i3⟩ : ∃ a cap, si = .slice a xs.length cap ∧ xs.length ≤ cap ∧ cap ≤ 9223372036854775807 ∧ xs.length * 56 ≤ 140737488355328 := h.xs.form
    show Calls Tryz.prog 150 #[.agg #[.bool l, .slice ab b.length cb, .slice ai xs.length ci]] w _
    have HI : Hid (ItV w D (.slice ab b.length cb) (.slice ai xs.length ci) (.mk l b xs)) := h
    have HD : Hid (∀ b, D b → b < w.heap.size) := hD
    have IH : Hid _ := ih
    obtain ⟨n, hn⟩ : ∃ n, n = xs.length := ⟨_, rfl⟩
    obtain ⟨m, hm⟩ : ∃ m, m = b.length := ⟨_, rfl⟩
    rw [← hn, ← hm] at HI ⊢
    rw [← hn] at i1 i3
    have HN : Hid (n = xs.length ∧ m = b.length) := ⟨hn, hm⟩
    clear h hD ih hn hm
    have hlt : n * 56 ≤ 140737488355328 := i3
    by_cases hbad : (l = true ∧ 0 < m) ∨ (l = false ∧ 0 < n)
    · have hsh : shp (.mk l b xs) = false := by
        unfold shp
        rcases hbad with ⟨rfl, h⟩ | ⟨rfl, h⟩
        · cases hb : b with
          | nil => have := HN.out.2; rw [hb] at this; simp at this; omega
          | cons c r => simp
        · cases hx : xs with
          | nil => have := HN.out.1; rw [hx] at this; simp at this; omega
          | cons c r => simp
      have HS : Hid (shp (.mk l b xs) = false) := hsh
      clear hsh
      rcases hbad with ⟨rfl, h⟩ | ⟨rfl, h⟩
      · have h' : (0 : Int) < m := by omega
        go_enter Tryz.func150, Tryz.ntmps150
        go_wp2
        refine ⟨rfl, by go_grown, fun h => ?_, fun _ => rfl⟩
        rw [HS.out] at h
        cases h
      · have h' : (0 : Int) < n := by omega
        go_enter Tryz.func150, Tryz.ntmps150
        go_wp2
        refine ⟨rfl, by go_grown, fun h => ?_, fun _ => rfl⟩
        rw [HS.out] at h
        cases h
    · have hsh : shp (.mk l b xs) = shpL xs := by
        unfold shp
        cases l with
        | true =>
          have : b = [] := List.eq_nil_of_length_eq_zero (by have := HN.out.2; by_cases h0 : 0 < m; exact absurd (Or.inl ⟨rfl, h0⟩) hbad; omega)
          subst this
          simp
        | false =>
          have : xs = [] := List.eq_nil_of_length_eq_zero (by have := HN.out.1; by_cases h0 : 0 < n; exact absurd (Or.inr ⟨rfl, h0⟩) hbad; omega)
          subst this
          simp
      have HS : Hid (shp (.mk l b xs) = shpL xs) := hsh
      clear hsh
      have hl1 : l = true → ¬ (0 : Int) < m := fun h => by by_cases h0 : 0 < m; exact absurd (Or.inl ⟨h, h0⟩) hbad; omega
      have hl2 : l = false → ¬ (0 : Int) < n := fun h => by by_cases h0 : 0 < n; exact absurd (Or.inr ⟨h, h0⟩) hbad; omega
      clear hbad
      have hgo : ∀ (R : Ending → World → Prop), True := fun _ => trivial
      go_enter Tryz.func150, Tryz.ntmps150
      cases l with
      | true =>
        have h1 := hl1 rfl
        clear hl1 hl2
        obtain rfl : m = 0 := by omega
        have hB0 : Below w.heap.size w (w.alloc (.cells #[.bool true, .slice ab 0 cb, .slice ai n ci] 154)) := by go_grown
        go_wp2
        go_loopw [27] (fun i wr => ∃ k : Nat, k ≤ n ∧ i = .int .i64 k ∧ shpL (xs.take k) = true ∧ Below w.heap.size w wr) (fun i _ => n - (intOf i).toNat)
        case atStart => exact ⟨0, Nat.zero_le _, rfl, by simp [shpL], hB0⟩
        case round =>
          clear hB0
          obtain ⟨k, hk, rfl, hs, hb⟩ := hrel
          by_cases hkl : k < n
          · obtain ⟨y, hy⟩ : ∃ y, xs[k]? = some y := ⟨_, List.getElem?_eq_getElem (by have := HN.out.1; omega)⟩
            obtain ⟨g, o, sb', si', rfl, hDg, c0, c1, c2, hbb, hii⟩ := HI.out.xs.at hy
            obtain ⟨ab', cb', rfl⟩ := hbb.is.form
            obtain ⟨ai', ci', rfl, j1, j2, j3⟩ := hii.form
            have hgl := HD.out g hDg
            have c0 : wr.cell? ⟨g, o + k * 3, none⟩ = some (.bool y.l) := (hb.cell (p := ⟨g, o + k * 3, none⟩) hgl).trans c0
            have c1 : wr.cell? ⟨g, o + k * 3 + 1, none⟩ = some (.slice ab' y.b.length cb') := (hb.cell (p := ⟨g, o + k * 3 + 1, none⟩) hgl).trans c1
            have c2 : wr.cell? ⟨g, o + k * 3 + 2, none⟩ = some (.slice ai' y.xs.length ci') := (hb.cell (p := ⟨g, o + k * 3 + 2, none⟩) hgl).trans c2
            have hgw : g < wr.heap.size := Nat.lt_of_lt_of_le hgl hb.size
            obtain ⟨yl, hyl⟩ : ∃ yl, yl = y.l := ⟨_, rfl⟩
            obtain ⟨yn, hyn⟩ : ∃ yn, yn = y.b.length := ⟨_, rfl⟩
            obtain ⟨ym, hym⟩ : ∃ ym, ym = y.xs.length := ⟨_, rfl⟩
            have hb2 : Below w.heap.size w (wr.alloc (.cells #[.bool yl, .slice ab' yn cb', .slice ai' ym ci'] 154)) := hb.alloc hb.size _
            have hC := IH.out y (List.mem_of_getElem? hy) (wr.alloc (.cells #[.bool yl, .slice ab' yn cb', .slice ai' ym ci'] 154)) (.slice ab' y.b.length cb') (.slice ai' y.xs.length ci') D (ItV.mono ⟨hbb, hii⟩ (fun b hb' => hb2.block b (HD.out b hb')) (fun _ h => h)) (fun b hb' => Nat.lt_of_lt_of_le (HD.out b hb') hb2.size)
            rw [← hyl, ← hyn, ← hym] at hC
            rw [← hyl] at c0
            rw [← hyn] at c1
            rw [← hym] at c2
            have HC : Hid _ := hC
            have HR : Hid (xs[k]? = some y ∧ shpL (xs.take k) = true ∧ Below w.heap.size w (wr.alloc (.cells #[.bool yl, .slice ab' yn cb', .slice ai' ym ci'] 154))) := ⟨hy, hs, hb2⟩
            have hki : (k : Int) < n := by omega
            clear hC hy hs hb hb2 hbb hii hDg hyl hyn hym
            go_wp2_with fail
            refine Calls.mono HC.out ?_
            rintro e w2 ⟨hb2, he1, he2⟩
            have hb3 : Below w.heap.size w w2 := HR.out.2.2.trans (hb2.mono HR.out.2.2.size)
            cases hsy : shp y with
            | false =>
              obtain rfl := he2 hsy
              refine ⟨rfl, hb3, fun h => ?_, fun _ => rfl⟩
              rw [HS.out, shpL_false HR.out.1 hsy] at h
              cases h
            | true =>
              obtain rfl := he1 hsy
              clear he1 he2 hb2
              have H3 : Hid (Below w.heap.size w w2 ∧ shp y = true) := ⟨hb3, hsy⟩
              clear hb3 hsy
              go_wp2
              go_roundw
              case rel => exact ⟨k + 1, by omega, by go_num, by rw [shpL_take HR.out.1, HR.out.2.1, H3.out.2]; rfl, H3.out.1⟩
              case measure => simp [intOf]; omega
          · have HF : Hid (shpL xs = true ∧ Below w.heap.size w wr) := ⟨by rw [List.take_of_length_le (by have := HN.out.1; omega)] at hs; exact hs, hb⟩
            have hki : ¬ (k : Int) < n := by omega
            clear hs hb
            go_wp2
            go_end0
            refine ⟨HF.out.2, fun _ => rfl, fun h => ?_⟩
            rw [HS.out, HF.out.1] at h
            cases h
      | false =>
        have h1 := hl2 rfl
        clear hl1 hl2
        obtain rfl : n = 0 := by omega
        have hB0 : Below w.heap.size w (w.alloc (.cells #[.bool false, .slice ab m cb, .slice ai 0 ci] 154)) := by go_grown
        have HF : Hid (shpL xs = true) := by
          have : xs = [] := List.eq_nil_of_length_eq_zero (by have := HN.out.1; omega)
          subst this
          show shpL [] = true
          simp [shpL]
        go_wp2
        go_loopw [27] (fun i wr => i = .int .i64 0 ∧ Below w.heap.size w wr) (fun i _ => 0)
        case atStart => exact ⟨rfl, hB0⟩
        case round =>
          clear hB0
          obtain ⟨rfl, hb⟩ := hrel
          go_wp2
          go_end0
          refine ⟨hb, fun _ => rfl, fun h => ?_⟩
          rw [HS.out, HF.out] at h
          cases h
end Go.Proofs.YtboeokmaepchgaaGreatDoor
/- rlp: appendItem. -/
namespace Go.Proofs.YtboeokmaepchgaaGreatDoor
open Go.RowKit Go.Maps Go.Joins
set_option linter.unusedSimpArgs false
set_option linter.unusedVariables false
theorem take_snoc {α : Type} {xs : List α} {k : Nat} {x : α} (h : xs[k]? = some x) : xs.take (k + 1) = xs.take k ++ [x] := by rw [List.take_add_one, h]; rfl
theorem encL_take {xs : List Tr} {k : Nat} {x : Tr} (h : xs[k]? = some x) : encL (xs.take (k + 1)) = encL (xs.take k) ++ enc x := by
  rw [take_snoc h, encL_append]
  congr 1
  show enc x ++ [] = _
  rw [List.append_nil]
theorem depL_take {xs : List Tr} {k : Nat} {x : Tr} (h : xs[k]? = some x) : depL (xs.take (k + 1)) = max (depL (xs.take k)) (dep x) := by
  rw [take_snoc h]
  generalize xs.take k = ys
  induction ys with
  | nil => simp [depL]
  | cons y ys ih => simp [depL, ih, Nat.max_assoc]
theorem encL_take_le (xs : List Tr) (k : Nat) : (encL (xs.take k)).length ≤ (encL xs).length := by
  have := encL_append (xs.take k) (xs.drop k)
  rw [List.take_append_drop] at this
  rw [this, List.length_append]
  omega
theorem depL_mem {xs : List Tr} {k : Nat} {x : Tr} (h : xs[k]? = some x) : dep x ≤ depL xs := (depL_le xs _).1 (Nat.le_refl _) x (List.mem_of_getElem? h)
/-- What appendItem can't write. -/
def Bad (k : Nat) (bs : List Int) (x : Tr) : Prop := 16 < k + dep x ∨ 65536 < bs.length + (enc x).length
theorem off_to {w w' : World} {v v' : Value} (hg : w.grownBy w' v.ownBlock) (he : v'.ownBlock = v.ownBlock ∨ ∃ b, v'.ownBlock = some b ∧ w.heap.size ≤ b) : ∀ b, Off w v b → w'.heap[b]? = w.heap[b]? ∧ Off w' v' b := fun b hb =>
  ⟨hg.block b hb.1 (fun e => hb.2 e.symm), Nat.lt_of_lt_of_le hb.1 hg.size, fun e => by
    rcases he with he | ⟨c, he, hc⟩
    · rw [he] at e; exact hb.2 e
    · rw [he] at e; injection e with e; have := hb.1; omega⟩
/-- Within the loop of appendItem. -/
structure ALoop (w wr : World) (base : Nat) (v u : Value) (bs : List Int) (xs : List Tr) (k j : Nat) : Prop where
  own : wr.ownsRow base 5 1 u (bs ++ encL (xs.take j)).length (vB (bs ++ encL (xs.take j)))
  gb : w.grownBy wr v.ownBlock
  off : u.ownBlock = v.ownBlock ∨ ∃ b, u.ownBlock = some b ∧ w.heap.size ≤ b
  len : bs.length + (encL (xs.take j)).length ≤ 65536
  dp : k + 1 + depL (xs.take j) ≤ 16
theorem off_comp {w w1 : World} {v u u' : Value} (h : u.ownBlock = v.ownBlock ∨ ∃ b, u.ownBlock = some b ∧ w.heap.size ≤ b) (hs : w.heap.size ≤ w1.heap.size) (h' : u'.ownBlock = u.ownBlock ∨ ∃ b, u'.ownBlock = some b ∧ w1.heap.size ≤ b) : u'.ownBlock = v.ownBlock ∨ ∃ b, u'.ownBlock = some b ∧ w.heap.size ≤ b := by
  rcases h' with h' | ⟨b, h', hb⟩
  · rw [h']; exact h
  · exact Or.inr ⟨b, h', by omega⟩
set_option maxRecDepth 100000 in
set_option maxHeartbeats 8000000 in
/-- rlp.appendItem -/
theorem appI_any (x : Tr) : ∀ (w : World) (base : Nat) (v sb si : Value) (bs : List Int) (k : Nat), w.ownsRow base 5 1 v bs.length (vB bs) → ItV w (Off w v) sb si x → bs.length ≤ 65536 → base ≤ w.heap.size → k ≤ 16 →
    Calls Tryz.prog 151 #[v, .agg #[.bool x.l, sb, si], .int .i64 k] w fun e w' => w.grownBy w' v.ownBlock ∧ (Bad k bs x → e = pan 3) ∧ (¬ Bad k bs x → ∃ v', e = .returned v' ∧ Out w w' base v v' (bs ++ enc x)) := by
  induction x using Tr.ind with
  | h l b xs ih =>
    intro w base v sb si bs k hown h hl hbase hk
    obtain ⟨ab, cb, rfl⟩ : ∃ a cap, sb = .slice a b.length cap := h.b.is.form
    obtain ⟨ai, ci, rfl, i1, i2, i3⟩ : ∃ a cap, si = .slice a xs.length cap ∧ xs.length ≤ cap ∧ cap ≤ 9223372036854775807 ∧ xs.length * 56 ≤ 140737488355328 := h.xs.form
    show Calls Tryz.prog 151 #[v, .agg #[.bool l, .slice ab b.length cb, .slice ai xs.length ci], .int .i64 k] w _
    obtain ⟨a, cap, rfl⟩ := row_form hown
    have HI : Hid (ItV w (Off w (.slice a bs.length cap)) (.slice ab b.length cb) (.slice ai xs.length ci) (.mk l b xs)) := h
    have HL : Hid (bs.length ≤ 65536) := hl
    have IH : Hid _ := ih
    obtain ⟨n, hn⟩ : ∃ n, n = xs.length := ⟨_, rfl⟩
    obtain ⟨m, hm⟩ : ∃ m, m = b.length := ⟨_, rfl⟩
    obtain ⟨p, hp⟩ : ∃ p, p = bs.length := ⟨_, rfl⟩
    rw [← hn, ← hm, ← hp] at HI
    rw [← hn, ← hm, ← hp]
    have HO : Hid (w.ownsRow base 5 1 (.slice a p cap) bs.length (vB bs)) := by rw [hp]; exact hown
    rw [← hn] at i1 i3
    have HN : Hid (n = xs.length ∧ m = b.length ∧ p = bs.length) := ⟨hn, hm, hp⟩
    have hp2 : p ≤ 65536 := by omega
    clear h ih hn hm hown hl
    have hB0 : Below w.heap.size w (w.alloc (.cells #[.bool l, .slice ab m cb, .slice ai n ci] 154)) := by go_grown
    have hO0 : (w.alloc (.cells #[.bool l, .slice ab m cb, .slice ai n ci] 154)).ownsRow base 5 1 (.slice a p cap) bs.length (vB bs) := HO.out.alloc _ 
    have hI0 : ItV (w.alloc (.cells #[.bool l, .slice ab m cb, .slice ai n ci] 154)) (Off (w.alloc (.cells #[.bool l, .slice ab m cb, .slice ai n ci] 154)) (.slice a p cap)) (.slice ab m cb) (.slice ai n ci) (.mk l b xs) :=
      HI.out.mono (fun b hb => hB0.block b hb.1) (fun b hb => ⟨Nat.lt_of_lt_of_le hb.1 hB0.size, hb.2⟩)
    have H0 : Hid (Below w.heap.size w (w.alloc (.cells #[.bool l, .slice ab m cb, .slice ai n ci] 154)) ∧ (w.alloc (.cells #[.bool l, .slice ab m cb, .slice ai n ci] 154)).ownsRow base 5 1 (.slice a p cap) bs.length (vB bs) ∧ ItV (w.alloc (.cells #[.bool l, .slice ab m cb, .slice ai n ci] 154)) (Off (w.alloc (.cells #[.bool l, .slice ab m cb, .slice ai n ci] 154)) (.slice a p cap)) (.slice ab m cb) (.slice ai n ci) (.mk l b xs)) := ⟨hB0, hO0, hI0⟩
    clear hB0 hO0 hI0
    cases l with
    | false =>
      have e0 : enc (.mk false b xs) = encS b := by unfold enc; simp
      have e1 : dep (.mk false b xs) = 0 := by unfold dep; simp
      have HE : Hid (enc (.mk false b xs) = encS b ∧ dep (.mk false b xs) = 0) := ⟨e0, e1⟩
      clear e0 e1 hp
      go_enter Tryz.func151, Tryz.ntmps151
      go_wp2_with fail
      refine Calls.mono (appB_any (.slice a p cap) (.slice ab m cb) bs b H0.out.2.1 H0.out.2.2.b HL.out (by have := H0.out.1.size; omega)) ?_
      rintro e w2 ⟨hg, he1, he2⟩
      have hg2 : w.grownBy w2 (Value.slice a p cap).ownBlock := gb_comp (gb_of_below H0.out.1 _) hg (Or.inl rfl)
      by_cases hbad : 65536 < bs.length + (encS b).length
      · obtain rfl := he1 hbad
        refine ⟨rfl, hg2, fun _ => rfl, fun h => absurd (Or.inr (by rw [HE.out.1]; exact hbad)) h⟩
      · obtain ⟨v', rfl, ho', ha'⟩ := he2 hbad
        clear he1 he2
        have H2 : Hid (w.grownBy w2 (Value.slice a p cap).ownBlock ∧ Out w w2 base (.slice a p cap) v' (bs ++ encS b) ∧ ¬ 65536 < bs.length + (encS b).length) := ⟨hg2, ⟨ho', by
          rcases ha' with h | ⟨c, h, hc⟩
          · exact Or.inl h
          · exact Or.inr ⟨c, h, by have := H0.out.1.size; omega⟩⟩, hbad⟩
        clear hg hg2 hbad ho' ha'
        go_wp2
        go_ret
        refine ⟨H2.out.1, fun h => ?_, fun _ => ⟨v', rfl, by rw [HE.out.1]; exact H2.out.2.1⟩⟩
        exfalso
        rcases h with h | h
        · rw [HE.out.2] at h; omega
        · rw [HE.out.1] at h; exact H2.out.2.2 h
    | true =>
      have e0 : enc (.mk true b xs) = headB 192 (encL xs).length ++ encL xs := by unfold enc; simp
      have e1 : dep (.mk true b xs) = depL xs + 1 := by unfold dep; simp
      have HE : Hid (enc (.mk true b xs) = headB 192 (encL xs).length ++ encL xs ∧ dep (.mk true b xs) = depL xs + 1) := ⟨e0, e1⟩
      clear e0 e1 hp
      by_cases hk16 : k = 16
      · subst hk16
        go_enter Tryz.func151, Tryz.ntmps151
        go_wp2
        refine ⟨rfl, gb_of_below H0.out.1 _, fun _ => rfl, fun h => absurd (Or.inl (by rw [HE.out.2]; omega)) h⟩
      · have hk' : ¬ (16 : Int) ≤ k := by omega
        go_enter Tryz.func151, Tryz.ntmps151
        go_wp2_with fail
        have hA0 : ALoop w (w.alloc (.cells #[.bool true, .slice ab m cb, .slice ai n ci] 154)) base (.slice a p cap) (.slice a p cap) bs xs k 0 := ⟨by have := H0.out.2.1; simpa [encL] using this, gb_of_below H0.out.1 _, Or.inl rfl, by simpa [encL] using HL.out, by simp [depL]; omega⟩
        go_loopw [0, 25] (fun u i wr => ∃ j : Nat, j ≤ n ∧ i = .int .i64 j ∧ ALoop w wr base (.slice a p cap) u bs xs k j) (fun _ i _ => n - (intOf i).toNat)
        case atStart => exact ⟨0, Nat.zero_le _, rfl, hA0⟩
        case round =>
          clear hA0
          obtain ⟨j, hj, rfl, hA⟩ := hrel
          obtain ⟨au, cu, hu⟩ := row_form hA.own
          by_cases hjl : j < n
          · obtain ⟨y, hy⟩ : ∃ y, xs[j]? = some y := ⟨_, List.getElem?_eq_getElem (by have := HN.out.1; omega)⟩
            obtain ⟨g, o, sb', si', rfl, hDg, c0, c1, c2, hbb, hii⟩ := HI.out.xs.at hy
            obtain ⟨ab', cb', rfl⟩ := hbb.is.form
            obtain ⟨ai', ci', rfl, j1, j2, j3⟩ := hii.form
            have hto := off_to hA.gb hA.off
            have c0 : wr.cell? ⟨g, o + j * 3, none⟩ = some (.bool y.l) := (World.cell?_of_block (a := ⟨g, o + j * 3, none⟩) (hto g hDg).1).trans c0
            have c1 : wr.cell? ⟨g, o + j * 3 + 1, none⟩ = some (.slice ab' y.b.length cb') := (World.cell?_of_block (a := ⟨g, o + j * 3 + 1, none⟩) (hto g hDg).1).trans c1
            have c2 : wr.cell? ⟨g, o + j * 3 + 2, none⟩ = some (.slice ai' y.xs.length ci') := (World.cell?_of_block (a := ⟨g, o + j * 3 + 2, none⟩) (hto g hDg).1).trans c2
            have hgw : g < wr.heap.size := (hto g hDg).2.1
            have hyv : ItV wr (Off wr u0) (.slice ab' y.b.length cb') (.slice ai' y.xs.length ci') y := ItV.mono ⟨hbb, hii⟩ (fun b hb' => (hto b hb').1) (fun b hb' => (hto b hb').2)
            subst hu
            obtain ⟨yl, hyl⟩ : ∃ yl, yl = y.l := ⟨_, rfl⟩
            obtain ⟨yn, hyn⟩ : ∃ yn, yn = y.b.length := ⟨_, rfl⟩
            obtain ⟨ym, hym⟩ : ∃ ym, ym = y.xs.length := ⟨_, rfl⟩
            obtain ⟨q, hq⟩ : ∃ q, q = (bs ++ encL (xs.take j)).length := ⟨_, rfl⟩
            have hb2 : Below wr.heap.size wr (wr.alloc (.cells #[.bool yl, .slice ab' yn cb', .slice ai' ym ci'] 154)) := by go_grown
            have hC := IH.out y (List.mem_of_getElem? hy) (wr.alloc (.cells #[.bool yl, .slice ab' yn cb', .slice ai' ym ci'] 154)) base (.slice au (bs ++ encL (xs.take j)).length cu) (.slice ab' y.b.length cb') (.slice ai' y.xs.length ci') (bs ++ encL (xs.take j)) (k + 1) (hA.own.alloc _) (hyv.mono (fun b hb' => hb2.block b hb'.1) (fun b hb' => ⟨Nat.lt_of_lt_of_le hb'.1 hb2.size, hb'.2⟩)) (by rw [List.length_append]; exact hA.len) (by have := hA.gb.size; have := hb2.size; omega) (by omega)
            rw [← hyl, ← hyn, ← hym, ← hq] at hC
            rw [← hyl] at c0
            rw [← hyn] at c1
            rw [← hym] at c2
            have hA' := hA
            rw [← hq] at hA' ⊢
            have HC : Hid _ := hC
            have HR : Hid (xs[j]? = some y ∧ ALoop w wr base (.slice a p cap) (.slice au q cu) bs xs k j ∧ Below wr.heap.size wr (wr.alloc (.cells #[.bool yl, .slice ab' yn cb', .slice ai' ym ci'] 154))) := ⟨hy, hA', hb2⟩
            have hki : (j : Int) < n := by omega
            clear hC hy hA hA' hb2 hbb hii hDg hyl hyn hym hto hyv hq
            go_wp2_with fail
            refine Calls.mono HC.out ?_
            rintro e w2 ⟨hg2, he1, he2⟩
            have hg3 : w.grownBy w2 (Value.slice a p cap).ownBlock := gb_comp (gb_comp HR.out.2.1.gb (gb_of_below HR.out.2.2 (Value.slice au q cu).ownBlock) HR.out.2.1.off) hg2 HR.out.2.1.off
            by_cases hbad : Bad (k + 1) (bs ++ encL (xs.take j)) y
            · obtain rfl := he1 hbad
              refine ⟨rfl, hg3, fun _ => rfl, fun h => absurd ?_ h⟩
              rcases hbad with hbad | hbad
              · left
                rw [HE.out.2]
                have := depL_mem HR.out.1
                omega
              · right
                have h1 := encL_take_le xs (j + 1)
                rw [encL_take HR.out.1] at h1
                rw [HE.out.1]
                simp only [List.length_append] at *
                omega
            · obtain ⟨v', rfl, ho', ha'⟩ := he2 hbad
              have hnb : ¬ 16 < k + 1 + dep y ∧ ¬ 65536 < (bs ++ encL (xs.take j)).length + (enc y).length := ⟨fun h => hbad (Or.inl h), fun h => hbad (Or.inr h)⟩
              clear he1 he2 hbad
              have H2 : Hid (ALoop w w2 base (.slice a p cap) v' bs xs k (j + 1)) := ⟨by rw [encL_take HR.out.1, ← List.append_assoc]; exact ho', hg3, off_comp HR.out.2.1.off (by have := HR.out.2.1.gb.size; have := HR.out.2.2.size; omega) ha', by rw [encL_take HR.out.1]; have := hnb.2; simp only [List.length_append] at *; omega, by rw [depL_take HR.out.1]; have := hnb.1; have := HR.out.2.1.dp; omega⟩
              clear hg2 hg3 ho' ha' hnb
              go_wp2
              go_roundw
              case rel => exact ⟨j + 1, by omega, by go_num, H2.out⟩
              case measure => simp [intOf]; omega
          · have hjn : xs.take j = xs := List.take_of_length_le (by have := HN.out.1; omega)
            subst hu
            obtain ⟨q1, q2, q3, q4, q5⟩ := hA
            rw [hjn] at q1 q4 q5 q3 ⊢
            obtain ⟨L, hL⟩ : ∃ L, L = (bs ++ encL xs).length := ⟨_, rfl⟩
            obtain ⟨E, hE⟩ : ∃ E, E = (encL xs).length := ⟨_, rfl⟩
            have hLp : L = p + E := by rw [hL, List.length_append, ← HN.out.2.2, hE]
            have q1' : wr.ownsRow base 5 1 (.slice au L cu) (bs ++ encL xs).length (vB (bs ++ encL xs)) := by rw [hL]; exact q1
            rw [← hL] at q3 ⊢
            have HF : Hid (wr.ownsRow base 5 1 (.slice au L cu) (bs ++ encL xs).length (vB (bs ++ encL xs)) ∧ w.grownBy wr (Value.slice a p cap).ownBlock ∧ ((Value.slice au L cu).ownBlock = (Value.slice a p cap).ownBlock ∨ ∃ b, (Value.slice au L cu).ownBlock = some b ∧ w.heap.size ≤ b) ∧ L ≤ 65536 ∧ k + 1 + depL xs ≤ 16 ∧ E = (encL xs).length ∧ L = p + E) := ⟨q1', q2, q3, by rw [hLp, HN.out.2.2, hE]; exact q4, q5, hE, hLp⟩
            have hki : ¬ (j : Int) < n := by omega
            have hsub : (L : Int) - p = (E : Int) := by omega
            have hLb : L ≤ 65536 := HF.out.2.2.2.1
            clear q1 q1' q2 q3 q4 q5 hL hE hLp hjn
            have T1 : Hid True := trivial
            go_wp2_with (first
              | (have _ := T1
                 go_at_call 186
                 clear T1
                 refine Calls.mono (head_any 192 (Or.inr rfl) E (by have := HF.out.2.2.2.2.2.2; omega)) ?_
                 rintro e w2 ⟨hv, rfl, ho2, hb2⟩
                 obtain ⟨K, hK⟩ : ∃ K, K = (headB 192 E).length := ⟨_, rfl⟩
                 have H2 : Hid (w2.ownsRow wr.heap.size 5 1 hv (headB 192 E).length (vB (headB 192 E)) ∧ Below wr.heap.size wr w2) := ⟨ho2, hb2⟩
                 have T2 : Hid True := trivial
                 clear ho2 hb2 hK)
              | (have _ := T2
                 go_at_call 185
                 clear T2
                 refine Calls.mono (insert_any (base := base) (base2 := wr.heap.size) (.slice au L cu) hv (bs ++ encL xs) (headB 192 E) p (by rw [List.length_append, ← HN.out.2.2]; omega) (ownsRow_heap HF.out.1 (fun b hb => H2.out.2.block b (HF.out.1.lt b hb).2)) H2.out.1 (fun b hb e => by have h1 := (H2.out.1.lt b hb).1; have h2 := (HF.out.1.lt b e).2; omega) (headB_pos 192 E) (by
                   unfold headB
                   split
                   · simp
                   · have := shortB_len 3 E (by have := HF.out.2.2.2.2.2.2; omega)
                     simp
                     omega) (by rw [List.length_append, ← HN.out.2.2, ← HF.out.2.2.2.2.2.1]; have := HF.out.2.2.2.2.2.2; omega) (by have := HF.out.2.1.size; have := H2.out.2.size; omega)) ?_
                 rintro e w3 ⟨v3, rfl, hO3, hg3⟩
                 have hbs : (bs ++ encL xs).take p ++ headB 192 E ++ (bs ++ encL xs).drop p = bs ++ enc (.mk true b xs) := by
                   rw [HN.out.2.2, List.take_left, List.drop_left, HE.out.1, HF.out.2.2.2.2.2.1, List.append_assoc]
                 rw [hbs] at hO3
                 obtain ⟨a3, c3, rfl⟩ := row_form hO3.1
                 obtain ⟨M, hM⟩ : ∃ M, M = (bs ++ enc (.mk true b xs)).length := ⟨_, rfl⟩
                 rw [← hM] at hO3 ⊢
                 have hgb : w.grownBy w3 (Value.slice a p cap).ownBlock := gb_comp (gb_comp HF.out.2.1 (gb_of_below H2.out.2 (Value.slice au L cu).ownBlock) HF.out.2.2.1) hg3 HF.out.2.2.1
                 have H3 : Hid (Out w w3 base (.slice a p cap) (.slice a3 M c3) (bs ++ enc (.mk true b xs)) ∧ w.grownBy w3 (Value.slice a p cap).ownBlock ∧ M = (bs ++ enc (.mk true b xs)).length) := ⟨⟨hO3.1, off_comp HF.out.2.2.1 (by have := HF.out.2.1.size; have := H2.out.2.size; omega) hO3.2⟩, hgb, hM⟩
                 have T3 : Hid True := trivial
                 clear hbs hO3 hM hgb hg3)
              | (have _ := T3
                 go_at_call 184
                 clear T3
                 by_cases hfit : 65536 < M))
            · refine Calls.mono (fitting_no a3 M c3 hfit) ?_
              rintro e w4 ⟨rfl, hw4⟩
              obtain rfl := hw4.symm
              refine ⟨rfl, H3.out.2.1, fun _ => rfl, fun h => absurd (Or.inr ?_) h⟩
              have := H3.out.2.2
              rw [List.length_append] at this
              omega
            · refine Calls.mono (fitting_ok a3 M c3 (by omega)) ?_
              rintro e w4 ⟨rfl, hw4⟩
              obtain rfl := hw4.symm
              go_wp2
              go_ret
              refine ⟨H3.out.2.1, fun h => ?_, fun _ => ⟨_, rfl, H3.out.1⟩⟩
              exfalso
              rcases h with h | h
              · rw [HE.out.2] at h
                have := HF.out.2.2.2.2.1
                omega
              · have := H3.out.2.2
                rw [List.length_append] at this
                omega
end Go.Proofs.YtboeokmaepchgaaGreatDoor
