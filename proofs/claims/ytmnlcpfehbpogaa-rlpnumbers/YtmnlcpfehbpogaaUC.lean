/- rlp: Same of any two items. -/
import Derived.Test.YtmnlcpfehbpogaaUB
namespace Go.Proofs.Ytmnlcpfehbpogaa
open Go.RowKit Go.Maps Go.Joins
set_option linter.unusedSimpArgs false
set_option linter.unusedVariables false
/-- A call that tells whether it is so. -/
def BR (P : Prop) (e : Ending) : Prop := ∃ r : Bool, e = .returned (.bool r) ∧ (r = true ↔ P)
theorem BR.yes {P : Prop} (h : P) : BR P (.returned (.bool true)) := ⟨true, rfl, by simp [h]⟩
theorem BR.no {P : Prop} (h : ¬ P) : BR P (.returned (.bool false)) := ⟨false, rfl, by simp [h]⟩
theorem str_inj : ∀ {xs ys : List Int}, Byt xs → Byt ys → strOfNums xs = strOfNums ys → xs = ys := by
  intro xs ys hx hy h
  have h2 : xs.map (fun n => UInt8.ofNat n.toNat) = ys.map (fun n => UInt8.ofNat n.toNat) := by
    unfold strOfNums at h
    injection h with h
    simpa using h
  clear h
  induction xs generalizing ys with
  | nil => cases ys with
    | nil => rfl
    | cons y ys => simp at h2
  | cons x xs ih => cases ys with
    | nil => simp at h2
    | cons y ys =>
      simp only [List.map_cons, List.cons.injEq] at h2
      have e1 := congrArg UInt8.toNat h2.1
      have b1 := hx x (by simp)
      have b2 := hy y (by simp)
      simp only [UInt8.toNat_ofNat'] at e1
      have : x = y := by omega
      rw [this, ih (fun c hc => hx c (by simp [hc])) (fun c hc => hy c (by simp [hc])) h2.2]
theorem str_toList (xs : List Int) : (strOfNums xs).toList = xs.map fun n => UInt8.ofNat n.toNat := by
  rw [ByteArray.toList_eq]
  simp [strOfNums]
theorem str_ne {xs ys : List Int} (hx : Byt xs) (hy : Byt ys) (h : xs ≠ ys) : ((strOfNums xs).toList == (strOfNums ys).toList) = false := by
  simp only [beq_eq_false_iff_ne, str_toList]
  intro e
  exact h (str_inj hx hy (by unfold strOfNums; rw [e]))
/-- bytes.Equal -/
theorem equal_any {w : World} {a b : Value} {xs ys : List Int} (ha : BytesV w a xs) (hb : BytesV w b ys) (hx : Byt xs) (hy : Byt ys) : Calls Try.prog 45 #[a, b] w fun e w' => BR (xs = ys) e ∧ w' = w := by
  have h1 := conv_b ha
  have h2 := conv_b hb
  obtain ⟨_, _, rfl⟩ := ha.form
  obtain ⟨_, _, rfl⟩ := hb.form
  clear ha hb
  by_cases h : xs = ys
  · subst h
    go_enter Try.func45, Try.ntmps45
    go_wp2
    go_ret
    refine ⟨⟨_, rfl, by simp⟩, rfl⟩
  · have h3 := str_ne hx hy h
    have HX : Hid (¬ xs = ys) := h
    clear h hx hy
    go_enter Try.func45, Try.ntmps45
    go_wp2
    go_ret
    exact ⟨⟨_, rfl, by simp [HX.out]⟩, rfl⟩
def SameD (x y : Tr) : Prop := ∀ (w : World) (sb1 si1 sb2 si2 : Value), ItV w (fun b => b < w.heap.size) sb1 si1 x → ItV w (fun b => b < w.heap.size) sb2 si2 y → BytT x → BytT y →
  Calls Try.prog 27 #[.agg #[.bool x.l, sb1, si1], .agg #[.bool y.l, sb2, si2]] w fun e w' => Below w.heap.size w w' ∧ BR (x = y) e
def RSameD (x y : Tr) : Prop := ∀ (w : World) (sb1 si1 sb2 si2 : Value), ItV w (fun b => b < w.heap.size) sb1 si1 x → ItV w (fun b => b < w.heap.size) sb2 si2 y → BytT x → BytT y →
  Calls Try.prog 17 #[.agg #[.bool x.l, sb1, si1], .agg #[.bool y.l, sb2, si2]] w fun e w' => Below w.heap.size w w' ∧ BR (x = y) e
theorem take_ne {xs ys : List Tr} {j : Nat} {x y : Tr} (hx : xs[j]? = some x) (hy : ys[j]? = some y) (h : x ≠ y) : xs ≠ ys := fun e => by
  rw [e, hy] at hx
  exact h (by injection hx with hx; exact hx.symm)
set_option maxRecDepth 100000 in
set_option maxHeartbeats 8000000 in
theorem eqf_any (xs ys : List Tr) (ih : ∀ x ∈ xs, ∀ y, SameD x y) (w : World) (v1 v2 : Value) (h1 : ItsV w (fun b => b < w.heap.size) v1 xs) (h2 : ItsV w (fun b => b < w.heap.size) v2 ys) (hbx : BytL xs) (hby : BytL ys) :
    Calls Try.prog 46 #[v1, v2, .func (.func 27) #[] #[]] w fun e w' => Below w.heap.size w w' ∧ BR (xs = ys) e := by
  obtain ⟨a1, c1, rfl, i1, i2, i3⟩ := h1.form
  obtain ⟨a2, c2, rfl, k1, k2, k3⟩ := h2.form
  have eg : ∀ (args : Array Value) (w : World), (callFunc 27 args).run Try.prog w = .ok (.enter 27 args) w := enters_of Try.func27 (by kernel_rfl) rfl
  by_cases hlen : xs.length = ys.length
  · have H1 : Hid (ItsV w (fun b => b < w.heap.size) (.slice a1 xs.length c1) xs ∧ ItsV w (fun b => b < w.heap.size) (.slice a2 xs.length c2) ys) := ⟨h1, by rw [hlen]; exact h2⟩
    have IH : Hid _ := ih
    have HBT : Hid (BytL xs ∧ BytL ys) := ⟨hbx, hby⟩
    rw [← hlen] at k1 ⊢
    obtain ⟨n, hn⟩ : ∃ n, n = xs.length := ⟨_, rfl⟩
    rw [← hn] at H1 i1 i3 k1 ⊢
    have HN : Hid (n = xs.length ∧ n = ys.length) := ⟨hn, by rw [hn, hlen]⟩
    clear h1 h2 ih hn k3 hlen hbx hby
    go_enter Try.func46, Try.ntmps46
    go_wp2_with fail
    go_loopw [17] (fun i wr => ∃ j : Nat, j ≤ n ∧ i = .int .i64 j ∧ Below w.heap.size w wr ∧ xs.take j = ys.take j) (fun i _ => n - (intOf i).toNat)
    case atStart => exact ⟨0, Nat.zero_le _, rfl, Below.refl _ _, rfl⟩
    case round =>
      obtain ⟨j, hj, rfl, hb, htk⟩ := hrel
      have HT : Hid (xs.take j = ys.take j) := htk
      clear htk
      by_cases hjl : j < n
      · obtain ⟨x, hx⟩ : ∃ x, xs[j]? = some x := ⟨_, List.getElem?_eq_getElem (by have := HN.out.1; omega)⟩
        obtain ⟨y, hy⟩ : ∃ y, ys[j]? = some y := ⟨_, List.getElem?_eq_getElem (by have := HN.out.2; omega)⟩
        obtain ⟨g, o, sb', si', rfl, hg, p0, p1, p2, hbb, hii⟩ := H1.out.1.at hx
        obtain ⟨g', o', sb'', si'', rfl, hg', q0, q1, q2, hbb', hii'⟩ := H1.out.2.at hy
        obtain ⟨ab, cb, rfl⟩ := hbb.is.form
        obtain ⟨ai, ci, rfl, -⟩ := hii.form
        obtain ⟨ab', cb', rfl⟩ := hbb'.is.form
        obtain ⟨ai', ci', rfl, -⟩ := hii'.form
        obtain ⟨xl, hxl⟩ : ∃ xl, xl = x.l := ⟨_, rfl⟩
        obtain ⟨xn, hxn⟩ : ∃ xn, xn = x.b.length := ⟨_, rfl⟩
        obtain ⟨xm, hxm⟩ : ∃ xm, xm = x.xs.length := ⟨_, rfl⟩
        obtain ⟨yl, hyl⟩ : ∃ yl, yl = y.l := ⟨_, rfl⟩
        obtain ⟨yn, hyn⟩ : ∃ yn, yn = y.b.length := ⟨_, rfl⟩
        obtain ⟨ym, hym⟩ : ∃ ym, ym = y.xs.length := ⟨_, rfl⟩
        rw [← hxl] at p0
        rw [← hxn] at p1
        rw [← hxm] at p2
        rw [← hyl] at q0
        rw [← hyn] at q1
        rw [← hym] at q2
        have HXY : Hid (xs[j]? = some x ∧ ys[j]? = some y) := ⟨hx, hy⟩
        have p0 : wr.cell? ⟨g, o + j * 3, none⟩ = some (.bool xl) := (hb.cell (p := ⟨g, o + j * 3, none⟩) hg).trans p0
        have p1 : wr.cell? ⟨g, o + j * 3 + 1, none⟩ = some (.slice ab xn cb) := (hb.cell (p := ⟨g, o + j * 3 + 1, none⟩) hg).trans p1
        have p2 : wr.cell? ⟨g, o + j * 3 + 2, none⟩ = some (.slice ai xm ci) := (hb.cell (p := ⟨g, o + j * 3 + 2, none⟩) hg).trans p2
        have q0 : wr.cell? ⟨g', o' + j * 3, none⟩ = some (.bool yl) := (hb.cell (p := ⟨g', o' + j * 3, none⟩) hg').trans q0
        have q1 : wr.cell? ⟨g', o' + j * 3 + 1, none⟩ = some (.slice ab' yn cb') := (hb.cell (p := ⟨g', o' + j * 3 + 1, none⟩) hg').trans q1
        have q2 : wr.cell? ⟨g', o' + j * 3 + 2, none⟩ = some (.slice ai' ym ci') := (hb.cell (p := ⟨g', o' + j * 3 + 2, none⟩) hg').trans q2
        have hgw : g < wr.heap.size := Nat.lt_of_lt_of_le hg hb.size
        have hgw' : g' < wr.heap.size := Nat.lt_of_lt_of_le hg' hb.size
        have hb2 : Below wr.heap.size wr ((wr.alloc (.cells #[.bool xl, .slice ab xn cb, .slice ai xm ci] 31)).alloc (.cells #[.bool yl, .slice ab' yn cb', .slice ai' ym ci'] 31)) := by go_grown
        have hb3 : Below w.heap.size w ((wr.alloc (.cells #[.bool xl, .slice ab xn cb, .slice ai xm ci] 31)).alloc (.cells #[.bool yl, .slice ab' yn cb', .slice ai' ym ci'] 31)) := hb.trans (hb2.mono hb.size)
        have hC := IH.out x (List.mem_of_getElem? hx) y ((wr.alloc (.cells #[.bool xl, .slice ab xn cb, .slice ai xm ci] 31)).alloc (.cells #[.bool yl, .slice ab' yn cb', .slice ai' ym ci'] 31)) (.slice ab x.b.length cb) (.slice ai x.xs.length ci) (.slice ab' y.b.length cb') (.slice ai' y.xs.length ci') (ItV.up ⟨hbb, hii⟩ hb3) (ItV.up ⟨hbb', hii'⟩ hb3) ((BytL_iff xs).1 HBT.out.1 x (List.mem_of_getElem? hx)) ((BytL_iff ys).1 HBT.out.2 y (List.mem_of_getElem? hy))
        rw [← hxl, ← hxn, ← hxm, ← hyl, ← hyn, ← hym] at hC
        have HC : Hid _ := hC
        have HR : Hid (Below w.heap.size w ((wr.alloc (.cells #[.bool xl, .slice ab xn cb, .slice ai xm ci] 31)).alloc (.cells #[.bool yl, .slice ab' yn cb', .slice ai' ym ci'] 31))) := hb3
        have hki : (j : Int) < n := by omega
        clear hC hx hy hb hb2 hb3 hbb hii hbb' hii' hxl hxn hxm hyl hyn hym hg hg'
        go_wp2_with fail
        refine Calls.mono HC.out ?_
        rintro e w2 ⟨hb2, r, rfl, hr⟩
        have H3 : Hid (Below w.heap.size w w2 ∧ (r = true ↔ x = y)) := ⟨HR.out.trans (hb2.mono HR.out.size), hr⟩
        clear hb2 hr
        cases r with
        | true =>
          have HXE : Hid (x = y) := H3.out.2.1 rfl
          go_wp2
          go_roundw
          case rel => exact ⟨j + 1, by omega, by go_num, H3.out.1, by rw [take_snoc HXY.out.1, take_snoc HXY.out.2, HT.out, HXE.out]⟩
          case measure => simp [intOf]; omega
        | false =>
          go_wp2
          go_ret
          exact ⟨H3.out.1, BR.no (take_ne HXY.out.1 HXY.out.2 (fun e => by have := H3.out.2.2 e; cases this))⟩
      · have hki : ¬ (j : Int) < n := by omega
        have H3 : Hid (Below w.heap.size w wr ∧ xs = ys) := ⟨hb, by
          have h9 := HT.out
          have hjn : j = n := by omega
          rw [List.take_of_length_le (by have := HN.out.1; omega), List.take_of_length_le (by have := HN.out.2; omega)] at h9
          exact h9⟩
        clear hb HT
        go_wp2
        go_ret
        exact ⟨H3.out.1, BR.yes H3.out.2⟩
  · have hne : ((xs.length : Int) != (ys.length : Int)) = true := by simp; omega
    have HX : Hid (xs ≠ ys) := fun e => hlen (by rw [e])
    obtain ⟨n, hn⟩ : ∃ n, n = xs.length := ⟨_, rfl⟩
    obtain ⟨n', hn'⟩ : ∃ n', n' = ys.length := ⟨_, rfl⟩
    rw [← hn, ← hn'] at hne ⊢
    rw [← hn] at i1 i3
    rw [← hn'] at k1 k3
    clear h1 h2 ih hlen hbx hby hn hn'
    go_enter Try.func46, Try.ntmps46
    go_wp2
    go_ret
    exact ⟨Below.refl _ _, BR.no HX.out⟩
set_option maxRecDepth 100000 in
set_option maxHeartbeats 8000000 in
theorem same_any (x : Tr) : ∀ y, SameD x y := by
  induction x using Tr.ind with
  | h l b xs ih =>
    intro y
    obtain ⟨l', b', ys⟩ := y
    intro w sb1 si1 sb2 si2 h1 h2 t1 t2
    show Calls Try.prog 27 #[.agg #[.bool l, sb1, si1], .agg #[.bool l', sb2, si2]] w _
    obtain ⟨a1, c1, rfl⟩ : ∃ a cap, sb1 = .slice a b.length cap := h1.b.is.form
    obtain ⟨a2, c2, rfl⟩ : ∃ a cap, sb2 = .slice a b'.length cap := h2.b.is.form
    obtain ⟨d1, e1, rfl, i1, i2, i3⟩ : ∃ a cap, si1 = .slice a xs.length cap ∧ xs.length ≤ cap ∧ cap ≤ 9223372036854775807 ∧ xs.length * 56 ≤ 140737488355328 := h1.xs.form
    obtain ⟨d2, e2, rfl, i4, i5, i6⟩ : ∃ a cap, si2 = .slice a ys.length cap ∧ ys.length ≤ cap ∧ cap ≤ 9223372036854775807 ∧ ys.length * 56 ≤ 140737488355328 := h2.xs.form
    obtain ⟨n, hn⟩ : ∃ n, n = xs.length := ⟨_, rfl⟩
    obtain ⟨m, hm⟩ : ∃ m, m = b.length := ⟨_, rfl⟩
    obtain ⟨n', hn'⟩ : ∃ n', n' = ys.length := ⟨_, rfl⟩
    obtain ⟨m', hm'⟩ : ∃ m', m' = b'.length := ⟨_, rfl⟩
    have H1 : Hid (ItV w (fun b => b < w.heap.size) (.slice a1 m c1) (.slice d1 n e1) (.mk l b xs) ∧ ItV w (fun b => b < w.heap.size) (.slice a2 m' c2) (.slice d2 n' e2) (.mk l' b' ys)) := by rw [hn, hm, hn', hm']; exact ⟨h1, h2⟩
    have hbt1 : Byt b ∧ BytL xs := by unfold BytT at t1; exact t1
    have hbt2 : Byt b' ∧ BytL ys := by unfold BytT at t2; exact t2
    have HBT : Hid (Byt b ∧ BytL xs ∧ Byt b' ∧ BytL ys) := ⟨hbt1.1, hbt1.2, hbt2⟩
    have IH : Hid (∀ x ∈ xs, ∀ y, SameD x y) := ih
    rw [← hn] at i1 i3
    rw [← hn'] at i4 i6
    rw [← hn, ← hm, ← hn', ← hm']
    have hb2 : Below w.heap.size w ((w.alloc (.cells #[.bool l, .slice a1 m c1, .slice d1 n e1] 31)).alloc (.cells #[.bool l', .slice a2 m' c2, .slice d2 n' e2] 31)) := by go_grown
    have k1 := H1.out.1.up hb2
    have k2 := H1.out.2.up hb2
    have HNN : Hid (n = xs.length ∧ n' = ys.length) := ⟨hn, hn'⟩
    obtain ⟨PP, hPP⟩ : ∃ PP : Prop, PP = (Tr.mk l b xs = Tr.mk l' b' ys) := ⟨_, rfl⟩
    rw [← hPP]
    have HPP : Hid (PP = (Tr.mk l b xs = Tr.mk l' b' ys)) := hPP
    have HE : Hid _ := equal_any k1.b.is k2.b.is HBT.out.1 HBT.out.2.2.1
    have HF : Hid _ := eqf_any xs ys IH.out _ _ _ k1.xs k2.xs HBT.out.2.1 HBT.out.2.2.2
    have HB : Hid (Below w.heap.size w ((w.alloc (.cells #[.bool l, .slice a1 m c1, .slice d1 n e1] 31)).alloc (.cells #[.bool l', .slice a2 m' c2, .slice d2 n' e2] 31))) := hb2
    clear h1 h2 ih hn hm hn' hm' t1 t2 hbt1 hbt2 k1 k2 hb2 hPP H1 HBT IH HNN
    by_cases hl : l = l'
    · subst hl
      have hll : (l == l) = true := by simp
      go_enter Try.func27, Try.ntmps27
      go_wp2_with fail
      refine Calls.mono HE.out ?_
      rintro e w2 ⟨⟨r, rfl, hr⟩, hw2⟩
      subst hw2
      cases r with
      | false =>
        have HX : Hid (¬ PP) := by show ¬ PP; rw [HPP.out]; intro e; injection e with _ e _; have := hr.2 e; cases this
        clear hr HF
        go_wp2
        go_ret
        exact ⟨HB.out, BR.no HX.out⟩
      | true =>
        have HX : Hid (b = b') := hr.1 rfl
        clear hr
        go_wp2_with fail
        refine Calls.mono HF.out ?_
        rintro e w3 ⟨hb3, r, rfl, hr⟩
        have H3 : Hid (Below w.heap.size w w3 ∧ (r = true ↔ PP)) := ⟨HB.out.trans (hb3.mono HB.out.size), by rw [hr, HPP.out, HX.out]; exact ⟨fun e => by rw [e], fun e => by injection e⟩⟩
        clear hb3 hr HF
        go_wp2
        go_ret
        exact ⟨H3.out.1, ⟨_, rfl, by first | exact H3.out.2 | simpa using H3.out.2⟩⟩
    · have hll : (l == l') = false := by simpa using hl
      have HX : Hid (¬ PP) := by show ¬ PP; rw [HPP.out]; intro e; injection e with e _ _; exact hl e
      clear HE HF hl
      go_enter Try.func27, Try.ntmps27
      go_wp2
      go_ret
      exact ⟨HB.out, BR.no HX.out⟩
set_option maxRecDepth 100000 in
set_option maxHeartbeats 8000000 in
theorem rsame_any (x : Tr) : ∀ y, RSameD x y := by
  induction x using Tr.ind with
  | h l b xs ih =>
    intro y
    obtain ⟨l', b', ys⟩ := y
    intro w sb1 si1 sb2 si2 h1 h2 t1 t2
    show Calls Try.prog 17 #[.agg #[.bool l, sb1, si1], .agg #[.bool l', sb2, si2]] w _
    obtain ⟨a1, c1, rfl⟩ : ∃ a cap, sb1 = .slice a b.length cap := h1.b.is.form
    obtain ⟨a2, c2, rfl⟩ : ∃ a cap, sb2 = .slice a b'.length cap := h2.b.is.form
    obtain ⟨d1, e1, rfl, i1, i2, i3⟩ : ∃ a cap, si1 = .slice a xs.length cap ∧ xs.length ≤ cap ∧ cap ≤ 9223372036854775807 ∧ xs.length * 56 ≤ 140737488355328 := h1.xs.form
    obtain ⟨d2, e2, rfl, i4, i5, i6⟩ : ∃ a cap, si2 = .slice a ys.length cap ∧ ys.length ≤ cap ∧ cap ≤ 9223372036854775807 ∧ ys.length * 56 ≤ 140737488355328 := h2.xs.form
    obtain ⟨n, hn⟩ : ∃ n, n = xs.length := ⟨_, rfl⟩
    obtain ⟨m, hm⟩ : ∃ m, m = b.length := ⟨_, rfl⟩
    obtain ⟨n', hn'⟩ : ∃ n', n' = ys.length := ⟨_, rfl⟩
    obtain ⟨m', hm'⟩ : ∃ m', m' = b'.length := ⟨_, rfl⟩
    have H1 : Hid (ItV w (fun b => b < w.heap.size) (.slice a1 m c1) (.slice d1 n e1) (.mk l b xs) ∧ ItV w (fun b => b < w.heap.size) (.slice a2 m' c2) (.slice d2 n' e2) (.mk l' b' ys)) := by rw [hn, hm, hn', hm']; exact ⟨h1, h2⟩
    have hbt1 : Byt b ∧ BytL xs := by unfold BytT at t1; exact t1
    have hbt2 : Byt b' ∧ BytL ys := by unfold BytT at t2; exact t2
    have HBT : Hid (Byt b ∧ BytL xs ∧ Byt b' ∧ BytL ys) := ⟨hbt1.1, hbt1.2, hbt2⟩
    have IH : Hid (∀ x ∈ xs, ∀ y, RSameD x y) := ih
    rw [← hn] at i1 i3
    rw [← hn'] at i4 i6
    rw [← hn, ← hm, ← hn', ← hm']
    have hb2 : Below w.heap.size w ((w.alloc (.cells #[.bool l, .slice a1 m c1, .slice d1 n e1] 25)).alloc (.cells #[.bool l', .slice a2 m' c2, .slice d2 n' e2] 25)) := by go_grown
    have k1 := H1.out.1.up hb2
    have k2 := H1.out.2.up hb2
    have HNN : Hid (n = xs.length ∧ n' = ys.length) := ⟨hn, hn'⟩
    obtain ⟨PP, hPP⟩ : ∃ PP : Prop, PP = (Tr.mk l b xs = Tr.mk l' b' ys) := ⟨_, rfl⟩
    rw [← hPP]
    have HPP : Hid (PP = (Tr.mk l b xs = Tr.mk l' b' ys)) := hPP
    have v1 : (convert 22 9 (.slice a1 m c1)).run Try.prog ((w.alloc (.cells #[.bool l, .slice a1 m c1, .slice d1 n e1] 25)).alloc (.cells #[.bool l', .slice a2 m' c2, .slice d2 n' e2] 25)) = .ok (.string (strOfNums b)) ((w.alloc (.cells #[.bool l, .slice a1 m c1, .slice d1 n e1] 25)).alloc (.cells #[.bool l', .slice a2 m' c2, .slice d2 n' e2] 25)) := conv_b k1.b.is
    have v2 : (convert 22 9 (.slice a2 m' c2)).run Try.prog ((w.alloc (.cells #[.bool l, .slice a1 m c1, .slice d1 n e1] 25)).alloc (.cells #[.bool l', .slice a2 m' c2, .slice d2 n' e2] 25)) = .ok (.string (strOfNums b')) ((w.alloc (.cells #[.bool l, .slice a1 m c1, .slice d1 n e1] 25)).alloc (.cells #[.bool l', .slice a2 m' c2, .slice d2 n' e2] 25)) := conv_b k2.b.is
    have hW := allocs_heap [Obj.cells #[.bool l, .slice a1 m c1, .slice d1 n e1] 25, .cells #[.bool l', .slice a2 m' c2, .slice d2 n' e2] 25] w
    have HB : Hid (Below w.heap.size w ((w.alloc (.cells #[.bool l, .slice a1 m c1, .slice d1 n e1] 25)).alloc (.cells #[.bool l', .slice a2 m' c2, .slice d2 n' e2] 25)) ∧ ((w.alloc (.cells #[.bool l, .slice a1 m c1, .slice d1 n e1] 25)).alloc (.cells #[.bool l', .slice a2 m' c2, .slice d2 n' e2] 25)).heap[w.heap.size]? = some (.cells #[.bool l, .slice a1 m c1, .slice d1 n e1] 25) ∧ ((w.alloc (.cells #[.bool l, .slice a1 m c1, .slice d1 n e1] 25)).alloc (.cells #[.bool l', .slice a2 m' c2, .slice d2 n' e2] 25)).heap[w.heap.size + 1]? = some (.cells #[.bool l', .slice a2 m' c2, .slice d2 n' e2] 25)) := ⟨hb2, hW 0 _ rfl, hW 1 _ rfl⟩
    clear h1 h2 ih hn hm hn' hm' t1 t2 hbt1 hbt2 k1 k2 hb2 hPP hW
    by_cases hl : l = l'
    · subst hl
      have hll : (l == l) = true := by simp
      by_cases hbb : b = b'
      · subst hbb
        by_cases hnn : n = n'
        · subst hnn
          have HN : Hid (n = xs.length ∧ n = ys.length) := HNN.out
          go_enter Try.func17, Try.ntmps17
          go_wp2_with fail
          go_loopw [5] (fun i wr => ∃ (j : Nat), j ≤ n ∧ i = .int .i64 j ∧ Below w.heap.size w wr ∧ wr.heap[w.heap.size]? = some (.cells #[.bool l, .slice a1 m c1, .slice d1 n e1] 25) ∧ wr.heap[w.heap.size + 1]? = some (.cells #[.bool l, .slice a2 m' c2, .slice d2 n e2] 25) ∧ xs.take j = ys.take j) (fun i _ => n - (intOf i).toNat)
          case atStart => exact ⟨0, Nat.zero_le _, rfl, HB.out.1, HB.out.2.1, HB.out.2.2, rfl⟩
          case round =>
            obtain ⟨j, hj, rfl, hb, k1, k2, htk⟩ := hrel
            have HT : Hid (xs.take j = ys.take j) := htk
            clear v1 v2 HB htk
            by_cases hjl : j < n
            · obtain ⟨x, hx⟩ : ∃ x, xs[j]? = some x := ⟨_, List.getElem?_eq_getElem (by have := HN.out.1; omega)⟩
              obtain ⟨y, hy⟩ : ∃ y, ys[j]? = some y := ⟨_, List.getElem?_eq_getElem (by have := HN.out.2; omega)⟩
              obtain ⟨g, o, sb', si', rfl, hg, p0, p1, p2, hbb, hii⟩ := H1.out.1.xs.at hx
              obtain ⟨g', o', sb'', si'', rfl, hg', q0, q1, q2, hbb', hii'⟩ := H1.out.2.xs.at hy
              obtain ⟨ab, cb, rfl⟩ := hbb.is.form
              obtain ⟨ai, ci, rfl, -⟩ := hii.form
              obtain ⟨ab', cb', rfl⟩ := hbb'.is.form
              obtain ⟨ai', ci', rfl, -⟩ := hii'.form
              obtain ⟨xl, hxl⟩ : ∃ xl, xl = x.l := ⟨_, rfl⟩
              obtain ⟨xn, hxn⟩ : ∃ xn, xn = x.b.length := ⟨_, rfl⟩
              obtain ⟨xm, hxm⟩ : ∃ xm, xm = x.xs.length := ⟨_, rfl⟩
              obtain ⟨yl, hyl⟩ : ∃ yl, yl = y.l := ⟨_, rfl⟩
              obtain ⟨yn, hyn⟩ : ∃ yn, yn = y.b.length := ⟨_, rfl⟩
              obtain ⟨ym, hym⟩ : ∃ ym, ym = y.xs.length := ⟨_, rfl⟩
              rw [← hxl] at p0
              rw [← hxn] at p1
              rw [← hxm] at p2
              rw [← hyl] at q0
              rw [← hyn] at q1
              rw [← hym] at q2
              have HXY : Hid (xs[j]? = some x ∧ ys[j]? = some y) := ⟨hx, hy⟩
              have e0 : wr.cell? ⟨w.heap.size, 2, none⟩ = some (.slice (some ⟨g, o, none⟩) n e1) := (cell_of_block k1 2).trans rfl
              have hS0 : (fun w' => w'.cell? ⟨w.heap.size, 2, none⟩ = some (.slice (some ⟨g, o, none⟩) n e1) ∧ w'.cell? ⟨w.heap.size + 1, 2, none⟩ = some (.slice (some ⟨g', o', none⟩) n e2) ∧ w'.cell? ⟨g, o + j * 3, none⟩ = some (.bool xl) ∧ w'.cell? ⟨g, o + j * 3 + 1, none⟩ = some (.slice ab xn cb) ∧ w'.cell? ⟨g, o + j * 3 + 2, none⟩ = some (.slice ai xm ci) ∧ w'.cell? ⟨g', o' + j * 3, none⟩ = some (.bool yl) ∧ w'.cell? ⟨g', o' + j * 3 + 1, none⟩ = some (.slice ab' yn cb') ∧ w'.cell? ⟨g', o' + j * 3 + 2, none⟩ = some (.slice ai' ym ci')) wr.drew := ⟨e0, (cell_of_block k2 2).trans rfl, (hb.cell (p := ⟨g, o + j * 3, none⟩) hg).trans p0, (hb.cell (p := ⟨g, o + j * 3 + 1, none⟩) hg).trans p1, (hb.cell (p := ⟨g, o + j * 3 + 2, none⟩) hg).trans p2, (hb.cell (p := ⟨g', o' + j * 3, none⟩) hg').trans q0, (hb.cell (p := ⟨g', o' + j * 3 + 1, none⟩) hg').trans q1, (hb.cell (p := ⟨g', o' + j * 3 + 2, none⟩) hg').trans q2⟩
              have hm1 : ∀ {s t : Value} {z : Tr}, ItV w (fun b => b < w.heap.size) s t z → ItV wr.drew (fun b => b < wr.drew.heap.size) s t z := fun h => h.mono (fun b hb' => hb.block b hb') (fun b hb' => Nat.lt_of_lt_of_le hb' hb.size)
              have hC := IH.out x (List.mem_of_getElem? hx) y wr.drew (.slice ab x.b.length cb) (.slice ai x.xs.length ci) (.slice ab' y.b.length cb') (.slice ai' y.xs.length ci') (hm1 ⟨hbb, hii⟩) (hm1 ⟨hbb', hii'⟩) ((BytL_iff xs).1 HBT.out.2.1 x (List.mem_of_getElem? hx)) ((BytL_iff ys).1 HBT.out.2.2.2 y (List.mem_of_getElem? hy))
              rw [← hxl, ← hxn, ← hxm, ← hyl, ← hyn, ← hym] at hC
              have HC : Hid _ := hC
              have HR : Hid (Below w.heap.size w wr ∧ wr.heap[w.heap.size]? = some (.cells #[.bool l, .slice a1 m c1, .slice (some ⟨g, o, none⟩) n e1] 25) ∧ wr.heap[w.heap.size + 1]? = some (.cells #[.bool l, .slice a2 m' c2, .slice (some ⟨g', o', none⟩) n e2] 25)) := ⟨hb, k1, k2⟩
              have hki : (j : Int) < n := by omega
              clear hC hm1 hx hy hb k1 k2 hbb hii hbb' hii' hxl hxn hxm hyl hyn hym hg hg' p0 p1 p2 q0 q1 q2
              go_wp2_with fail
              refine wp_noP ?_
              refine wp_region_held_drew (S := (fun w' => w'.cell? ⟨w.heap.size, 2, none⟩ = some (.slice (some ⟨g, o, none⟩) n e1) ∧ w'.cell? ⟨w.heap.size + 1, 2, none⟩ = some (.slice (some ⟨g', o', none⟩) n e2) ∧ w'.cell? ⟨g, o + j * 3, none⟩ = some (.bool xl) ∧ w'.cell? ⟨g, o + j * 3 + 1, none⟩ = some (.slice ab xn cb) ∧ w'.cell? ⟨g, o + j * 3 + 2, none⟩ = some (.slice ai xm ci) ∧ w'.cell? ⟨g', o' + j * 3, none⟩ = some (.bool yl) ∧ w'.cell? ⟨g', o' + j * 3 + 1, none⟩ = some (.slice ab' yn cb') ∧ w'.cell? ⟨g', o' + j * 3 + 2, none⟩ = some (.slice ai' ym ci'))) (by kernel_rfl) hS0 (fun hHeld => ?_)
              refine wpAnyH_take (i := 0) (v := .pointer (some ⟨w.heap.size, 2, none⟩)) rfl (by kernel_rfl) (by kernel_rfl) (by kernel_rfl) (fun _ _ _ h => h) (Or.inl ⟨by rfl, fun w9 hSw => ?_⟩) hHeld ?_
              · go_simp
              simp only [List.getElem_toArray, List.getElem_cons_succ, List.getElem_cons_zero, Act.put, List.setIfInBounds_toArray, List.set_cons_zero, List.set_cons_succ]
              refine wpAnyH_take (i := 1) (v := .slice (some ⟨g, o, none⟩) n e1) rfl (by kernel_rfl) (by kernel_rfl) (by kernel_rfl) (fun _ _ _ h => h) (Or.inl ⟨by rfl, fun w9 hSw => ?_⟩) hHeld ?_
              · have x0 := hSw.1
                have x1 := hSw.2.1
                have x2 := hSw.2.2.1
                have x3 := hSw.2.2.2.1
                have x4 := hSw.2.2.2.2.1
                have x5 := hSw.2.2.2.2.2.1
                have x6 := hSw.2.2.2.2.2.2.1
                have x7 := hSw.2.2.2.2.2.2.2
                go_simp
              simp only [List.getElem_toArray, List.getElem_cons_succ, List.getElem_cons_zero, Act.put, List.setIfInBounds_toArray, List.set_cons_zero, List.set_cons_succ]
              refine wpAnyH_take (i := 2) (v := .int .i64 j) rfl (by kernel_rfl) (by kernel_rfl) (by kernel_rfl) (fun _ _ _ h => h) (Or.inl ⟨by rfl, fun w9 hSw => ?_⟩) hHeld ?_
              · go_simp
              simp only [List.getElem_toArray, List.getElem_cons_succ, List.getElem_cons_zero, Act.put, List.setIfInBounds_toArray, List.set_cons_zero, List.set_cons_succ]
              refine wpAnyH_take (i := 3) (v := .pointer (some ⟨g, o + j * 3, none⟩)) rfl (by kernel_rfl) (by kernel_rfl) (by kernel_rfl) (fun _ _ _ h => h) (Or.inl ⟨by rfl, fun w9 hSw => ?_⟩) hHeld ?_
              · go_simp
              simp only [List.getElem_toArray, List.getElem_cons_succ, List.getElem_cons_zero, Act.put, List.setIfInBounds_toArray, List.set_cons_zero, List.set_cons_succ]
              refine wpAnyH_take (i := 4) (v := .agg #[.bool xl, .slice ab xn cb, .slice ai xm ci]) rfl (by kernel_rfl) (by kernel_rfl) (by kernel_rfl) (fun _ _ _ h => h) (Or.inl ⟨by rfl, fun w9 hSw => ?_⟩) hHeld ?_
              · have x0 := hSw.1
                have x1 := hSw.2.1
                have x2 := hSw.2.2.1
                have x3 := hSw.2.2.2.1
                have x4 := hSw.2.2.2.2.1
                have x5 := hSw.2.2.2.2.2.1
                have x6 := hSw.2.2.2.2.2.2.1
                have x7 := hSw.2.2.2.2.2.2.2
                go_simp
              simp only [List.getElem_toArray, List.getElem_cons_succ, List.getElem_cons_zero, Act.put, List.setIfInBounds_toArray, List.set_cons_zero, List.set_cons_succ]
              refine wpAnyH_take (i := 5) (v := .pointer (some ⟨w.heap.size + 1, 2, none⟩)) rfl (by kernel_rfl) (by kernel_rfl) (by kernel_rfl) (fun _ _ _ h => h) (Or.inl ⟨by rfl, fun w9 hSw => ?_⟩) hHeld ?_
              · go_simp
              simp only [List.getElem_toArray, List.getElem_cons_succ, List.getElem_cons_zero, Act.put, List.setIfInBounds_toArray, List.set_cons_zero, List.set_cons_succ]
              refine wpAnyH_take (i := 6) (v := .slice (some ⟨g', o', none⟩) n e2) rfl (by kernel_rfl) (by kernel_rfl) (by kernel_rfl) (fun _ _ _ h => h) (Or.inl ⟨by rfl, fun w9 hSw => ?_⟩) hHeld ?_
              · have x0 := hSw.1
                have x1 := hSw.2.1
                have x2 := hSw.2.2.1
                have x3 := hSw.2.2.2.1
                have x4 := hSw.2.2.2.2.1
                have x5 := hSw.2.2.2.2.2.1
                have x6 := hSw.2.2.2.2.2.2.1
                have x7 := hSw.2.2.2.2.2.2.2
                go_simp
              simp only [List.getElem_toArray, List.getElem_cons_succ, List.getElem_cons_zero, Act.put, List.setIfInBounds_toArray, List.set_cons_zero, List.set_cons_succ]
              refine wpAnyH_take (i := 7) (v := .int .i64 j) rfl (by kernel_rfl) (by kernel_rfl) (by kernel_rfl) (fun _ _ _ h => h) (Or.inl ⟨by rfl, fun w9 hSw => ?_⟩) hHeld ?_
              · go_simp
              simp only [List.getElem_toArray, List.getElem_cons_succ, List.getElem_cons_zero, Act.put, List.setIfInBounds_toArray, List.set_cons_zero, List.set_cons_succ]
              refine wpAnyH_take (i := 8) (v := .pointer (some ⟨g', o' + j * 3, none⟩)) rfl (by kernel_rfl) (by kernel_rfl) (by kernel_rfl) (fun _ _ _ h => h) (Or.inl ⟨by rfl, fun w9 hSw => ?_⟩) hHeld ?_
              · go_simp
              simp only [List.getElem_toArray, List.getElem_cons_succ, List.getElem_cons_zero, Act.put, List.setIfInBounds_toArray, List.set_cons_zero, List.set_cons_succ]
              refine wpAnyH_take (i := 9) (v := .agg #[.bool yl, .slice ab' yn cb', .slice ai' ym ci']) rfl (by kernel_rfl) (by kernel_rfl) (by kernel_rfl) (fun _ _ _ h => h) (Or.inl ⟨by rfl, fun w9 hSw => ?_⟩) hHeld ?_
              · have x0 := hSw.1
                have x1 := hSw.2.1
                have x2 := hSw.2.2.1
                have x3 := hSw.2.2.2.1
                have x4 := hSw.2.2.2.2.1
                have x5 := hSw.2.2.2.2.2.1
                have x6 := hSw.2.2.2.2.2.2.1
                have x7 := hSw.2.2.2.2.2.2.2
                go_simp
              simp only [List.getElem_toArray, List.getElem_cons_succ, List.getElem_cons_zero, Act.put, List.setIfInBounds_toArray, List.set_cons_zero, List.set_cons_succ]
              refine wpAnyH_ready (rs := [10]) (by kernel_rfl) (by simp) ?_
              refine AllReadyH.cons rfl (fun K hK => ?_) AllReadyH.nil
              go_simp
              refine Calls.mono HC.out ?_
              rintro e w2 ⟨hb2, r, rfl, hr⟩
              have hS2 : (fun w' => w'.cell? ⟨w.heap.size, 2, none⟩ = some (.slice (some ⟨g, o, none⟩) n e1) ∧ w'.cell? ⟨w.heap.size + 1, 2, none⟩ = some (.slice (some ⟨g', o', none⟩) n e2) ∧ w'.cell? ⟨g, o + j * 3, none⟩ = some (.bool xl) ∧ w'.cell? ⟨g, o + j * 3 + 1, none⟩ = some (.slice ab xn cb) ∧ w'.cell? ⟨g, o + j * 3 + 2, none⟩ = some (.slice ai xm ci) ∧ w'.cell? ⟨g', o' + j * 3, none⟩ = some (.bool yl) ∧ w'.cell? ⟨g', o' + j * 3 + 1, none⟩ = some (.slice ab' yn cb') ∧ w'.cell? ⟨g', o' + j * 3 + 2, none⟩ = some (.slice ai' ym ci')) w2 := ⟨(hb2.cell (cell_lt hHeld.1)).trans hHeld.1, (hb2.cell (cell_lt hHeld.2.1)).trans hHeld.2.1, (hb2.cell (cell_lt hHeld.2.2.1)).trans hHeld.2.2.1, (hb2.cell (cell_lt hHeld.2.2.2.1)).trans hHeld.2.2.2.1, (hb2.cell (cell_lt hHeld.2.2.2.2.1)).trans hHeld.2.2.2.2.1, (hb2.cell (cell_lt hHeld.2.2.2.2.2.1)).trans hHeld.2.2.2.2.2.1, (hb2.cell (cell_lt hHeld.2.2.2.2.2.2.1)).trans hHeld.2.2.2.2.2.2.1, (hb2.cell (cell_lt hHeld.2.2.2.2.2.2.2)).trans hHeld.2.2.2.2.2.2.2⟩
              have hb2' : Below wr.heap.size wr w2 := ⟨hb2.os, hb2.tape, hb2.output, hb2.size, hb2.block⟩
              have H2 : Hid (Below w.heap.size w w2 ∧ w2.heap[w.heap.size]? = some (.cells #[.bool l, .slice a1 m c1, .slice (some ⟨g, o, none⟩) n e1] 25) ∧ w2.heap[w.heap.size + 1]? = some (.cells #[.bool l, .slice a2 m' c2, .slice (some ⟨g', o', none⟩) n e2] 25)) := ⟨HR.out.1.trans (hb2'.mono HR.out.1.size), (hb2'.block _ (heap_lt HR.out.2.1)).trans HR.out.2.1, (hb2'.block _ (heap_lt HR.out.2.2)).trans HR.out.2.2⟩
              have HRR : Hid (r = true ↔ x = y) := hr
              clear hb2 hb2' hr
              cases r with
              | true =>
                have HXE : Hid (x = y) := HRR.out.1 rfl
                clear HRR
                refine hK.out _ _ hS2 (fun hHeld => ?_)
                clear hK K
                try simp only [List.getElem_toArray, List.getElem_cons_succ, List.getElem_cons_zero, Act.put, List.setIfInBounds_toArray, List.set_cons_zero, List.set_cons_succ]
                refine wpAnyH_take (i := 11) (v := .bool false) rfl (by kernel_rfl) (by kernel_rfl) (by kernel_rfl) (fun _ _ _ h => h) (Or.inl ⟨by rfl, fun w9 hSw => ?_⟩) hHeld ?_
                · go_simp
                simp only [List.getElem_toArray, List.getElem_cons_succ, List.getElem_cons_zero, Act.put, List.setIfInBounds_toArray, List.set_cons_zero, List.set_cons_succ]
                refine wpAnyH_done (by kernel_rfl) ?_ _
                simp only [noP]
                clear hHeld hS2 hS0
                go_wp2
                go_roundw
                case rel => exact ⟨j + 1, by omega, by go_num, H2.out.1, H2.out.2.1, H2.out.2.2, by rw [take_snoc HXY.out.1, take_snoc HXY.out.2, HT.out, HXE.out]⟩
                case measure => simp [intOf]; omega
              | false =>
                have HXE : Hid (x ≠ y) := fun e => by have := HRR.out.2 e; cases this
                clear HRR
                refine hK.out _ _ hS2 (fun hHeld => ?_)
                clear hK K
                try simp only [List.getElem_toArray, List.getElem_cons_succ, List.getElem_cons_zero, Act.put, List.setIfInBounds_toArray, List.set_cons_zero, List.set_cons_succ]
                refine wpAnyH_take (i := 11) (v := .bool true) rfl (by kernel_rfl) (by kernel_rfl) (by kernel_rfl) (fun _ _ _ h => h) (Or.inl ⟨by rfl, fun w9 hSw => ?_⟩) hHeld ?_
                · go_simp
                simp only [List.getElem_toArray, List.getElem_cons_succ, List.getElem_cons_zero, Act.put, List.setIfInBounds_toArray, List.set_cons_zero, List.set_cons_succ]
                refine wpAnyH_done (by kernel_rfl) ?_ _
                simp only [noP]
                clear hHeld hS2 hS0
                go_wp2
                go_ret
                exact ⟨H2.out.1, BR.no (by rw [HPP.out]; intro e; injection e with _ _ e; exact take_ne HXY.out.1 HXY.out.2 HXE.out e)⟩
            · have hki : ¬ (j : Int) < n := by omega
              have e0 : wr.cell? ⟨w.heap.size, 2, none⟩ = some (.slice d1 n e1) := (cell_of_block k1 2).trans rfl
              have H3 : Hid (Below w.heap.size w wr ∧ xs = ys) := ⟨hb, by
                have h9 := HT.out
                rw [List.take_of_length_le (by have := HN.out.1; omega), List.take_of_length_le (by have := HN.out.2; omega)] at h9
                exact h9⟩
              clear hb k1 k2 HT
              go_wp2
              go_ret
              exact ⟨H3.out.1, BR.yes (by rw [HPP.out, H3.out.2])⟩
        · have hne : ((n : Int) != n') = true := by simp; omega
          have HX : Hid (¬ PP) := by show ¬ PP; rw [HPP.out]; intro e; injection e with _ _ e; exact hnn (by rw [HNN.out.1, HNN.out.2, e])
          go_enter Try.func17, Try.ntmps17
          go_wp2
          go_ret
          exact ⟨HB.out.1, BR.no HX.out⟩
      · have h3 := str_ne HBT.out.1 HBT.out.2.2.1 hbb
        have HX : Hid (¬ PP) := by show ¬ PP; rw [HPP.out]; intro e; injection e with _ e _; exact hbb e
        clear hbb
        go_enter Try.func17, Try.ntmps17
        go_wp2
        go_ret
        exact ⟨HB.out.1, BR.no HX.out⟩
    · have hll : (l == l') = false := by simpa using hl
      have HX : Hid (¬ PP) := by show ¬ PP; rw [HPP.out]; intro e; injection e with e _ _; exact hl e
      clear hl
      go_enter Try.func17, Try.ntmps17
      go_wp2
      go_ret
      exact ⟨HB.out.1, BR.no HX.out⟩
end Go.Proofs.Ytmnlcpfehbpogaa
