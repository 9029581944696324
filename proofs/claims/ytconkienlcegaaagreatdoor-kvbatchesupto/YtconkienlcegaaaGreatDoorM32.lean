/- KJ, KY, laid into one text. -/
import Derived.Test.YtconkienlcegaaaGreatDoorM24
import Derived.Test.YtconkienlcegaaaGreatDoorKX
/- kv: what a nil store says. -/
namespace Go.Proofs.YtconkienlcegaaaGreatDoor
open Go.RowKit Go.Maps Go.Joins Go.Shelf
set_option linter.unusedSimpArgs false
set_option linter.unusedVariables false
theorem kput_nil (w : World) (a : Option Addr) (n c : Nat) : Calls Tryz.prog 13 #[.pointer none, .slice a n c] w fun e w' => e = .returned (.int .i64 2) ∧ w' = w := by
  go_enter Tryz.func13, Tryz.ntmps13
  go_wp2
  go_ret
  exact ⟨rfl, rfl⟩
theorem ksnap_nil (w : World) : Calls Tryz.prog 16 #[.pointer none] w fun e w' => e = .returned (.int .i64 2) ∧ w' = w := by
  go_enter Tryz.func16, Tryz.ntmps16
  go_wp2
  go_ret
  exact ⟨rfl, rfl⟩
theorem kget_nil (w : World) (a : Option Addr) (n c : Nat) : Calls Tryz.prog 24 #[.pointer none, .slice a n c] w fun e w' => e = .returned (.tuple #[.slice none 0 0, .bool false]) ∧ w' = w := by
  go_enter Tryz.func24, Tryz.ntmps24
  go_wp2
  go_ret2
  exact ⟨rfl, rfl⟩
theorem klen_nil (w : World) : Calls Tryz.prog 27 #[.pointer none] w fun e w' => e = .returned (.int .i64 0) ∧ w' = w := by
  go_enter Tryz.func27, Tryz.ntmps27
  go_wp2
  go_ret
  exact ⟨rfl, rfl⟩
theorem krange_nil (w : World) (a a' : Option Addr) (n c n' c' : Nat) : Calls Tryz.prog 29 #[.pointer none, .slice a n c, .slice a' n' c'] w fun e w' => Below w.heap.size w w' ∧ e = .returned (.slice none 0 0) := by
  refine (callsIn_wide (n := 4)).1 ?_
  refine callsIn_of_wp_marks Tryz.func29 rfl trivial ?_ rfl
  simp only [Tryz.ntmps29, List.size_toArray, List.length_cons, List.length_nil, Nat.reduceAdd, Nat.reduceSub, Array.replicate_succ, Array.replicate_zero, List.push_toArray, List.append_toArray, List.nil_append, List.cons_append]
  refine wpIn_wide.2 ?_
  go_wp2
  refine ⟨by first | rfl | exact .slice none 0 0, ?_⟩
  first | exact ⟨by simp [results, Tryz.results29], Below.refl _ _, rfl⟩ | exact ⟨.slice none 0 0, by simp [results, Tryz.results29], Below.refl _ _, rfl⟩
end Go.Proofs.YtconkienlcegaaaGreatDoor
/- kv: KvBack's walk. -/
namespace Go.Proofs.YtconkienlcegaaaGreatDoor
open Go.RowKit Go.Maps Go.Joins Go.Shelf
set_option linter.unusedSimpArgs false
set_option linter.unusedVariables false
/-- A change that is gone has no value. -/
def normC (c : Ch) : Ch := if c.gone then { c with val := [] } else c
theorem info83b : (Tryz.prog.info? 83).map (fun i => (i.zero, i.size, i.bytes)) = some (some (.agg #[.slice none 0 0, .slice none 0 0, .bool false]), 3, 56) := by kernel_rfl
theorem info83c : ∃ i, Tryz.prog.info? 83 = some i ∧ i.zero = some (.agg #[.slice none 0 0, .slice none 0 0, .bool false]) ∧ i.size = 3 ∧ i.bytes = 56 := by
  have := info83b
  cases h : Tryz.prog.info? 83 with
  | none => rw [h] at this; cases this
  | some i =>
    rw [h] at this
    simp at this
    exact ⟨i, rfl, this.1, this.2.1, this.2.2⟩
theorem ciL_length : ∀ A : List CI, (ciL A).length = A.length * 3
  | [] => rfl
  | g :: A => by
    show (ciC g ++ ciL A).length = _
    rw [List.length_append, ciL_length A]
    simp [ciC]; omega
theorem ciL_one {A : List CI} (h : ∀ f ∈ A, (∃ a l c, f.vk = .slice a l c) ∧ ∃ a l c, f.vv = .slice a l c) : ∀ u ∈ ciL A, u.oneCell' = true := fun u hu => by
  unfold ciL at hu
  rw [List.mem_flatMap] at hu
  obtain ⟨x, hx, hu⟩ := hu
  obtain ⟨⟨_, _, _, e1⟩, ⟨_, _, _, e2⟩⟩ := h x hx
  simp only [ciC, List.mem_cons, List.not_mem_nil, or_false] at hu
  rcases hu with rfl | rfl | rfl
  · rw [e1]; rfl
  · rw [e2]; rfl
  · rfl
theorem ciL_take {A : List CI} {k j : Nat} {u : Value} (h : (ciL (A.take k))[j]? = some u) : (ciL A)[j]? = some u := by
  have e : ciL A = ciL (A.take k) ++ ciL (A.drop k) := by rw [← ciL_append, List.take_append_drop]
  rw [e, List.getElem?_append_left (List.getElem?_eq_some_iff.1 h).1]
  exact h
theorem ciL_drop {A : List CI} {k j : Nat} {u : Value} (hk : k ≤ A.length) (h : (ciL (A.drop k))[j]? = some u) : (ciL A)[k * 3 + j]? = some u := by
  have e : ciL A = ciL (A.take k) ++ ciL (A.drop k) := by rw [← ciL_append, List.take_append_drop]
  have hl : (ciL (A.take k)).length = k * 3 := by rw [ciL_length, List.length_take, Nat.min_eq_left hk]
  rw [e, List.getElem?_append_right (by rw [hl]; omega), hl, Nat.add_sub_cancel_left]
  exact h
/-- append of changes, as a step of a region. -/
theorem step_append_rs {w : World} {ops : Array Oper} {op : Oper} {a : Act} {K : Act → World → Prop} {Q : Exit → Act → World → Prop} {E : Prop} (hgd : op.guard = none) (s x : Operand)
    (ho : op.op = .call { callee := .builtin .append, args := #[s, x], argTypes := #[37, 37] }) {base : Nat} {v : Value} {B : List CI} (hs : a.eval s = v) (hown : w.ownsRow base 83 3 v B.length (ciL B))
    {g o m c : Nat} (hx : a.eval x = .slice (some ⟨g, o, none⟩) m c) (A : List CI) (hl : A.length = m) (hnews : ∀ j u, (ciL A)[j]? = some u → w.cell? ⟨g, o + j, none⟩ = some u) (h1 : ∀ f ∈ A, (∃ a l c, f.vk = .slice a l c) ∧ ∃ a l c, f.vv = .slice a l c) (hlen : (B.length + m) * 56 ≤ 140737488355328) (hbase : base ≤ w.heap.size)
    (h : ∀ v' w', w'.ownsRow base 83 3 v' (B.length + m) (ciL (B ++ A)) → w.grownBy w' v.ownBlock → (v'.ownBlock = v.ownBlock ∨ v'.ownBlock = some w.heap.size) → K (a.put op.dst v') w') :
    if Region.wanted op (yielded ops a.tmps) = true then Oper.wp Tryz.prog op a w K Q else E := by
  have hw : Region.wanted op (yielded ops a.tmps) = true := by simp [Region.wanted, hgd]
  rw [if_pos hw]
  obtain ⟨i0, hi0, hz0, hz1, hz2⟩ := info83c
  obtain ⟨v', w', hr, h2, h3, _, h5⟩ := run_append_own_at (P := Tryz.prog) w base 37 op.type 83 i0 _ 3 56 Tryz.underlying37 hi0 hz0 hz1 hz2 rfl (by decide) v B.length (ciL B) hown ⟨g, o, none⟩ m c (ciL A) (by rw [ciL_length, hl]) (fun j u hu => by rw [Addr.add_lit]; exact hnews j u hu) (ciL_one h1) (by unfold maxLen; omega) hlen hbase
  rw [← ciL_append] at h2
  unfold Oper.wp execOp
  simp only [ho, resolve, invoke, builtin, Sem.run_bind, Sem.run_pure, Result.andThen_ok, List.map_toArray, List.map_cons, List.map_nil, hs, hx, hr]
  exact h v' w' h2 h3 h5
theorem row_apart {w : World} {base size n : Nat} {e : TypeId} {v v' u : Value} {xs : List Value} (ha : v'.ownBlock = v.ownBlock ∨ v'.ownBlock = some w.heap.size) (hne : v.ownBlock ≠ u.ownBlock) (hu : w.ownsRow base e size u n xs) : v'.ownBlock ≠ u.ownBlock := fun e9 => by
  rcases ha with ha | ha
  · exact hne (ha.symm.trans e9)
  · rw [ha] at e9
    have := (hu.lt _ e9.symm).2
    omega
/-- Changes, one by one. -/
theorem chs_ci {w : World} {D : Nat → Prop} {a : Option Addr} {n cap : Nat} {cs : List Ch} (h : ChsV w D (.slice a n cap) cs) : ∃ A : List CI, A.map CI.c = cs ∧ (∀ f ∈ A, KBD w D f.vk f.c.key ∧ KBD w D f.vv f.c.val) ∧ (0 < cs.length → ∃ g o, a = some ⟨g, o, none⟩ ∧ D g ∧ ∀ j u, (ciL A)[j]? = some u → w.cell? ⟨g, o + j, none⟩ = some u) := by
  cases h with
  | mk _ _ _ g o kk vv hc hm hl ha hd h0 h1 h2 hk hv =>
    refine ⟨cs.mapIdx (fun i c => ⟨c, kk i, vv i⟩), ?_, ?_, fun hp => ⟨g, o, ha hp, hd hp, fun j u hu => ?_⟩⟩
    · apply List.ext_getElem?
      intro i
      simp
      cases cs[i]? <;> rfl
    · intro f hf
      obtain ⟨i, hi, e⟩ := List.getElem_of_mem hf
      have hi' : i < cs.length := by simpa using hi
      have e2 : f = ⟨cs[i], kk i, vv i⟩ := by rw [← e]; simp
      rw [e2]
      exact ⟨hk i _ (List.getElem?_eq_getElem hi'), hv i _ (List.getElem?_eq_getElem hi')⟩
    · have hj : j < cs.length * 3 := by
        have := (List.getElem?_eq_some_iff.1 hu).1
        rw [ciL_length] at this
        simpa using this
      have hi : j / 3 < cs.length := by omega
      have hA : (cs.mapIdx (fun i c => (⟨c, kk i, vv i⟩ : CI)))[j / 3]? = some ⟨cs[j / 3], kk (j / 3), vv (j / 3)⟩ := by
        rw [List.getElem?_mapIdx, List.getElem?_eq_getElem hi]; rfl
      have h9 := ciL_at _ (j / 3) _ hA (j % 3) (by omega)
      have ej : j / 3 * 3 + j % 3 = j := by omega
      rw [ej, hu] at h9
      have hci := List.getElem?_eq_getElem hi
      rcases (by omega : j % 3 = 0 ∨ j % 3 = 1 ∨ j % 3 = 2) with h3 | h3 | h3
      · rw [h3] at h9
        have := h0 _ _ hci
        rw [show o + j / 3 * 3 = o + j from by omega] at this
        rw [this]; exact h9.symm
      · rw [h3] at h9
        have := h1 _ _ hci
        rw [show o + j / 3 * 3 + 1 = o + j from by omega] at this
        rw [this]; exact h9.symm
      · rw [h3] at h9
        have := h2 _ _ hci
        rw [show o + j / 3 * 3 + 2 = o + j from by omega] at this
        rw [this]; exact h9.symm
/-- A row of the law's changes is changes. -/
theorem row_chs83 {w : World} {base : Nat} {v : Value} {A : List CI} {D : Nat → Prop} (hrow : w.ownsRow base 83 3 v A.length (ciL A)) (hit : ∀ f ∈ A, KBD w D f.vk f.c.key ∧ KBD w D f.vv f.c.val) (hD : ∀ b, v.ownBlock = some b → D b) (hl : A.length * 56 ≤ 140737488355328) : ChsV w D v (A.map CI.c) := by
  have hmap : ∀ i x, (A.map CI.c)[i]? = some x → ∃ f : CI, A[i]? = some f ∧ f.c = x := fun i x hx => by
    rw [List.getElem?_map] at hx
    cases hf : A[i]? with
    | none => rw [hf] at hx; cases hx
    | some f => rw [hf] at hx; injection hx with hx; exact ⟨f, hf, hx⟩
  have hlen : (A.map CI.c).length = A.length := by simp
  have hcells : ∀ g, v.ownBlock = some g → ∀ i f, A[i]? = some f → ∀ j u, (ciC f)[j]? = some u → w.cell? ⟨g, 0 + i * 3 + j, none⟩ = some u := fun g hg i f hf j u hu => by
    have h3 : j < 3 := by
      have := (List.getElem?_eq_some_iff.1 hu).1
      simpa [ciC] using this
    have := hrow.cells hg (i * 3 + j) u (by rw [ciL_at A i f hf j h3]; exact hu)
    rw [Addr.add_lit, ← Nat.add_assoc] at this
    exact this
  rcases hrow.2 with ⟨rfl, h0⟩ | ⟨g, cap, cur, rfl, _, _, h1, h2, _⟩
  · have hA : A = [] := List.eq_nil_of_length_eq_zero h0
    subst hA
    exact .mk [] none 0 0 0 (fun _ => .nilIface) (fun _ => .nilIface) (Nat.le_refl _) (by omega) (by simp) (fun h => by simp at h) (fun h => by simp at h) (fun i x hx => by simp at hx) (fun i x hx => by simp at hx) (fun i x hx => by simp at hx) (fun i x hx => by simp at hx) (fun i x hx => by simp at hx)
  · have := ChsV.mk (w := w) (D := D) (A.map CI.c) (some ⟨g, 0, none⟩) cap g 0 (fun i => ((A[i]?).map CI.vk).getD .nilIface) (fun i => ((A[i]?).map CI.vv).getD .nilIface) (by rw [hlen]; exact h1) (by unfold maxLen at h2; omega) (by rw [hlen]; exact hl)
      (fun _ => rfl) (fun _ => hD g rfl)
      (fun i x hx => by obtain ⟨f, hf, rfl⟩ := hmap i x hx; rw [hf]; exact hcells g rfl i f hf 0 _ rfl)
      (fun i x hx => by obtain ⟨f, hf, rfl⟩ := hmap i x hx; rw [hf]; exact hcells g rfl i f hf 1 _ rfl)
      (fun i x hx => by obtain ⟨f, hf, rfl⟩ := hmap i x hx; exact hcells g rfl i f hf 2 _ rfl)
      (fun i x hx => by obtain ⟨f, hf, rfl⟩ := hmap i x hx; rw [hf]; exact (hit f (List.mem_of_getElem? hf)).1)
      (fun i x hx => by obtain ⟨f, hf, rfl⟩ := hmap i x hx; rw [hf]; exact (hit f (List.mem_of_getElem? hf)).2)
    rw [hlen] at this
    exact this
theorem back_chs {W0 V : World} {v : Value} {A1 A2 : List CI} {F : CI} {n : Nat} (ho : V.ownsRow W0.heap.size 83 3 v n (ciL (A1 ++ F :: A2))) (hbl : Below W0.heap.size W0 V) (hA : ∀ f ∈ A1 ++ A2, KBD W0 (fun x => x < W0.heap.size) f.vk f.c.key ∧ KBD W0 (fun x => x < W0.heap.size) f.vv f.c.val) (hF : KBD W0 (fun x => x < W0.heap.size) F.vk F.c.key ∧ KBD W0 (fun x => x < W0.heap.size) F.vv F.c.val) (hn : n = (A1 ++ F :: A2).length) (hl : n * 56 ≤ 140737488355328) : ChsV V (fun x => x < V.heap.size) v ((A1 ++ F :: A2).map CI.c) := by
  rw [hn] at ho hl
  have hup : ∀ {u : Value} {xs : List Int}, KBD W0 (fun x => x < W0.heap.size) u xs → KBD V (fun x => x < V.heap.size) u xs := fun hk => hk.mono (fun x hx => hbl.block x hx) (fun x hx => Nat.lt_of_lt_of_le hx hbl.size)
  refine row_chs83 ho (fun f hf => ?_) (fun b hb => (ho.lt b hb).2) hl
  rcases List.mem_append.1 hf with h | h
  · exact ⟨hup (hA f (List.mem_append_left _ h)).1, hup (hA f (List.mem_append_left _ h)).2⟩
  · rcases List.mem_cons.1 h with rfl | h
    · exact ⟨hup hF.1, hup hF.2⟩
    · exact ⟨hup (hA f (List.mem_append_right _ h)).1, hup (hA f (List.mem_append_right _ h)).2⟩
theorem el37 : Tryz.prog.underlying 37 = some (.slice (Tryz.prog.elem 37)) := by kernel_rfl
theorem sz37 (w : World) : (sizeOf (Tryz.prog.elem 37)).run Tryz.prog w = .ok 3 w := by kernel_rfl
theorem sl37h (w : World) (g o n vc h : Nat) (hh : h ≤ vc) : (Instr.slice 37 (.slice (some ⟨g, o, none⟩) n vc) none (some (.int .i64 h)) none).run Tryz.prog w = .ok (.slice (some ⟨g, o, none⟩) h vc) w := by
  rw [run_slice_h w 37 _ n vc el37 .i64 h (by omega) (by omega), sz37]
  simp [Result.andThen, sliced, Addr.add_lit]
theorem sl37l (w : World) (g o n vc l : Nat) (L : Int) (hL : L = l) (hl : l ≤ n) : (Instr.slice 37 (.slice (some ⟨g, o, none⟩) n vc) (some (.int .i64 L)) none none).run Tryz.prog w = .ok (.slice (some ⟨g, if vc = l then o else o + l * 3, none⟩) (n - l) (vc - l)) w := by
  subst hL
  rw [run_slice_l w 37 _ n vc el37 .i64 l (by omega) (by omega), sz37]
  by_cases e : vc = l
  · simp [Result.andThen, sliced, e]
  · simp [Result.andThen, sliced, e, Addr.add_lit]
end Go.Proofs.YtconkienlcegaaaGreatDoor
