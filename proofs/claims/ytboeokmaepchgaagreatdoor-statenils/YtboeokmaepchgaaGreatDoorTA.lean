/- trie: nibbles: halves, joined. -/
import Derived.Test.YtboeokmaepchgaaGreatDoorM4
import Derived.Laws.Bits64b
namespace Go.Proofs.YtboeokmaepchgaaGreatDoor
open Go.RowKit Go.Maps Go.Joins
set_option linter.unusedSimpArgs false
set_option linter.unusedVariables false
/-- The nibbles of bytes. -/
def hvB (bs : List Int) : List Int := bs.flatMap fun c => [c / 16, c % 16]
theorem hvB_nil : hvB [] = [] := rfl
theorem hvB_cons (c : Int) (bs : List Int) : hvB (c :: bs) = c / 16 :: c % 16 :: hvB bs := rfl
theorem hvB_append (a b : List Int) : hvB (a ++ b) = hvB a ++ hvB b := by unfold hvB; rw [List.flatMap_append]
theorem hvB_length (bs : List Int) : (hvB bs).length = 2 * bs.length := by
  induction bs with
  | nil => rfl
  | cons c bs ih => rw [hvB_cons]; simp only [List.length_cons, ih]; omega
theorem hvB_take {l : List Int} {j : Nat} {c : Int} (h : l[j]? = some c) : hvB (l.take (j + 1)) = hvB (l.take j) ++ [c / 16, c % 16] := by
  rw [List.take_add_one, h, hvB_append]; rfl
/-- All are nibbles. -/
def Nib (ns : List Int) : Prop := ∀ c ∈ ns, 0 ≤ c ∧ c < 16
theorem hvB_nib {bs : List Int} (h : Byt bs) : Nib (hvB bs) := by
  intro c hc
  obtain ⟨x, hx, hc⟩ := List.mem_flatMap.1 hc
  have := h x hx
  rcases List.mem_cons.1 hc with rfl | hc
  · omega
  · obtain rfl := List.mem_singleton.1 hc
    omega
/-- The bytes of nibbles. -/
def jnB : List Int → List Int
  | a :: b :: r => (16 * a + b) :: jnB r
  | _ => []
theorem jnB_length : ∀ ns : List Int, (jnB ns).length = ns.length / 2
  | [] => by simp [jnB]
  | [_] => by simp [jnB]
  | a :: b :: r => by
    show (jnB r).length + 1 = (r.length + 1 + 1) / 2
    rw [jnB_length r]; omega
theorem jnB_at : ∀ (ns : List Int) (j : Nat) (a b : Int), ns[2 * j]? = some a → ns[2 * j + 1]? = some b → (jnB ns)[j]? = some (16 * a + b)
  | [], j, a, b, h, _ => by simp at h
  | [_], j, a, b, _, h => by simp at h
  | x :: y :: r, 0, a, b, h, h' => by
    simp at h h'
    show some (16 * x + y) = _
    rw [h, h']
  | x :: y :: r, j + 1, a, b, h, h' => by
    show (jnB r)[j]? = _
    exact jnB_at r j a b (by rw [← h]; rfl) (by rw [← h']; rfl)
theorem hvB_jnB : ∀ (bs : List Int), Byt bs → jnB (hvB bs) = bs
  | [], _ => rfl
  | c :: bs, h => by
    show (16 * (c / 16) + c % 16) :: jnB (hvB bs) = _
    rw [hvB_jnB bs (fun x hx => h x (List.mem_cons_of_mem _ hx))]
    congr 1
    omega
theorem and15 (y : Int) (h0 : 0 ≤ y) (h1 : y < 256) : bits .and .u8 y 15 = y % 16 := by
  obtain ⟨y, rfl⟩ := Int.eq_ofNat_of_zero_le h0
  have : ∀ y : Fin 256, bits .and .u8 ((y.val : Nat) : Int) 15 = ((y.val : Nat) : Int) % 16 := by decide +kernel
  exact this ⟨y, by omega⟩
theorem or16 (x y : Int) (h0 : 0 ≤ x) (h1 : x < 16) (h2 : 0 ≤ y) (h3 : y < 16) : bits .or .u8 (x * 16) y = 16 * x + y := by
  obtain ⟨x, rfl⟩ := Int.eq_ofNat_of_zero_le h0
  obtain ⟨y, rfl⟩ := Int.eq_ofNat_of_zero_le h2
  have : ∀ x y : Fin 16, bits .or .u8 (((x.val : Nat) : Int) * 16) ((y.val : Nat) : Int) = 16 * ((x.val : Nat) : Int) + ((y.val : Nat) : Int) := by decide +kernel
  exact this ⟨x, by omega⟩ ⟨y, by omega⟩
theorem two_b (V : World) (x y : Int) : BytesV (V.alloc (.cells #[.int .u8 x, .int .u8 y] 5)) (.slice (some ⟨V.heap.size, 0, none⟩) 2 2) [x, y] :=
  Or.inr ⟨⟨V.heap.size, 0, none⟩, 2, rfl, fun j u hu => by rw [Addr.add_lit, Nat.zero_add, cell_of_block (heap_alloc_new V _)]; simpa [vB] using hu⟩
theorem rep_cells (n : Nat) : (List.replicate n (Value.int .u8 0)) = vB (List.replicate n 0) := by simp [vB]
theorem mk5 (l n : Nat) (hl : l ≤ n) (hn : n ≤ 140737488355328) (w : World) : (Instr.makeSlice 22 (.int .i64 l) (.int .i64 n)).run Tryz.prog w = .ok (.slice (some ⟨w.heap.size, 0, none⟩) l n) (w.alloc (.cells (vB (List.replicate n 0)).toArray 5)) := by
  obtain ⟨i, hi, hz, hs, hb⟩ := info5c
  have := run_make (P := Tryz.prog) w 22 5 i _ Tryz.underlying22 hi hz .i64 .i64 l n (by omega) (by omega) (by rw [hb]; omega) (by omega)
  rw [hs] at this
  rw [this]
  simp only [Int.toNat_natCast]
  rw [← rep_cells, Nat.mul_one, ← toList_madeCells_one]
  rfl
theorem own_made (w : World) (l n : Nat) (hl : l ≤ n) (hn : n ≤ 140737488355328) : (w.alloc (.cells (vB (List.replicate n 0)).toArray 5)).ownsRow w.heap.size 5 1 (.slice (some ⟨w.heap.size, 0, none⟩) l n) (List.replicate l (0 : Int)).length (vB (List.replicate l 0)) :=
  ⟨by simp [vB], Or.inr ⟨w.heap.size, n, _, by simp, Nat.le_refl _, heap_alloc_new _ _, by simpa using hl, by unfold maxLen; omega, by simp [vB], by simp [vB, List.take_replicate, Nat.min_eq_left hl]⟩⟩
set_option maxRecDepth 100000 in
set_option maxHeartbeats 8000000 in
/-- trie.halves -/
theorem halves_any {w : World} {a : Option Addr} {cap : Nat} {bs : List Int} (h : BytesV w (.slice a bs.length cap) bs) (hb : Byt bs) (hl : bs.length ≤ 16777216) :
    Calls Tryz.prog 40 #[.slice a bs.length cap] w fun e w' => ∃ v, e = .returned v ∧ w'.ownsRow w.heap.size 5 1 v (hvB bs).length (vB (hvB bs)) ∧ Below w.heap.size w w' := by
  have HS : Hid (BytesV w (.slice a bs.length cap) bs) := h
  have HB : Hid (Byt bs) := hb
  obtain ⟨N, hN⟩ : ∃ N, N = bs.length := ⟨_, rfl⟩
  rw [← hN] at hl HS ⊢
  have HN : Hid (N = bs.length) := hN
  clear h hb hN
  have hmk : (Instr.makeSlice 22 (.int .i64 0) (.int .i64 (2 * N))).run Tryz.prog w = .ok (.slice (some ⟨w.heap.size, 0, none⟩) 0 (2 * N)) (w.alloc (.cells (vB (List.replicate (2 * N) 0)).toArray 5)) := by
    have := mk5 0 (2 * N) (by omega) (by omega) w
    simpa using this
  have hom := own_made w 0 (2 * N) (by omega) (by omega)
  have hB0 : Below w.heap.size w (w.alloc (.cells (vB (List.replicate (2 * N) 0)).toArray 5)) := by go_grown
  have H0 : Hid _ := And.intro hom hB0
  clear hom hB0
  go_enter Tryz.func40, Tryz.ntmps40
  go_wp2_with fail
  generalize w.alloc (.cells (vB (List.replicate (2 * N) 0)).toArray 5) = W0 at H0 ⊢
  go_loopw [3, 12] (fun u i wr => ∃ (j : Nat) (v : Value) (out : List Int), j ≤ N ∧ u = v ∧ i = .int .i64 j ∧ Hid (out = hvB (bs.take j) ∧ out.length = 2 * j ∧ wr.ownsRow w.heap.size 5 1 v out.length (vB out) ∧ Below w.heap.size w wr)) (fun _ i _ => N - (intOf i).toNat)
  case atStart => exact ⟨0, _, [], Nat.zero_le _, rfl, rfl, rfl, rfl, H0.out.1, H0.out.2⟩
  case round =>
    obtain ⟨j, v, out, hj, rfl, rfl, HI⟩ := hrel
    obtain ⟨a', c, rfl⟩ := row_form HI.out.2.2.1
    obtain ⟨no, hno⟩ : ∃ no, no = out.length := ⟨_, rfl⟩
    rw [← hno] at HI ⊢
    have HNO : Hid (no = out.length) := hno
    clear hno
    by_cases hjk : j < N
    · have hki : (j : Int) < N := by omega
      obtain ⟨y, hy⟩ : ∃ y, bs[j]? = some y := ⟨_, List.getElem?_eq_getElem (by have := HN.out; omega)⟩
      have hyb := HB.out y (List.mem_of_getElem? hy)
      obtain ⟨g, o, rfl, kc⟩ := HS.out.at hy
      have kc : wr.cell? ⟨g, o + j, none⟩ = some (.int .u8 y) := (HI.out.2.2.2.cell (p := ⟨g, o + j, none⟩) (cell_lt kc)).trans kc
      have h15 := and15 y hyb.1 hyb.2
      have HT : Hid (hvB (bs.take (j + 1)) = hvB (bs.take j) ++ [y / 16, y % 16]) := hvB_take hy
      clear hy
      go_wp2_with (first
        | (at_builtin
           refine wpList_append_b rfl _ _ rfl w.heap.size (.slice a' no c) (.slice (some ⟨wr.heap.size, 0, none⟩) 2 2) out [y / 16, y % 16] rfl (by have := HI.out.2.2.1.alloc (.cells #[.int .u8 (y / 16), .int .u8 (y % 16)] 5); rw [HNO.out] at this ⊢; exact this) rfl (two_b wr (y / 16) (y % 16)) (by have := HI.out.2.1; have := HNO.out; simp; omega) (by have := HI.out.2.2.2.size; simp; omega) ?_
           intro v' w2 ho hg ha
           have H2 : Hid (w2.ownsRow w.heap.size 5 1 v' (out ++ [y / 16, y % 16]).length (vB (out ++ [y / 16, y % 16])) ∧ (wr.alloc (.cells #[.int .u8 (y / 16), .int .u8 (y % 16)] 5)).grownBy w2 (Value.slice a' no c).ownBlock) := ⟨ho, hg⟩
           clear ho hg ha))
      go_roundw
      case rel => exact ⟨j + 1, _, _, by omega, rfl, by go_num, by rw [HI.out.1, HT.out], by have := HI.out.2.1; have := HNO.out; simp; omega, H2.out.1, Below.grown (w := wr.alloc (.cells #[.int .u8 (y / 16), .int .u8 (y % 16)] 5)) (HI.out.2.2.2.alloc HI.out.2.2.2.size _) H2.out.2 (by have := HI.out.2.2.2.size; simp; omega) (fun x hx => (World.ownsRow.lt HI.out.2.2.1 x hx).1)⟩
      case measure => simp [intOf]; omega
    · have hki : ¬ (j : Int) < N := by omega
      go_wp2
      go_ret
      have e : out = hvB bs := by rw [HI.out.1, List.take_of_length_le (by have := HN.out; omega)]
      have h1 := HI.out.2.2.1
      rw [e] at h1
      have hn : no = (hvB bs).length := by rw [HNO.out, e]
      rw [hn] at h1 ⊢
      exact ⟨_, rfl, h1, HI.out.2.2.2⟩
end Go.Proofs.YtboeokmaepchgaaGreatDoor
