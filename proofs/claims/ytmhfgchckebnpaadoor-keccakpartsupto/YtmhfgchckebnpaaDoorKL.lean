/- The chapter's examples as facts on single bytes. -/
import Derived.Test.YtmhfgchckebnpaaDoorKK
namespace Go.Proofs.YtmhfgchckebnpaaDoor
open Go.RowKit
set_option maxRecDepth 100000

theorem zP : Same (permute RCs zS) (lanesOf zL24) := by rw [← perm24]; exact z24
theorem aP : Same (permute RCs aS) (lanesOf aL24) := by rw [← perm24]; exact a24
theorem bP : Same (permute RCs bS) (lanesOf bL24) := by rw [← perm24]; exact b24
theorem perm_zero : permute RCs zS 0 = 0xf1258f7940e1dde7#64 := (zP 0 (by decide)).trans (by kernel_rfl)
theorem dig_at {msg : Nat → BitVec 8} {n : Nat} {S : Nat → BitVec 64} {l : List Nat} (hS : S = absTo (stAfter msg (n / 136)) (lastB msg n) 136) (h : Same (permute RCs S) (lanesOf l)) (i : Nat) (hi : i < 32) : digest msg n i = outb (lanesOf l) i := by
  unfold digest outb; rw [← hS, h (i / 8) (by omega)]
theorem aS_eq : aS = absTo (stAfter (fun _ => 0) (0 / 136)) (lastB (fun _ => 0) 0) 136 := by unfold aS; rw [Nat.zero_div]
theorem bS_eq : bS = absTo (stAfter abc (3 / 136)) (lastB abc 3) 136 := by unfold bS; rw [show 3 / 136 = 0 from by decide]
theorem nil_0 : digest (fun _ => 0) 0 0 = 0xc5#8 := (dig_at aS_eq aP 0 (by decide)).trans (by kernel_rfl)
theorem nil_1 : digest (fun _ => 0) 0 1 = 0xd2#8 := (dig_at aS_eq aP 1 (by decide)).trans (by kernel_rfl)
theorem nil_31 : digest (fun _ => 0) 0 31 = 0x70#8 := (dig_at aS_eq aP 31 (by decide)).trans (by kernel_rfl)
theorem abc_0 : digest abc 3 0 = 0x4e#8 := (dig_at bS_eq bP 0 (by decide)).trans (by kernel_rfl)
theorem abc_31 : digest abc 3 31 = 0x45#8 := (dig_at bS_eq bP 31 (by decide)).trans (by kernel_rfl)
theorem I8_of (x : BitVec 8) (n : Int) (h : ((x.toNat : Nat) : Int) = n) : I8 x = n := h
end Go.Proofs.YtmhfgchckebnpaaDoor
