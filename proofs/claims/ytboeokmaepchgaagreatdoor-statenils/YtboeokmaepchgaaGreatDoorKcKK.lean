/- The chapter's examples: the permutation of noughts, the hashes of no bytes and of abc, reckoned by the kernel round by round. -/
import Derived.Test.YtboeokmaepchgaaGreatDoorKcKJ
namespace Go.Proofs.YtboeokmaepchgaaGreatDoor.Kc
open Go.RowKit
set_option maxRecDepth 100000

def lanesOf (l : List Nat) (j : Nat) : BitVec 64 := BitVec.ofNat 64 (l.getD j 0)
theorem same_of {S : Nat → BitVec 64} {l : List Nat} (h : (List.range 25).map (fun j => (S j).toNat) = l) : Same S (lanesOf l) := fun j hj => by
  unfold lanesOf
  have : l.getD j 0 = (S j).toNat := by
    rw [← h, List.getD, List.getElem?_map, List.getElem?_range hj]; rfl
  rw [this, BitVec.ofNat_toNat, BitVec.setWidth_eq]
theorem same_step {S : Nat → BitVec 64} {l m : List Nat} {k : Nat} (h : Same (permTo S k) (lanesOf l)) (e : (List.range 25).map (fun j => (round (lanesOf l) (RC k) j).toNat) = m) : Same (permTo S (k + 1)) (lanesOf m) :=
  (round_same h (RC k)).trans (same_of e)
def aL0 : List Nat := [1, 0, 0, 0, 0, 0, 0, 0, 0, 0, 0, 0, 0, 0, 0, 0, 9223372036854775808, 0, 0, 0, 0, 0, 0, 0, 0]
def aL1 : List Nat := [4398046511105, 17592186044416, 4398046543872, 0, 17592186077184, 8, 52776560230400, 1152921504606846984, 52776558133248, 1152921504608944128, 2, 544, 262144, 514, 262176, 268436480, 68719493120, 1024, 268451840, 68719476736, 2305844108725321728, 2199023255552, 1099511627780, 2305845208236949504, 4]
def aL2 : List Nat := [3904711243048682726, 1207872589841957126, 3184368193241127169, 12971028319727649889, 10286551402689075458, 1259783720018274, 12214679202016067586, 9224121225299901428, 2992272534782738451, 9800689182623078597, 4611726720294328428, 11685850236297012, 1495365005022904395, 15813382930697286, 6111808659584533265, 124981832595311936, 2684240834651972352, 4912301736543682948, 2488263262048755776, 4778390286886047620, 1163347847091065233, 16868443555924821730, 154580546982776916, 15564660919037354401, 2456770817776948750]
def aL3 : List Nat := [8289102824591434380, 2650440079073489379, 11459863657423534455, 3078203046191370419, 10243614441579508732, 6715684478468316285, 9021721613749738627, 16323907559936263589, 14712371453287876238, 13207516449244145029, 6716728777335539109, 2516792122779427716, 5461754274945430388, 3341045827627689583, 3296329752392194682, 14297203439033465259, 11493424483223189197, 10504499887245279853, 3308135633588744113, 5098721825536174192, 8664368315221462042, 11716894083276002874, 2098923162028634215, 7303567510403455548, 4883930803803657273]
def aS : Nat → BitVec 64 := absTo (stAfter (fun _ => 0) 0) (lastB (fun _ => 0) 0) 136
theorem a0 : Same (permTo aS 0) (lanesOf aL0) := same_of (by kernel_rfl)
theorem a1 : Same (permTo aS 1) (lanesOf aL1) := same_step a0 (by kernel_rfl)
theorem a2 : Same (permTo aS 2) (lanesOf aL2) := same_step a1 (by kernel_rfl)
theorem a3 : Same (permTo aS 3) (lanesOf aL3) := same_step a2 (by kernel_rfl)
end Go.Proofs.YtboeokmaepchgaaGreatDoor.Kc
