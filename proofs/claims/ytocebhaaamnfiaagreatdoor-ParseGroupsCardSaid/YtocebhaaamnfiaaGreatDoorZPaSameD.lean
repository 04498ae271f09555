/-
  ParseSame, ParseGroups: the data.
-/
import Derived.Test.YtocebhaaamnfiaaGreatDoorMg36
namespace Go.Proofs.YtocebhaaamnfiaaGreatDoor.Pa
open Go Go.RowKit Go.Proofs.YtocebhaaamnfiaaGreatDoor.Lx Go.Proofs.YtocebhaaamnfiaaGreatDoor.Uni
set_option linter.unusedVariables false
set_option linter.unusedSimpArgs false
attribute [local go_sem ↓] ldK stK alK bdK bsK ldN stN alN bdN bsN
attribute [local irreducible] kcs ncs ncells
attribute [local go_sem] run_alK run_bdK0 run_bdKs run_bdKn run_bdKe run_bsK run_fdK0 run_fdK1 run_fdK2 run_fdK3 run_fdN4 run_alN run_stNg run_ldNg run_bdN0 run_bdN04 run_bdN02 run_bdN01 run_bdN024 run_bdN03 run_bdN0234 run_bsN1 run_bsN2 run_bsN3

/-- Programs that differ, and are one tree. -/
def sameA : Nat → ByteArray
  | 0 => ⟨#[97, 32, 61, 32, 98, 32, 61, 32, 99, 59]⟩
  | 1 => ⟨#[97, 32, 63, 32, 98, 32, 58, 32, 99, 32, 63, 32, 100, 32, 58, 32, 101, 59]⟩
  | 2 => ⟨#[97, 32, 63, 32, 98, 32, 61, 32, 49, 32, 58, 32, 99, 59]⟩
  | 3 => ⟨#[33, 97, 46, 98, 59]⟩
  | 4 => ⟨#[45, 97, 32, 42, 32, 98, 59]⟩
  | 5 => ⟨#[116, 121, 112, 101, 111, 102, 32, 97, 32, 61, 61, 61, 32, 98, 59]⟩
  | 6 => ⟨#[110, 101, 119, 32, 97, 46, 98, 40, 99, 41, 46, 100, 59]⟩
  | 7 => ⟨#[110, 101, 119, 32, 102, 40, 41, 40, 41, 59]⟩
  | 8 => ⟨#[97, 46, 98, 40, 99, 41, 91, 100, 93, 59]⟩
  | 9 => ⟨#[105, 102, 32, 40, 97, 41, 32, 105, 102, 32, 40, 98, 41, 32, 99, 59, 32, 101, 108, 115, 101, 32, 100, 59]⟩
  | 10 => ⟨#[40, 123, 34, 97, 34, 58, 32, 49, 125, 41, 59]⟩
  | 11 => ⟨#[40, 123, 55, 58, 32, 49, 125, 41, 59]⟩
  | 12 => ⟨#[97, 32, 47, 47, 32, 99, 10, 59]⟩
  | 13 => ⟨#[39, 97, 39, 59]⟩
  | 14 => ⟨#[34, 92, 117, 48, 48, 54, 49, 34, 59]⟩
  | 15 => ⟨#[40, 123, 103, 101, 116, 58, 32, 49, 125, 41, 59]⟩
  | 16 => ⟨#[97, 46, 105, 102, 59]⟩
  | _ => ⟨#[40, 40, 97, 41, 41, 59]⟩
def sameB : Nat → ByteArray
  | 0 => ⟨#[97, 32, 61, 32, 40, 98, 32, 61, 32, 99, 41, 59]⟩
  | 1 => ⟨#[97, 32, 63, 32, 98, 32, 58, 32, 40, 99, 32, 63, 32, 100, 32, 58, 32, 101, 41, 59]⟩
  | 2 => ⟨#[97, 32, 63, 32, 40, 98, 32, 61, 32, 49, 41, 32, 58, 32, 99, 59]⟩
  | 3 => ⟨#[33, 40, 97, 46, 98, 41, 59]⟩
  | 4 => ⟨#[40, 45, 97, 41, 32, 42, 32, 98, 59]⟩
  | 5 => ⟨#[40, 116, 121, 112, 101, 111, 102, 32, 97, 41, 32, 61, 61, 61, 32, 98, 59]⟩
  | 6 => ⟨#[40, 110, 101, 119, 32, 40, 97, 46, 98, 41, 40, 99, 41, 41, 46, 100, 59]⟩
  | 7 => ⟨#[40, 110, 101, 119, 32, 102, 40, 41, 41, 40, 41, 59]⟩
  | 8 => ⟨#[40, 40, 97, 46, 98, 41, 40, 99, 41, 41, 91, 100, 93, 59]⟩
  | 9 => ⟨#[105, 102, 32, 40, 97, 41, 32, 123, 32, 105, 102, 32, 40, 98, 41, 32, 99, 59, 32, 101, 108, 115, 101, 32, 100, 59, 32, 125]⟩
  | 10 => ⟨#[40, 123, 97, 58, 32, 49, 125, 41, 59]⟩
  | 11 => ⟨#[40, 123, 34, 55, 34, 58, 32, 49, 125, 41, 59]⟩
  | 12 => ⟨#[97, 59]⟩
  | 13 => ⟨#[34, 97, 34, 59]⟩
  | 14 => ⟨#[34, 97, 34, 59]⟩
  | 15 => ⟨#[40, 123, 34, 103, 101, 116, 34, 58, 32, 49, 125, 41, 59]⟩
  | 16 => ⟨#[97, 32, 46, 32, 105, 102, 32, 59]⟩
  | _ => ⟨#[97, 59]⟩
mutual
def slimB : Tree → Bool
  | .mk _ _ _ ns ks => decide (ns.length ≤ 200000) && (decide (ks.length ≤ 200000) && slimBs ks)
def slimBs : List Tree → Bool
  | [] => true
  | t :: ts => slimB t && slimBs ts
end
mutual
theorem slim_of : ∀ t : Tree, slimB t = true → Slim t
  | .mk k n x ns ks, h => by
    unfold slimB at h
    simp only [Bool.and_eq_true, decide_eq_true_eq] at h
    unfold Slim
    exact ⟨h.1, h.2.1, slims_of ks h.2.2⟩
theorem slims_of : ∀ ts : List Tree, slimBs ts = true → Slims ts
  | [], _ => by unfold Slims; trivial
  | t :: ts, h => by
    unfold slimBs at h
    simp only [Bool.and_eq_true] at h
    unfold Slims
    exact ⟨slim_of t h.1, slims_of ts h.2⟩
end
def sameOk (k : Nat) : Bool := (parseF (sameA k)).2.2 == 0 && ((parseF (sameB k)).2.2 == 0 && (slimB (parseF (sameA k)).1 && (sameT (parseF (sameA k)).1 (parseF (sameB k)).1 == decide (k ≠ 9) && (decide ((sameA k).size ≤ 100) && decide ((sameB k).size ≤ 100)))))
set_option maxRecDepth 100000 in
theorem same_all : ∀ k : Fin 18, sameOk k.1 = true := by decide +kernel
set_option maxRecDepth 100000 in
def nmT (c : UInt8) : Tree := .mk 8 0 ⟨#[c]⟩ [] []
theorem same_nine : (parseF (sameA 9)).1 = node 44 [node 34 [nmT 97, node 34 [nmT 98, node 33 [nmT 99], node 33 [nmT 100]]]] := by kernel_rfl
def opS : Nat → ByteArray
  | 0 => ⟨#[124, 124]⟩
  | 1 => ⟨#[38, 38]⟩
  | 2 => ⟨#[61, 61, 61]⟩
  | 3 => ⟨#[33, 61, 61]⟩
  | 4 => ⟨#[60]⟩
  | 5 => ⟨#[62]⟩
  | 6 => ⟨#[60, 61]⟩
  | 7 => ⟨#[62, 61]⟩
  | 8 => ⟨#[105, 110]⟩
  | 9 => ⟨#[43]⟩
  | 10 => ⟨#[45]⟩
  | 11 => ⟨#[42]⟩
  | 12 => ⟨#[47]⟩
  | _ => ⟨#[37]⟩
def rankN : Nat → Int
  | 0 => 0
  | 1 => 1
  | 2 => 2
  | 3 => 2
  | 4 => 3
  | 5 => 3
  | 6 => 3
  | 7 => 3
  | 8 => 3
  | 9 => 4
  | 10 => 4
  | 11 => 5
  | 12 => 5
  | _ => 5
def grpN (x y : ByteArray) : ByteArray := ⟨#[97, 32]⟩ ++ x ++ ⟨#[32, 98, 32]⟩ ++ y ++ ⟨#[32, 99, 59]⟩
def grpL (x y : ByteArray) : ByteArray := ⟨#[40, 97, 32]⟩ ++ x ++ ⟨#[32, 98, 41, 32]⟩ ++ y ++ ⟨#[32, 99, 59]⟩
def grpR (x y : ByteArray) : ByteArray := ⟨#[97, 32]⟩ ++ x ++ ⟨#[32, 40, 98, 32]⟩ ++ y ++ ⟨#[32, 99, 41, 59]⟩
def grpOk (i j : Nat) : Bool :=
  let x := opS i; let y := opS j
  let n := parseF (grpN x y); let l := parseF (grpL x y); let r := parseF (grpR x y)
  n.2.2 == 0 && (l.2.2 == 0 && (r.2.2 == 0 && (slimB n.1 && (slimB l.1 && (sameT l.1 r.1 == false && ((if rankN i ≥ rankN j then sameT n.1 l.1 else sameT n.1 r.1) && decide (x.size ≤ 10)))))))
set_option maxRecDepth 100000 in
theorem grp_all : ∀ (i : Fin 14) (j : Fin 14), grpOk i.1 j.1 = true := by decide +kernel
end Go.Proofs.YtocebhaaamnfiaaGreatDoor.Pa
