/-
  Plain mathematics: which trees are programs, and what is written of them; nothing here speaks of the program.
-/
import Derived.Test.YtkknglmpdmhhjaaGreatDoorMg20
namespace Go.Proofs.YtkknglmpdmhhjaaGreatDoor.Pr
open Go.Proofs.YtkknglmpdmhhjaaGreatDoor.Lx Go.Proofs.YtkknglmpdmhhjaaGreatDoor.Pa Go.Proofs.YtkknglmpdmhhjaaGreatDoor.Uni Go.Proofs.YtkknglmpdmhhjaaGreatDoor.Nums
set_option linter.unusedVariables false
set_option linter.unusedSimpArgs false

def isUp (c : UInt8) : Bool := 65 ≤ c && c ≤ 90
def emptyB (t : ByteArray) : Bool := t.data.toList.isEmpty
def rtB (s : ByteArray) : Bool := (pts s).isSome && decide ((units s).length ≤ 10000)
def nameL : By → Bool
  | [] => false
  | c :: r => leadN c.toNat && r.all fun c => contN c.toNat
/-- Names of any use are of at most 2^20 bytes. -/
def nameB (t : ByteArray) : Bool := nameL t.data.toList && decide (t.size ≤ 1048576)
def varB (t : ByteArray) : Bool := nameB t && decide (wordF t.data.toList = 0)
def propB (t : ByteArray) : Bool := nameB t && decide (wordF t.data.toList < 2)
def unL : List By := [[33], [45], [116, 121, 112, 101, 111, 102], [100, 101, 108, 101, 116, 101]]
def binL : List By := [[61, 61, 61], [33, 61, 61], [60], [62], [60, 61], [62, 61], [105, 110], [43], [45], [42], [47], [37]]
def kindB (p : UInt8) (k : Int) : Bool :=
  if p = 80 then decide (k = 44)
  else if p = 83 then decide (30 ≤ k ∧ k ≤ 43 ∧ k ≠ 39)
  else if p = 66 then decide (k = 40)
  else if p = 67 then decide (k = 39)
  else if p = 65 then decide (1 ≤ k ∧ k ≤ 24 ∧ k ≠ 11 ∧ k ≠ 12 ∧ k ≠ 13)
  else if p = 84 then decide (k = 8 ∨ k = 15 ∨ k = 16)
  else if p = 77 then decide (k = 15 ∨ k = 16)
  else if p = 68 then decide (k = 11 ∨ k = 12 ∨ k = 13)
  else decide (k = 14)
def textB (p : UInt8) (k : Int) (t : ByteArray) : Bool :=
  if k = 2 ∨ k = 12 ∨ k = 13 then rtB t
  else if k = 8 ∨ k = 30 ∨ k = 31 ∨ k = 39 then varB t
  else if k = 14 then (if p = 70 then varB t else if p = 65 then emptyB t || varB t else emptyB t)
  else if k = 15 then propB t
  else if k = 19 then unL.contains t.data.toList
  else if k = 20 then binL.contains t.data.toList
  else emptyB t
def namesB (p : UInt8) (k : Int) (ns : List ByteArray) : Bool :=
  if k ≠ 14 ∨ p = 71 then ns.isEmpty else if p = 72 ∧ ns.length ≠ 1 then false else ns.all varB
def numB (k n : Int) : Bool :=
  if k = 1 then decide (0 ≤ n ∧ n ≤ 9007199254740991) else if k = 38 then decide (1 ≤ n ∧ n ≤ 3) else decide (n = 0)
/-- Does a statement end with an if without an else? -/
def openT : Tree → Bool
  | .mk k _ _ _ [_, z] => if k = 34 then true else if k = 35 then openT z else false
  | .mk k _ _ _ [_, _, z] => if k = 34 then openT z else false
  | .mk k _ _ _ _ => decide (k = 34)
def elseL : List Tree → Bool
  | [_, y, _] => !openT y
  | _ => true
def elseB (k : Int) (ks : List Tree) : Bool := if k = 34 then elseL ks else true
/-! What stands in a node: a great letter stands for a kid, # for the text, $ for the value, @ for the names. -/
def repB (s : By) : Nat → By
  | 0 => []
  | n + 1 => s ++ repB s n
def listB (c : UInt8) : Nat → By
  | 0 => []
  | 1 => [c]
  | n + 2 => c :: 44 :: 32 :: listB c (n + 1)
def braceB (n : Nat) : By := [123] ++ repB [32, 83] n ++ [32, 125]
def funL (p : UInt8) (nk : Nat) : By :=
  if p = 71 ∨ p = 72 then [40, 64, 41, 32] ++ braceB nk else if p = 70 then [102, 117, 110, 99, 116, 105, 111, 110, 32, 35] ++ ([40, 64, 41, 32] ++ braceB nk) else [40, 102, 117, 110, 99, 116, 105, 111, 110, 32, 35] ++ ([40, 64, 41, 32] ++ braceB nk) ++ [41]
def exL (k : Int) (t : By) (nk : Nat) (fk : Int) : By :=
  if k = 1 ∨ k = 2 then [36] else if k = 3 then [116, 114, 117, 101] else if k = 4 then [102, 97, 108, 115, 101] else if k = 5 then [110, 117, 108, 108] else if k = 6 then [117, 110, 100, 101, 102, 105, 110, 101, 100] else if k = 7 then [116, 104, 105, 115]
  else if k = 8 then [35] else if k = 9 then [91] ++ listB 65 nk ++ [93] else if k = 10 then [40, 123] ++ listB 68 nk ++ [125, 41]
  else if k = 11 then (if nk ≠ 0 ∧ fk = 2 then [65, 58, 32, 65] else [91, 65, 93, 58, 32, 65]) else if k = 12 then [103, 101, 116, 32, 36, 71] else if k = 13 then [115, 101, 116, 32, 36, 72]
  else if k = 15 then [40, 65, 46, 35, 41] else if k = 16 then [40, 65, 91, 65, 93, 41] else if k = 17 then [40, 65, 40] ++ listB 65 (nk - 1) ++ [41, 41] else if k = 18 then [40, 110, 101, 119, 32, 65, 40] ++ listB 65 (nk - 1) ++ [41, 41]
  else if k = 19 then (if t = [100, 101, 108, 101, 116, 101] then [40, 35, 32, 77, 41] else if t = [116, 121, 112, 101, 111, 102] then [40, 35, 32, 65, 41] else [40, 35, 65, 41])
  else if k = 20 then [40, 65, 32, 35, 32, 65, 41] else if k = 21 then [40, 65, 32, 38, 38, 32, 65, 41] else if k = 22 then [40, 65, 32, 124, 124, 32, 65, 41] else if k = 23 then [40, 65, 32, 63, 32, 65, 32, 58, 32, 65, 41] else if k = 24 then [40, 84, 32, 61, 32, 65, 41] else []
def tryL (n : Int) : By := [116, 114, 121, 32, 66] ++ ((if n % 2 = 1 then [32, 67] else []) ++ (if n / 2 % 2 = 1 then [32, 102, 105, 110, 97, 108, 108, 121, 32, 66] else []))
def stL (k n : Int) (nk : Nat) : By :=
  if k = 30 then (if nk = 0 then [108, 101, 116, 32, 35, 59] else [108, 101, 116, 32, 35, 32, 61, 32, 65, 59]) else if k = 31 then [99, 111, 110, 115, 116, 32, 35, 32, 61, 32, 65, 59] else if k = 32 then [70] else if k = 33 then [65, 59]
  else if k = 34 then (if nk < 3 then [105, 102, 32, 40, 65, 41, 32, 83] else [105, 102, 32, 40, 65, 41, 32, 83, 32, 101, 108, 115, 101, 32, 83]) else if k = 35 then [119, 104, 105, 108, 101, 32, 40, 65, 41, 32, 83] else if k = 36 then (if nk = 0 then [114, 101, 116, 117, 114, 110, 59] else [114, 101, 116, 117, 114, 110, 32, 65, 59])
  else if k = 37 then [116, 104, 114, 111, 119, 32, 65, 59] else if k = 38 then tryL n else if k = 39 then [99, 97, 116, 99, 104, 32, 40, 35, 41, 32, 66] else if k = 40 then braceB nk else if k = 41 then [98, 114, 101, 97, 107, 59]
  else if k = 42 then [99, 111, 110, 116, 105, 110, 117, 101, 59] else if k = 43 then [59] else if k = 44 then repB [83, 10] nk else []
def headK : List Tree → Int
  | [] => 0
  | t :: _ => t.kind
def layB (p : UInt8) (k n : Int) (t : By) (nk : Nat) (fk : Int) : By :=
  if k = 14 then funL p nk else if k < 30 then exL k t nk fk else stL k n nk
def hereB (p : UInt8) (k n : Int) (t : ByteArray) (ns : List ByteArray) (ks : List Tree) : Bool :=
  kindB p k && (textB p k t && (namesB p k ns && (numB k n && elseB k ks)))
def placesB (p : UInt8) (k n : Int) (t : By) (nk : Nat) (fk : Int) : By := (layB p k n t nk fk).filter isUp
mutual
/-- May a tree stand at a place? -/
def okT (p : UInt8) : Tree → Bool
  | .mk k n t ns ks => hereB p k n t ns ks && okKs (placesB p k n t.data.toList ks.length (headK ks)) ks
def okKs : By → List Tree → Bool
  | [], [] => true
  | p :: ps, t :: ts => okT p t && okKs ps ts
  | _, _ => false
end
def allT (p : UInt8) (ts : List Tree) : Bool := ts.all (okT p)

/-! What each kind asks. -/
theorem okKs_rep (p : UInt8) : ∀ ts : List Tree, okKs (List.replicate ts.length p) ts = allT p ts
  | [] => by simp [okKs, allT]
  | t :: ts => by
    have := okKs_rep p ts
    simp only [List.length_cons, List.replicate_succ, okKs, allT, List.all_cons] at this ⊢
    rw [this]
theorem up_rep (s : By) (c : UInt8) (h : s.filter isUp = [c]) : ∀ n, (repB s n).filter isUp = List.replicate n c
  | 0 => rfl
  | n + 1 => by
    rw [repB, List.filter_append, h, up_rep s c h n, List.replicate_succ]
    rfl
theorem up_list (c : UInt8) (h : isUp c = true) : ∀ n, (listB c n).filter isUp = List.replicate n c
  | 0 => rfl
  | 1 => by simp [listB, h]
  | n + 2 => by
    have e1 : isUp 44 = false := by decide
    have e2 : isUp 32 = false := by decide
    rw [listB, List.filter_cons_of_pos h, List.filter_cons_of_neg (by simp [e1]), List.filter_cons_of_neg (by simp [e2]), up_list c h (n + 1), List.replicate_succ, List.replicate_succ]
    rfl
theorem up_brace (n : Nat) : (braceB n).filter isUp = List.replicate n 83 := by
  rw [braceB, List.filter_append, List.filter_append, up_rep _ 83 (by decide)]
  simp [isUp]
theorem up_app (a b : By) : (a ++ b).filter isUp = a.filter isUp ++ b.filter isUp := List.filter_append ..
theorem ok_num (n : Int) : okT 65 (.mk 1 n noS [] []) = (decide (0 ≤ n ∧ n ≤ 9007199254740991)) := by
  simp [okT, okKs, hereB, kindB, textB, namesB, numB, elseB, elseL, placesB, layB, exL, stL, funL, tryL, headK, isUp, noS, emptyB, node, up_app, up_list, up_rep, up_brace, okKs_rep]

theorem ok_str (t : ByteArray) : okT 65 (.mk 2 0 t [] []) = (rtB t) := by
  simp [okT, okKs, hereB, kindB, textB, namesB, numB, elseB, elseL, placesB, layB, exL, stL, funL, tryL, headK, isUp, noS, emptyB, node, up_app, up_list, up_rep, up_brace, okKs_rep]

theorem ok_3  : okT 65 (node 3 []) = (true) := by
  simp [okT, okKs, hereB, kindB, textB, namesB, numB, elseB, elseL, placesB, layB, exL, stL, funL, tryL, headK, isUp, noS, emptyB, node, up_app, up_list, up_rep, up_brace, okKs_rep]

theorem ok_4  : okT 65 (node 4 []) = (true) := by
  simp [okT, okKs, hereB, kindB, textB, namesB, numB, elseB, elseL, placesB, layB, exL, stL, funL, tryL, headK, isUp, noS, emptyB, node, up_app, up_list, up_rep, up_brace, okKs_rep]

theorem ok_5  : okT 65 (node 5 []) = (true) := by
  simp [okT, okKs, hereB, kindB, textB, namesB, numB, elseB, elseL, placesB, layB, exL, stL, funL, tryL, headK, isUp, noS, emptyB, node, up_app, up_list, up_rep, up_brace, okKs_rep]

theorem ok_6  : okT 65 (node 6 []) = (true) := by
  simp [okT, okKs, hereB, kindB, textB, namesB, numB, elseB, elseL, placesB, layB, exL, stL, funL, tryL, headK, isUp, noS, emptyB, node, up_app, up_list, up_rep, up_brace, okKs_rep]

theorem ok_7  : okT 65 (node 7 []) = (true) := by
  simp [okT, okKs, hereB, kindB, textB, namesB, numB, elseB, elseL, placesB, layB, exL, stL, funL, tryL, headK, isUp, noS, emptyB, node, up_app, up_list, up_rep, up_brace, okKs_rep]

theorem ok_name (t : ByteArray) : okT 65 (.mk 8 0 t [] []) = (varB t) := by
  simp [okT, okKs, hereB, kindB, textB, namesB, numB, elseB, elseL, placesB, layB, exL, stL, funL, tryL, headK, isUp, noS, emptyB, node, up_app, up_list, up_rep, up_brace, okKs_rep]

theorem ok_arr (ks : List Tree) : okT 65 (node 9 ks) = (allT 65 ks) := by
  simp [okT, okKs, hereB, kindB, textB, namesB, numB, elseB, elseL, placesB, layB, exL, stL, funL, tryL, headK, isUp, noS, emptyB, node, up_app, up_list, up_rep, up_brace, okKs_rep]

theorem ok_obj (ks : List Tree) : okT 65 (node 10 ks) = (allT 68 ks) := by
  simp [okT, okKs, hereB, kindB, textB, namesB, numB, elseB, elseL, placesB, layB, exL, stL, funL, tryL, headK, isUp, noS, emptyB, node, up_app, up_list, up_rep, up_brace, okKs_rep]

theorem ok_pair (a b : Tree) : okT 68 (node 11 [a, b]) = (okT 65 a && okT 65 b) := by
  by_cases h : a.kind = 2 <;>
  simp [okT, okKs, hereB, kindB, textB, namesB, numB, elseB, elseL, placesB, layB, exL, stL, funL, tryL, headK, isUp, noS, emptyB, node, up_app, up_list, up_rep, up_brace, okKs_rep, h]

theorem ok_get (t : ByteArray) (ks : List Tree) : okT 68 (.mk 12 0 t [] [node 14 ks]) = (rtB t && allT 83 ks) := by
  simp [okT, okKs, hereB, kindB, textB, namesB, numB, elseB, elseL, placesB, layB, exL, stL, funL, tryL, headK, isUp, noS, emptyB, node, up_app, up_list, up_rep, up_brace, okKs_rep]

theorem ok_set (t x : ByteArray) (ks : List Tree) : okT 68 (.mk 13 0 t [] [.mk 14 0 noS [x] ks]) = (rtB t && (varB x && allT 83 ks)) := by
  simp [okT, okKs, hereB, kindB, textB, namesB, numB, elseB, elseL, placesB, layB, exL, stL, funL, tryL, headK, isUp, noS, emptyB, node, up_app, up_list, up_rep, up_brace, okKs_rep]

theorem ok_fun (t : ByteArray) (ns : List ByteArray) (ks : List Tree) : okT 65 (.mk 14 0 t ns ks) = ((emptyB t || varB t) && (ns.all varB && allT 83 ks)) := by
  simp [okT, okKs, hereB, kindB, textB, namesB, numB, elseB, elseL, placesB, layB, exL, stL, funL, tryL, headK, isUp, noS, emptyB, node, up_app, up_list, up_rep, up_brace, okKs_rep, Bool.and_assoc]

theorem ok_dec (t : ByteArray) (ns : List ByteArray) (ks : List Tree) : okT 70 (.mk 14 0 t ns ks) = (varB t && (ns.all varB && allT 83 ks)) := by
  simp [okT, okKs, hereB, kindB, textB, namesB, numB, elseB, elseL, placesB, layB, exL, stL, funL, tryL, headK, isUp, noS, emptyB, node, up_app, up_list, up_rep, up_brace, okKs_rep, Bool.and_assoc]

theorem ok_memb (t : ByteArray) (a : Tree) : okT 65 (.mk 15 0 t [] [a]) = (propB t && okT 65 a) := by
  simp [okT, okKs, hereB, kindB, textB, namesB, numB, elseB, elseL, placesB, layB, exL, stL, funL, tryL, headK, isUp, noS, emptyB, node, up_app, up_list, up_rep, up_brace, okKs_rep]

theorem ok_16 (a b : Tree) : okT 65 (node 16 [a, b]) = (okT 65 a && okT 65 b) := by
  simp [okT, okKs, hereB, kindB, textB, namesB, numB, elseB, elseL, placesB, layB, exL, stL, funL, tryL, headK, isUp, noS, emptyB, node, up_app, up_list, up_rep, up_brace, okKs_rep]

theorem ok_21 (a b : Tree) : okT 65 (node 21 [a, b]) = (okT 65 a && okT 65 b) := by
  simp [okT, okKs, hereB, kindB, textB, namesB, numB, elseB, elseL, placesB, layB, exL, stL, funL, tryL, headK, isUp, noS, emptyB, node, up_app, up_list, up_rep, up_brace, okKs_rep]

theorem ok_22 (a b : Tree) : okT 65 (node 22 [a, b]) = (okT 65 a && okT 65 b) := by
  simp [okT, okKs, hereB, kindB, textB, namesB, numB, elseB, elseL, placesB, layB, exL, stL, funL, tryL, headK, isUp, noS, emptyB, node, up_app, up_list, up_rep, up_brace, okKs_rep]

theorem ok_17 (a : Tree) (ks : List Tree) : okT 65 (node 17 (a :: ks)) = (okT 65 a && allT 65 ks) := by
  simp [okT, okKs, hereB, kindB, textB, namesB, numB, elseB, elseL, placesB, layB, exL, stL, funL, tryL, headK, isUp, noS, emptyB, node, up_app, up_list, up_rep, up_brace, okKs_rep]

theorem ok_18 (a : Tree) (ks : List Tree) : okT 65 (node 18 (a :: ks)) = (okT 65 a && allT 65 ks) := by
  simp [okT, okKs, hereB, kindB, textB, namesB, numB, elseB, elseL, placesB, layB, exL, stL, funL, tryL, headK, isUp, noS, emptyB, node, up_app, up_list, up_rep, up_brace, okKs_rep]

theorem ok_un (t : ByteArray) (a : Tree) : okT 65 (.mk 19 0 t [] [a]) = (unL.contains t.data.toList && (if t.data.toList = [100, 101, 108, 101, 116, 101] then okT 77 a else okT 65 a)) := by
  by_cases h : t.data.toList = [100, 101, 108, 101, 116, 101] <;> by_cases h2 : t.data.toList = [116, 121, 112, 101, 111, 102] <;>
  simp [okT, okKs, hereB, kindB, textB, namesB, numB, elseB, elseL, placesB, layB, exL, stL, funL, tryL, headK, isUp, noS, emptyB, node, up_app, up_list, up_rep, up_brace, okKs_rep, h, h2]

theorem ok_bin (t : ByteArray) (a b : Tree) : okT 65 (.mk 20 0 t [] [a, b]) = (binL.contains t.data.toList && (okT 65 a && okT 65 b)) := by
  simp [okT, okKs, hereB, kindB, textB, namesB, numB, elseB, elseL, placesB, layB, exL, stL, funL, tryL, headK, isUp, noS, emptyB, node, up_app, up_list, up_rep, up_brace, okKs_rep]

theorem ok_cond (a b c : Tree) : okT 65 (node 23 [a, b, c]) = (okT 65 a && (okT 65 b && okT 65 c)) := by
  simp [okT, okKs, hereB, kindB, textB, namesB, numB, elseB, elseL, placesB, layB, exL, stL, funL, tryL, headK, isUp, noS, emptyB, node, up_app, up_list, up_rep, up_brace, okKs_rep]

theorem ok_set24 (a b : Tree) : okT 65 (node 24 [a, b]) = (okT 84 a && okT 65 b) := by
  simp [okT, okKs, hereB, kindB, textB, namesB, numB, elseB, elseL, placesB, layB, exL, stL, funL, tryL, headK, isUp, noS, emptyB, node, up_app, up_list, up_rep, up_brace, okKs_rep]

theorem ok_let0 (t : ByteArray) : okT 83 (.mk 30 0 t [] []) = (varB t) := by
  simp [okT, okKs, hereB, kindB, textB, namesB, numB, elseB, elseL, placesB, layB, exL, stL, funL, tryL, headK, isUp, noS, emptyB, node, up_app, up_list, up_rep, up_brace, okKs_rep]

theorem ok_let1 (t : ByteArray) (a : Tree) : okT 83 (.mk 30 0 t [] [a]) = (varB t && okT 65 a) := by
  simp [okT, okKs, hereB, kindB, textB, namesB, numB, elseB, elseL, placesB, layB, exL, stL, funL, tryL, headK, isUp, noS, emptyB, node, up_app, up_list, up_rep, up_brace, okKs_rep]

theorem ok_const (t : ByteArray) (a : Tree) : okT 83 (.mk 31 0 t [] [a]) = (varB t && okT 65 a) := by
  simp [okT, okKs, hereB, kindB, textB, namesB, numB, elseB, elseL, placesB, layB, exL, stL, funL, tryL, headK, isUp, noS, emptyB, node, up_app, up_list, up_rep, up_brace, okKs_rep]

theorem ok_32 (a : Tree) : okT 83 (node 32 [a]) = (okT 70 a) := by
  simp [okT, okKs, hereB, kindB, textB, namesB, numB, elseB, elseL, placesB, layB, exL, stL, funL, tryL, headK, isUp, noS, emptyB, node, up_app, up_list, up_rep, up_brace, okKs_rep]

theorem ok_33 (a : Tree) : okT 83 (node 33 [a]) = (okT 65 a) := by
  simp [okT, okKs, hereB, kindB, textB, namesB, numB, elseB, elseL, placesB, layB, exL, stL, funL, tryL, headK, isUp, noS, emptyB, node, up_app, up_list, up_rep, up_brace, okKs_rep]

theorem ok_37 (a : Tree) : okT 83 (node 37 [a]) = (okT 65 a) := by
  simp [okT, okKs, hereB, kindB, textB, namesB, numB, elseB, elseL, placesB, layB, exL, stL, funL, tryL, headK, isUp, noS, emptyB, node, up_app, up_list, up_rep, up_brace, okKs_rep]

theorem ok_if2 (a b : Tree) : okT 83 (node 34 [a, b]) = (okT 65 a && okT 83 b) := by
  simp [okT, okKs, hereB, kindB, textB, namesB, numB, elseB, elseL, placesB, layB, exL, stL, funL, tryL, headK, isUp, noS, emptyB, node, up_app, up_list, up_rep, up_brace, okKs_rep]

theorem ok_if3 (a b c : Tree) : okT 83 (node 34 [a, b, c]) = (!openT b && (okT 65 a && (okT 83 b && okT 83 c))) := by
  simp [okT, okKs, hereB, kindB, textB, namesB, numB, elseB, elseL, placesB, layB, exL, stL, funL, tryL, headK, isUp, noS, emptyB, node, up_app, up_list, up_rep, up_brace, okKs_rep]

theorem ok_35 (a b : Tree) : okT 83 (node 35 [a, b]) = (okT 65 a && okT 83 b) := by
  simp [okT, okKs, hereB, kindB, textB, namesB, numB, elseB, elseL, placesB, layB, exL, stL, funL, tryL, headK, isUp, noS, emptyB, node, up_app, up_list, up_rep, up_brace, okKs_rep]

theorem ok_ret0  : okT 83 (node 36 []) = (true) := by
  simp [okT, okKs, hereB, kindB, textB, namesB, numB, elseB, elseL, placesB, layB, exL, stL, funL, tryL, headK, isUp, noS, emptyB, node, up_app, up_list, up_rep, up_brace, okKs_rep]

theorem ok_ret1 (a : Tree) : okT 83 (node 36 [a]) = (okT 65 a) := by
  simp [okT, okKs, hereB, kindB, textB, namesB, numB, elseB, elseL, placesB, layB, exL, stL, funL, tryL, headK, isUp, noS, emptyB, node, up_app, up_list, up_rep, up_brace, okKs_rep]

theorem ok_try1 (a b : Tree) : okT 83 (.mk 38 1 noS [] [a, b]) = (okT 66 a && okT 67 b) := by
  simp [okT, okKs, hereB, kindB, textB, namesB, numB, elseB, elseL, placesB, layB, exL, stL, funL, tryL, headK, isUp, noS, emptyB, node, up_app, up_list, up_rep, up_brace, okKs_rep]

theorem ok_try2 (a b : Tree) : okT 83 (.mk 38 2 noS [] [a, b]) = (okT 66 a && okT 66 b) := by
  simp [okT, okKs, hereB, kindB, textB, namesB, numB, elseB, elseL, placesB, layB, exL, stL, funL, tryL, headK, isUp, noS, emptyB, node, up_app, up_list, up_rep, up_brace, okKs_rep]

theorem ok_try3 (a b c : Tree) : okT 83 (.mk 38 3 noS [] [a, b, c]) = (okT 66 a && (okT 67 b && okT 66 c)) := by
  simp [okT, okKs, hereB, kindB, textB, namesB, numB, elseB, elseL, placesB, layB, exL, stL, funL, tryL, headK, isUp, noS, emptyB, node, up_app, up_list, up_rep, up_brace, okKs_rep]

theorem ok_catch (t : ByteArray) (b : Tree) : okT 67 (.mk 39 0 t [] [b]) = (varB t && okT 66 b) := by
  simp [okT, okKs, hereB, kindB, textB, namesB, numB, elseB, elseL, placesB, layB, exL, stL, funL, tryL, headK, isUp, noS, emptyB, node, up_app, up_list, up_rep, up_brace, okKs_rep]

theorem ok_blk (ks : List Tree) : okT 83 (node 40 ks) = (allT 83 ks) := by
  simp [okT, okKs, hereB, kindB, textB, namesB, numB, elseB, elseL, placesB, layB, exL, stL, funL, tryL, headK, isUp, noS, emptyB, node, up_app, up_list, up_rep, up_brace, okKs_rep]

theorem ok_blk66 (ks : List Tree) : okT 66 (node 40 ks) = (allT 83 ks) := by
  simp [okT, okKs, hereB, kindB, textB, namesB, numB, elseB, elseL, placesB, layB, exL, stL, funL, tryL, headK, isUp, noS, emptyB, node, up_app, up_list, up_rep, up_brace, okKs_rep]

theorem ok_41  : okT 83 (node 41 []) = (true) := by
  simp [okT, okKs, hereB, kindB, textB, namesB, numB, elseB, elseL, placesB, layB, exL, stL, funL, tryL, headK, isUp, noS, emptyB, node, up_app, up_list, up_rep, up_brace, okKs_rep]

theorem ok_42  : okT 83 (node 42 []) = (true) := by
  simp [okT, okKs, hereB, kindB, textB, namesB, numB, elseB, elseL, placesB, layB, exL, stL, funL, tryL, headK, isUp, noS, emptyB, node, up_app, up_list, up_rep, up_brace, okKs_rep]

theorem ok_43  : okT 83 (node 43 []) = (true) := by
  simp [okT, okKs, hereB, kindB, textB, namesB, numB, elseB, elseL, placesB, layB, exL, stL, funL, tryL, headK, isUp, noS, emptyB, node, up_app, up_list, up_rep, up_brace, okKs_rep]

theorem ok_prog (ks : List Tree) : okT 80 (node 44 ks) = (allT 83 ks) := by
  simp [okT, okKs, hereB, kindB, textB, namesB, numB, elseB, elseL, placesB, layB, exL, stL, funL, tryL, headK, isUp, noS, emptyB, node, up_app, up_list, up_rep, up_brace, okKs_rep]
end Go.Proofs.YtkknglmpdmhhjaaGreatDoor.Pr
