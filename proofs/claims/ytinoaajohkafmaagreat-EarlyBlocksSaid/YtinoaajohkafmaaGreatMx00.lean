/-
  Texts of this seat in build order: EyBk, EyBw.
-/
import Derived.Test.YtinoaajohkafmaaGreatMw32
import Derived.Test.YtinoaajohkafmaaGreatMw06
import Derived.Lib.SlBytesRow
import Derived.Lib.ConvBytes
import Derived.Deep.RegionHeld3
/-
  EarlyBlocks: the texts, their tokens, their trees.
-/
namespace Go.Proofs.YtinoaajohkafmaaGreat.Pr
open Go.Proofs.YtinoaajohkafmaaGreat.Lx Go.Proofs.YtinoaajohkafmaaGreat.Pa Go.Proofs.YtinoaajohkafmaaGreat.Uni Go.Proofs.YtinoaajohkafmaaGreat.Nums
set_option linter.unusedVariables false
set_option linter.unusedSimpArgs false
def allT (p : UInt8) (ts : List Tree) : Bool := ts.all (okT p)
theorem okKs_rep (p : UInt8) : ∀ ts : List Tree, okKs (List.replicate ts.length p) ts = allT p ts
  | [] => by simp [okKs, allT]
  | t :: ts => by
    have := okKs_rep p ts
    simp only [List.length_cons, List.replicate_succ, okKs, allT, List.all_cons] at this ⊢
    rw [this]
theorem up_rep (s : By) (c : UInt8) (h : s.filter isUp = [c]) : ∀ n, (repB s n).filter isUp = List.replicate n c
  | 0 => rfl
  | n + 1 => by
    rw [repB, List.filter_append, h, up_rep s c h n, List.replicate_succ]
    rfl
theorem up_brace (n : Nat) : (braceB n).filter isUp = List.replicate n 83 := by
  rw [braceB, List.filter_append, List.filter_append, up_rep _ 83 (by decide)]
  simp [isUp]
end Go.Proofs.YtinoaajohkafmaaGreat.Pr
namespace Go.Proofs.YtinoaajohkafmaaGreat.Ey
open Go Go.RowKit Go.Maps Go.Proofs.YtinoaajohkafmaaGreat.Pa Go.Proofs.YtinoaajohkafmaaGreat.Pr
open Go.Proofs.YtinoaajohkafmaaGreat.Rl (RTk goF restB sgn goF_go goF_stop)
open Go.Proofs.YtinoaajohkafmaaGreat.Lx
open Go.Proofs.YtinoaajohkafmaaGreat.Uni (B)
set_option linter.unusedVariables false
set_option linter.unusedSimpArgs false
def isL (c : UInt8) : Prop := c = 97 ∨ c = 98 ∨ c = 99 ∨ c = 100
theorem B_at {s : ByteArray} {p : Nat} {m : By} (hd : s.data.toList.drop p = m) (j : Nat) {b : UInt8} (hj : m[j]? = some b) : B s (p + j) = b.toNat ∧ p + j < s.size := by
  subst hd
  rw [List.getElem?_drop] at hj
  refine ⟨?_, ?_⟩
  · unfold B
    rw [hj]
    rfl
  · have := (List.getElem?_eq_some_iff.1 hj).1
    simpa using this
theorem drop_more {s : ByteArray} {p : Nat} {m : By} (hd : s.data.toList.drop p = m) (k : Nat) : s.data.toList.drop (p + k) = m.drop k := by rw [← hd, List.drop_drop]
theorem ext_at {s : ByteArray} {p : Nat} {m : By} (hd : s.data.toList.drop p = m) (k : Nat) {x : By} (hx : m.take k = x) : s.extract p (p + k) = ⟨⟨x⟩⟩ := by
  have h : (s.extract p (p + k)).data.toList = x := by
    have : (s.extract p (p + k)).data.toList = (s.data.toList.drop p).take (p + k - p) := by simp [ByteArray.data_extract]
    rw [this, hd, ← hx]
    congr 1
    omega
  apply ByteArray.ext
  apply Array.toList_inj.1
  rw [h]
def G (s : ByteArray) (p : Nat) (L : List Tok) : Prop := ∀ p0, goF whiteN s (s.size - p0) p0 = p → RTk s p0 L
theorem white_stop {s : ByteArray} {p : Nat} {m : By} (hd : s.data.toList.drop p = m) (hm : ∀ b, m[0]? = some b → whiteN b.toNat = false) : goF whiteN s (s.size - p) p = p := by
  refine goF_stop fun ⟨h1, h2⟩ => ?_
  have hl : s.data.toList.length = s.size := by simp
  have : m[0]? = some (s.data.toList[p]'(by omega)) := by rw [← hd, List.getElem?_drop, Nat.add_zero, List.getElem?_eq_getElem]
  have hb := (B_at hd 0 this).1
  rw [Nat.add_zero] at hb
  rw [hb, hm _ this] at h2
  cases h2
theorem white_one {s : ByteArray} {p : Nat} {m : By} (hd : s.data.toList.drop p = 32 :: m) (hm : ∀ b, m[0]? = some b → whiteN b.toNat = false) : goF whiteN s (s.size - p) p = p + 1 := by
  obtain ⟨hb, hlt⟩ := B_at hd 0 (b := 32) rfl
  rw [Nat.add_zero] at hb hlt
  rw [goF_go hlt (by rw [hb]; rfl)]
  exact white_stop (drop_more hd 1) hm
theorem G_fin {s : ByteArray} {p : Nat} (h : p = s.size) : G s p [⟨0, p, 0, ⟨#[]⟩⟩] := fun p0 h0 => by
  subst h
  exact .fin p0 h0
theorem sgn_59 : sgn 12 = ⟨#[59]⟩ := by decide +kernel
theorem sgn_123 : sgn 6 = ⟨#[123]⟩ := by decide +kernel
theorem sgn_125 : sgn 7 = ⟨#[125]⟩ := by decide +kernel
theorem G_sign {s : ByteArray} {p i : Nat} {c : UInt8} {r : By} {L : List Tok} (hd : s.data.toList.drop p = c :: 32 :: r) (hr : ∀ b, r[0]? = some b → whiteN b.toNat = false) (hi : i < 26) (hs : sgn i = ⟨#[c]⟩) (hc : c = 59 ∨ c = 123 ∨ c = 125) (hne : ∀ j, j < i → B (sgn j) 0 ≠ c.toNat) (hp : ∀ j, j < i → 0 < (sgn j).size) (h : G s (p + 2) L) : G s p (⟨5, p, 0, sgn i⟩ :: L) := fun p0 h0 => by
  obtain ⟨hb, hlt⟩ := B_at hd 0 (b := c) rfl
  rw [Nat.add_zero] at hb hlt
  have hw : leadN c.toNat = false ∧ digitN c.toNat = false ∧ c.toNat ≠ 34 ∧ c.toNat ≠ 39 := by rcases hc with rfl | rfl | rfl <;> decide
  have hsz : (sgn i).size = 1 := by rw [hs]; rfl
  have hw2 : goF whiteN s (s.size - (p + 1)) (p + 1) = p + 2 := white_one (drop_more hd 1) hr
  refine .sign p0 p i L h0 hlt (by rw [hb]; exact hw.1) (by rw [hb]; exact hw.2.1) (by rw [hb]; exact hw.2.2.1) (by rw [hb]; exact hw.2.2.2) hi (fun j hj => ?_) ?_ (by rw [hsz]; exact h _ hw2)
  · cases hq : restB s p (sgn j) with
    | false => rfl
    | true =>
      have := Rl.byte_first (hp j hj) hq
      rw [hb] at this
      exact absurd this.symm (hne j hj)
  · unfold restB
    rw [hsz, ext_at hd 1 (x := [c]) rfl, hs, decide_eq_true (by omega)]
    simp
/-- "let c; ". -/
theorem G_let {s : ByteArray} {p : Nat} {c : UInt8} {r : By} {L : List Tok} (hd : s.data.toList.drop p = 108 :: 101 :: 116 :: 32 :: c :: 59 :: 32 :: r) (hr : ∀ b, r[0]? = some b → whiteN b.toNat = false) (hc : isL c) (h : G s (p + 7) L) : G s p (⟨2, p, 0, ⟨#[108, 101, 116]⟩⟩ :: ⟨1, (p + 4 : Nat), 0, ⟨#[c]⟩⟩ :: ⟨5, (p + 5 : Nat), 0, sgn 12⟩ :: L) := fun p0 h0 => by
  have b0 := B_at hd 0 (b := 108) rfl
  rw [Nat.add_zero] at b0
  have b1 := B_at hd 1 (b := 101) rfl
  have b2 := B_at hd 2 (b := 116) rfl
  have b3 := B_at hd 3 (b := 32) rfl
  have b4 := B_at hd 4 (b := c) rfl
  have b5 := B_at hd 5 (b := 59) rfl
  have hcl : leadN c.toNat = true ∧ contN c.toNat = true ∧ whiteN c.toNat = false ∧ wordF (⟨#[c]⟩ : ByteArray).toList = 0 := by rcases hc with rfl | rfl | rfl | rfl <;> decide +kernel
  have e1 : goF contN s (s.size - p) p = p + 3 := by
    rw [goF_go b0.2 (by rw [b0.1]; decide), goF_go b1.2 (by rw [b1.1]; decide), goF_go b2.2 (by rw [b2.1]; decide)]
    exact goF_stop fun hh => by rw [b3.1] at hh; exact absurd hh.2 (by decide)
  have e2 : goF contN s (s.size - (p + 4)) (p + 4) = p + 5 := by
    rw [goF_go b4.2 (by rw [b4.1]; exact hcl.2.1)]
    exact goF_stop fun hh => by rw [b5.1] at hh; exact absurd hh.2 (by decide)
  have w1 : goF whiteN s (s.size - (p + 3)) (p + 3) = p + 4 := white_one (drop_more hd 3) fun b hb => by
    obtain rfl := Option.some.inj (hb : some c = some b)
    exact hcl.2.2.1
  have w2 : goF whiteN s (s.size - (p + 5)) (p + 5) = p + 5 := white_stop (drop_more hd 5) fun b hb => by
    obtain rfl := Option.some.inj (hb : some (59 : UInt8) = some b)
    decide
  refine .name p0 p (p + 3) 1 ⟨#[108, 101, 116]⟩ _ h0 b0.2 (by rw [b0.1]; decide) e1 (ext_at hd 3 rfl) (by decide +kernel) (by decide) ?_
  refine .name (p + 3) (p + 4) (p + 5) 0 ⟨#[c]⟩ _ w1 b4.2 (by rw [b4.1]; exact hcl.1) e2 (ext_at (drop_more hd 4) 1 rfl) hcl.2.2.2 (by decide) ?_
  exact G_sign (drop_more hd 5) hr (by decide) sgn_59 (.inl rfl) (by decide +kernel) (by decide +kernel) h _ w2
def letT (c : UInt8) : Tree := .mk 30 0 ⟨#[c]⟩ [] []
def listD : List UInt8 → List Tree
  | [] => []
  | c :: r => [letT c, node 40 (listD r)]
def pcF (c : UInt8) : By := [108, 101, 116, 32, c, 59, 32]
def pcD (c : UInt8) : By := [108, 101, 116, 32, c, 59, 32, 123, 32]
def bodyF (cs : List UInt8) : By := cs.flatMap pcF
def tailN : Nat → By
  | 0 => []
  | n + 1 => 125 :: 32 :: tailN n
def bodyD (n : Nat) (cs : List UInt8) : By := cs.flatMap pcD ++ tailN n
def flatL (p : Nat) : List UInt8 → List Tok
  | [] => [⟨0, p, 0, ⟨#[]⟩⟩]
  | c :: r => ⟨2, p, 0, ⟨#[108, 101, 116]⟩⟩ :: ⟨1, (p + 4 : Nat), 0, ⟨#[c]⟩⟩ :: ⟨5, (p + 5 : Nat), 0, sgn 12⟩ :: flatL (p + 7) r
def closeL (p : Nat) : Nat → List Tok
  | 0 => [⟨0, p, 0, ⟨#[]⟩⟩]
  | n + 1 => ⟨5, p, 0, sgn 7⟩ :: closeL (p + 2) n
def deepL (n p : Nat) : List UInt8 → List Tok
  | [] => closeL p n
  | c :: r => ⟨2, p, 0, ⟨#[108, 101, 116]⟩⟩ :: ⟨1, (p + 4 : Nat), 0, ⟨#[c]⟩⟩ :: ⟨5, (p + 5 : Nat), 0, sgn 12⟩ :: ⟨5, (p + 7 : Nat), 0, sgn 6⟩ :: deepL n (p + 9) r
theorem drop_le {s : ByteArray} {p : Nat} {a : UInt8} {m : By} (hd : s.data.toList.drop p = a :: m) (k : Nat) (hk : k ≤ (a :: m).length) : p + k ≤ s.size := by
  have := congrArg List.length hd
  have e : s.data.toList.length = s.size := by simp
  rw [List.length_drop, e] at this
  have h2 : (a :: m).length = m.length + 1 := rfl
  omega
theorem G_flat {s : ByteArray} : ∀ (cs : List UInt8) (p : Nat), (∀ c ∈ cs, isL c) → s.data.toList.drop p = bodyF cs → p ≤ s.size → G s p (flatL p cs)
  | [], p, _, hd, hp => G_fin (by
      have := congrArg List.length hd
      have e : s.data.toList.length = s.size := by simp
      rw [List.length_drop, e] at this
      have h2 : (bodyF []).length = 0 := rfl
      omega)
  | c :: r, p, hc, hd, hp => by
    have hd2 : s.data.toList.drop p = 108 :: 101 :: 116 :: 32 :: c :: 59 :: 32 :: bodyF r := hd
    refine G_let hd2 (fun b hb => ?_) (hc c (by simp)) (G_flat r (p + 7) (fun x hx => hc x (by simp [hx])) (drop_more hd2 7) (drop_le hd2 7 (by simp)))
    cases r with
    | nil => cases hb
    | cons x y => obtain rfl := Option.some.inj (hb : some (108 : UInt8) = some b); decide
theorem G_close {s : ByteArray} : ∀ (n p : Nat), s.data.toList.drop p = tailN n → p ≤ s.size → G s p (closeL p n)
  | 0, p, hd, hp => G_fin (by
      have := congrArg List.length hd
      have e : s.data.toList.length = s.size := by simp
      rw [List.length_drop, e] at this
      have h2 : (tailN 0).length = 0 := rfl
      omega)
  | n + 1, p, hd, hp => by
    have hd2 : s.data.toList.drop p = 125 :: 32 :: tailN n := hd
    refine G_sign hd2 (fun b hb => ?_) (by decide) sgn_125 (.inr (.inr rfl)) (by decide +kernel) (by decide +kernel) (G_close n (p + 2) (drop_more hd2 2) (drop_le hd2 2 (by simp)))
    cases n with
    | zero => cases hb
    | succ m => obtain rfl := Option.some.inj (hb : some (125 : UInt8) = some b); decide
theorem G_deep {s : ByteArray} (n : Nat) : ∀ (cs : List UInt8) (p : Nat), (∀ c ∈ cs, isL c) → s.data.toList.drop p = bodyD n cs → p ≤ s.size → G s p (deepL n p cs)
  | [], p, _, hd, hp => G_close n p hd hp
  | c :: r, p, hc, hd, hp => by
    have hd2 : s.data.toList.drop p = 108 :: 101 :: 116 :: 32 :: c :: 59 :: 32 :: 123 :: 32 :: bodyD n r := hd
    refine G_let hd2 (fun b hb => ?_) (hc c (by simp)) (G_sign (drop_more hd2 7) (fun b hb => ?_) (by decide) sgn_123 (.inr (.inl rfl)) (by decide +kernel) (by decide +kernel) (G_deep n r (p + 9) (fun x hx => hc x (by simp [hx])) (drop_more hd2 9) (drop_le hd2 9 (by simp))))
    · obtain rfl := Option.some.inj (hb : some (123 : UInt8) = some b); decide
    · cases r with
      | nil =>
        cases n with
        | zero => cases hb
        | succ m => obtain rfl := Option.some.inj (hb : some (125 : UInt8) = some b); decide
      | cons x y => obtain rfl := Option.some.inj (hb : some (108 : UInt8) = some b); decide
set_option maxRecDepth 100000 in
theorem flat_tree : ∀ cs : List UInt8, cs.length ≤ 8 → treeF (flatL 0 cs) = (node 44 (cs.map letT), 0, 0)
  | [], _ => by kernel_rfl
  | [a], _ => by kernel_rfl
  | [a, b], _ => by kernel_rfl
  | [a, b, c], _ => by kernel_rfl
  | [a, b, c, d], _ => by kernel_rfl
  | [a, b, c, d, e], _ => by kernel_rfl
  | [a, b, c, d, e, f], _ => by kernel_rfl
  | [a, b, c, d, e, f, g], _ => by kernel_rfl
  | [a, b, c, d, e, f, g, h], _ => by kernel_rfl
  | a :: b :: c :: d :: e :: f :: g :: h :: i :: r, hl => by simp at hl
set_option maxRecDepth 100000 in
theorem deep_tree : ∀ cs : List UInt8, cs.length ≤ 8 → treeF (deepL cs.length 0 cs) = (node 44 (listD cs), 0, 0)
  | [], _ => by kernel_rfl
  | [a], _ => by kernel_rfl
  | [a, b], _ => by kernel_rfl
  | [a, b, c], _ => by kernel_rfl
  | [a, b, c, d], _ => by kernel_rfl
  | [a, b, c, d, e], _ => by kernel_rfl
  | [a, b, c, d, e, f], _ => by kernel_rfl
  | [a, b, c, d, e, f, g], _ => by kernel_rfl
  | [a, b, c, d, e, f, g, h], _ => by kernel_rfl
  | a :: b :: c :: d :: e :: f :: g :: h :: i :: r, hl => by simp at hl
theorem ok_let {c : UInt8} (h : isL c) : okT 83 (letT c) = true := by
  rcases h with rfl | rfl | rfl | rfl <;> decide +kernel
theorem ok_prog {ts : List Tree} (h : allT 83 ts = true) : okT 80 (node 44 ts) = true := by
  have e : placesB 80 44 0 [] ts.length (headK ts) = List.replicate ts.length 83 := by
    unfold placesB layB stL
    simp
    exact up_rep [83, 10] 83 (by decide) _
  have e2 : hereB 80 44 0 noS [] ts = true := by
    unfold hereB kindB textB namesB numB elseB
    simp
    decide +kernel
  unfold node okT
  rw [e2]
  show (true && okKs (placesB 80 44 0 [] ts.length (headK ts)) ts) = true
  rw [e, okKs_rep, h]
  rfl
theorem ok_block {ts : List Tree} (h : allT 83 ts = true) : okT 83 (node 40 ts) = true := by
  have e : placesB 83 40 0 [] ts.length (headK ts) = List.replicate ts.length 83 := by
    unfold placesB layB stL
    simp
    exact up_brace _
  have e2 : hereB 83 40 0 noS [] ts = true := by
    unfold hereB kindB textB namesB numB elseB
    simp
    decide +kernel
  unfold node okT
  rw [e2]
  show (true && okKs (placesB 83 40 0 [] ts.length (headK ts)) ts) = true
  rw [e, okKs_rep, h]
  rfl
theorem ok_lets : ∀ cs : List UInt8, (∀ c ∈ cs, isL c) → allT 83 (cs.map letT) = true
  | [], _ => rfl
  | c :: r, h => by
    have := ok_lets r (fun x hx => h x (by simp [hx]))
    unfold allT at this ⊢
    rw [List.map_cons, List.all_cons, this, ok_let (h c (by simp))]
    rfl
theorem ok_deep : ∀ cs : List UInt8, (∀ c ∈ cs, isL c) → allT 83 (listD cs) = true
  | [], _ => rfl
  | c :: r, h => by
    have := ok_block (ok_deep r (fun x hx => h x (by simp [hx])))
    unfold allT listD
    rw [List.all_cons, List.all_cons, this, ok_let (h c (by simp))]
    rfl
theorem bad_let (f l : Bool) (c : UInt8) : badT f l false (letT c) = false := by
  unfold letT badT badL
  rfl
theorem bad_lets (f l : Bool) : ∀ cs : List UInt8, badL f l false (cs.map letT) = false
  | [] => by unfold badL; rfl
  | c :: r => by
    rw [List.map_cons]
    unfold badL
    rw [bad_let, bad_lets f l r]
    rfl
theorem bad_deep (f l : Bool) : ∀ cs : List UInt8, badL f l false (listD cs) = false
  | [] => by unfold listD badL; rfl
  | c :: r => by
    have h := bad_deep f l r
    have e : badT f l false (node 40 (listD r)) = false := by
      unfold node badT
      have e1 : twiceB 40 [] (listD r) = false := by cases r <;> rfl
      have e2 : misB 40 f l false = false := rfl
      rw [e1, e2]
      exact h
    unfold listD
    unfold badL
    rw [bad_let]
    unfold badL
    rw [e]
    unfold badL
    rfl
def lt1 (c : UInt8) : ByteArray := ⟨#[c]⟩
theorem decl_lets (cs : List UInt8) : declN (cs.map letT) = cs.map lt1 := by
  induction cs with
  | nil => rfl
  | cons c r ih =>
    unfold declN at ih ⊢
    rw [List.map_cons, List.flatMap_cons, ih]
    rfl
theorem flat_check {cs : List UInt8} (h : ∀ c ∈ cs, isL c) : checkN (node 44 (cs.map letT)) = if dupF [] (cs.map lt1) then 2 else 0 := by
  unfold checkN
  rw [if_pos (ok_prog (ok_lets cs h))]
  have e : badT false false false (node 44 (cs.map letT)) = dupF [] (cs.map lt1) := by
    unfold node badT
    have e1 : twiceB 44 [] (cs.map letT) = dupF [] (cs.map lt1) := by
      rw [← decl_lets]; rfl
    have e2 : misB 44 false false false = false := rfl
    have e3 : badL (insf 44 false) (insl 44 false) (insb 44) (cs.map letT) = false := bad_lets false false cs
    rw [e1, e2, e3, Bool.or_false, Bool.false_or]
  rw [e]
theorem deep_check {cs : List UInt8} (h : ∀ c ∈ cs, isL c) : checkN (node 44 (listD cs)) = 0 := by
  unfold checkN
  rw [if_pos (ok_prog (ok_deep cs h))]
  have e : badT false false false (node 44 (listD cs)) = false := by
    unfold node badT
    have e1 : twiceB 44 [] (listD cs) = false := by cases cs <;> rfl
    have e2 : misB 44 false false false = false := rfl
    have e3 : badL (insf 44 false) (insl 44 false) (insb 44) (listD cs) = false := bad_deep false false cs
    rw [e1, e2, e3]
    rfl
  rw [e]
  rfl
theorem bd_let (d : Nat) (c : UInt8) : Bd 12 (d + 1) (letT c) := by unfold letT Bd; simp
theorem flat_bd {cs : List UInt8} (h : cs.length ≤ 8) : Bd 12 2 (node 44 (cs.map letT)) := by
  unfold node Bd
  refine ⟨by rw [List.length_map]; omega, by simp, fun t ht => ?_⟩
  obtain ⟨c, -, rfl⟩ := List.mem_map.1 ht
  exact bd_let 0 c
theorem deep_bds : ∀ (cs : List UInt8), ∀ t ∈ listD cs, Bd 12 (cs.length + 1) t
  | [], t, h => by unfold listD at h; cases h
  | c :: r, t, h => by
    unfold listD at h
    have h2 := deep_bds r
    rcases List.mem_cons.1 h with rfl | h
    · exact bd_let _ c
    · rw [List.mem_singleton.1 h]
      unfold node
      show Bd 12 (r.length + 1 + 1) _
      unfold Bd
      exact ⟨by cases r <;> simp [listD], by simp, h2⟩
theorem deep_bd (cs : List UInt8) : Bd 12 (cs.length + 2) (node 44 (listD cs)) := by
  unfold node
  show Bd 12 (cs.length + 1 + 1) _
  unfold Bd
  exact ⟨by cases cs <;> simp [listD], by simp, deep_bds cs⟩
theorem str_let (c : UInt8) : Str (letT c) := by
  have : (⟨#[c]⟩ : ByteArray).size = 1 := rfl
  unfold letT Str Strs
  exact ⟨by omega, by simp, trivial⟩
theorem str_lets : ∀ cs : List UInt8, Strs (cs.map letT)
  | [] => by unfold List.map Strs; trivial
  | c :: r => by
    rw [List.map_cons]
    unfold Strs
    exact ⟨str_let c, str_lets r⟩
theorem str_node (k : Int) {ts : List Tree} (h : Strs ts) : Str (node k ts) := by
  have : noS.size = 0 := rfl
  unfold node Str
  exact ⟨by omega, by simp, h⟩
theorem str_deep : ∀ cs : List UInt8, Strs (listD cs)
  | [] => by unfold listD Strs; trivial
  | c :: r => by
    unfold listD
    unfold Strs
    refine ⟨str_let c, ?_⟩
    unfold Strs
    refine ⟨str_node 40 (str_deep r), ?_⟩
    unfold Strs
    trivial
end Go.Proofs.YtinoaajohkafmaaGreat.Ey

/-
  EarlyBlocks: the text as it grows, the list of numbers, the reading of the text.
-/
namespace Go.Proofs.YtinoaajohkafmaaGreat.Ey
open Go Go.RowKit Go.Maps Go.Proofs.YtinoaajohkafmaaGreat.Pa Go.Proofs.YtinoaajohkafmaaGreat.Pr
open Go.Proofs.YtinoaajohkafmaaGreat.Rl (RTk)
open Go.Proofs.YtinoaajohkafmaaGreat.Lx
open Go.Proofs.YtinoaajohkafmaaGreat.Uni (B)
set_option linter.unusedVariables false
set_option linter.unusedSimpArgs false
theorem rp_str {s : ByteArray} {L : List Tok} {T : Tree} (hL : RTk s 0 L) (hl : L.length ≤ 100000) (hs : s.size ≤ 65536) (hb : ∀ b ∈ s.data.toList, b.toNat < 128 ∧ b.toNat ≠ 47) (hT : treeF L = (T, 0, 0)) (cap : Nat) (w : World) :
    Calls Tryz.prog 12 #[.slice (some ⟨w.heap.size, 0, none⟩) s.size cap] (Lib.bytesWorld w 5 s) fun e w' => ∃ N, e = .returned (.tuple #[.agg (ncs N), .int .i64 0, .int .i64 0]) ∧ Pr.Rd w' T N ∧ Below w.heap.size w w' := by
  have hB : ∀ j, j < s.size → B s j < 128 ∧ B s j ≠ 47 := fun j hj => by
    have e : s.data.toList[j]? = some (s.data.toList[j]'(by simpa using hj)) := List.getElem?_eq_getElem _
    have : B s j = (s.data.toList[j]'(by simpa using hj)).toNat := by unfold B; rw [e]; rfl
    rw [this]
    exact hb _ (List.getElem_mem _)
  have hp := Rl.rparse_plain hL hl hs (Rl.plain_small fun j hj => (hB j hj).2) (fun j hj => (hB j hj).1) (some ⟨w.heap.size, 0, none⟩) cap (Lib.bytesWorld w 5 s) (Lib.run_convert_whole (P := Tryz.prog) _ 33 5 9 Tryz.underlying33 Tryz.underlying5 Tryz.underlying9 _ 0 s (fun i hi => by
    rw [Nat.zero_add]
    have hc := Lib.bytesWorld_cell w 5 s i hi
    rw [World.cell?_alloc_past _ _ _ (World.block_lt_of_cell? _ _ hc), hc]
    rw [List.getD_eq_getElem?_getD, List.getElem?_eq_getElem hi]
    rfl) cap)
  refine hp.mono ?_
  rintro e w' ⟨N, h1, h2, h3⟩
  rw [hT] at h1 h2
  rw [Lib.bytesWorld_size] at h3
  have hb : Below w.heap.size w (Lib.bytesWorld w 5 s) := ⟨by simp [Lib.bytesWorld, World.freeze]; rfl, by simp [Lib.bytesWorld, World.freeze], by simp [Lib.bytesWorld, World.freeze]; rfl, by rw [Lib.bytesWorld_size]; omega, fun k hk => Lib.bytesWorld_at_old w _ s k hk⟩
  exact ⟨N, h1, rep_rd _ _ h2, hb.trans (h3.mono (by omega))⟩
def It (B : Nat) (w : World) (v : Value) (l : List Int) : Prop := w.ownsRow B 3 1 v l.length (l.map (Value.int .i64))
theorem It.shape {B : Nat} {w : World} {v : Value} {l : List Int} (h : It B w v l) : ∃ a c, v = .slice a l.length c := by
  rcases h.2 with ⟨rfl, h1⟩ | ⟨g, cap, cur, rfl, _⟩
  · exact ⟨none, 0, by rw [h1]⟩
  · exact ⟨_, _, rfl⟩
theorem It.at {B : Nat} {w : World} {v : Value} {l : List Int} (h : It B w v l) {j : Nat} {x : Int} (hx : l[j]? = some x) : ∃ g c, v = .slice (some ⟨g, 0, none⟩) l.length c ∧ w.cell? ⟨g, j, none⟩ = some (.int .i64 x) := by
  have h' := h
  unfold It at h'
  have hj := (List.getElem?_eq_some_iff.1 hx).1
  rcases h.2 with ⟨h0, h1⟩ | ⟨g, cap, cur, rfl, h2, h3, h4, h5, -⟩
  · omega
  · refine ⟨g, cap, rfl, ?_⟩
    rw [h'.cellAt j (by omega), List.getElem?_map, hx]
    rfl
theorem infoI : (Tryz.prog.info? 3).map (fun i => (i.zero, i.size, i.bytes)) = some (some (.int .i64 0), 1, 8) := by kernel_rfl
theorem it_app {B : Nat} {w : World} {v : Value} {l : List Int} (h : It B w v l) (hB : B ≤ w.heap.size) (hl : l.length ≤ 1000000) (s : Int) :
    ∃ g c w', (Builtin.append_ #[37, 37] 37 #[v, .slice (some ⟨w.heap.size, 0, none⟩) 1 1]).run Tryz.prog (w.alloc (.cells #[.int .i64 s] 3)) = .ok (.slice (some ⟨g, 0, none⟩) (l.length + 1) c) w' ∧ It B w' (.slice (some ⟨g, 0, none⟩) (l.length + 1) c) (l ++ [s]) ∧ Below B w w' := by
  obtain ⟨i, hi, hz0, hz1, hz2⟩ := info_parts infoI
  have h' : (w.alloc (.cells #[.int .i64 s] 3)).ownsRow B 3 1 v l.length (l.map (Value.int .i64)) := World.ownsRow.alloc h _
  obtain ⟨v', w', hrun, hown, hg, _, hat⟩ := run_append_own_at (P := Tryz.prog) (w.alloc (.cells #[.int .i64 s] 3)) B 37 37 3 i (.int .i64 0) 1 8 Tryz.underlying37 hi hz0 hz1 hz2 rfl (by decide) v l.length _ h' ⟨w.heap.size, 0, none⟩ 1 1 [.int .i64 s] rfl (cell_one_new w _ _) (by simp [Value.oneCell']) (by unfold maxLen; omega) (by omega) (by simp; omega)
  obtain ⟨g, c, rfl⟩ := own_succ hown
  refine ⟨g, c, w', hrun, ?_, (((Below.refl B w).alloc hB _).grown hg (by simp; omega) (fun k hk => (World.ownsRow.lt h k hk).1))⟩
  unfold It
  simpa using hown
def ck (z : Int) : UInt8 := UInt8.ofNat (97 + (z % 4).toNat)
theorem ck_isL (z : Int) : isL (ck z) := by
  unfold isL ck
  have h1 : 0 ≤ z % 4 := Int.emod_nonneg _ (by decide)
  have h2 : z % 4 < 4 := Int.emod_lt_of_pos _ (by decide)
  rcases (by omega : z % 4 = 0 ∨ z % 4 = 1 ∨ z % 4 = 2 ∨ z % 4 = 3) with h | h | h | h <;> rw [h] <;> simp
theorem lt_inj (y z : Int) : decide (lt1 (ck y) = lt1 (ck z)) = (y % 4 == z % 4) := by
  have h1 : 0 ≤ z % 4 := Int.emod_nonneg _ (by decide)
  have h2 : z % 4 < 4 := Int.emod_lt_of_pos _ (by decide)
  have h3 : 0 ≤ y % 4 := Int.emod_nonneg _ (by decide)
  have h4 : y % 4 < 4 := Int.emod_lt_of_pos _ (by decide)
  unfold ck
  rcases (by omega : z % 4 = 0 ∨ z % 4 = 1 ∨ z % 4 = 2 ∨ z % 4 = 3) with h | h | h | h <;> rcases (by omega : y % 4 = 0 ∨ y % 4 = 1 ∨ y % 4 = 2 ∨ y % 4 = 3) with g | g | g | g <;> rw [h, g] <;> decide
theorem dupF_snoc (a : ByteArray) : ∀ (l seen : List ByteArray), dupF seen (l ++ [a]) = (dupF seen l || hasB (seen ++ l) a)
  | [], seen => by simp [dupF]
  | x :: r, seen => by
    simp only [List.cons_append, dupF]
    rw [dupF_snoc a r (seen ++ [x]), Bool.or_assoc, List.append_assoc]
    rfl
def lsI (zs : List Int) : List ByteArray := zs.map fun z => lt1 (ck z)
def csI (zs : List Int) : List UInt8 := zs.map ck
theorem lsI_cs (zs : List Int) : (csI zs).map lt1 = lsI zs := by unfold csI lsI; rw [List.map_map]; rfl
theorem hasB_take {l : List ByteArray} {j : Nat} {x : ByteArray} (h : l[j]? = some x) (s : ByteArray) : hasB (l.take (j + 1)) s = (hasB (l.take j) s || decide (x = s)) := by
  rw [List.take_add_one, h]
  exact hasB_snoc _ _ _
theorem bs_app (a b : By) : bs a ++ (⟨⟨b⟩⟩ : ByteArray) = bs (a ++ b) := by
  apply ByteArray.ext
  simp [bs, ByteArray.data_append]
def SF (zs : List Int) : ByteArray := bs (bodyF (csI zs))
def SD (zs : List Int) : ByteArray := bs ((csI zs).flatMap pcD)
def TD (n : Nat) : ByteArray := bs (tailN n)
theorem tailN_snoc : ∀ n, tailN n ++ [125, 32] = tailN (n + 1)
  | 0 => rfl
  | n + 1 => by
    show 125 :: 32 :: (tailN n ++ [125, 32]) = _
    rw [tailN_snoc n]
    rfl
theorem TD_step (n : Nat) : TD n ++ ⟨#[125, 32]⟩ = TD (n + 1) := by
  unfold TD
  rw [bs_app, tailN_snoc]
theorem SF_step (zs : List Int) (z : Int) : ((SF zs ++ ⟨#[108, 101, 116, 32]⟩) ++ lt1 (ck z)) ++ ⟨#[59, 32]⟩ = SF (zs ++ [z]) := by
  unfold SF lt1 bodyF csI
  rw [bs_app, bs_app, bs_app, List.map_append, List.flatMap_append]
  simp [pcF]
theorem SD_step (zs : List Int) (z : Int) : (((SD zs ++ ⟨#[108, 101, 116, 32]⟩) ++ lt1 (ck z)) ++ ⟨#[59, 32]⟩) ++ ⟨#[123, 32]⟩ = SD (zs ++ [z]) := by
  unfold SD lt1 csI
  rw [bs_app, bs_app, bs_app, bs_app, List.map_append, List.flatMap_append]
  simp [pcD]
theorem take_snoc {l : List Int} {i : Nat} {x : Int} (h : l[i]? = some x) : l.take (i + 1) = l.take i ++ [x] := by
  rw [List.take_add_one, h]; rfl
theorem bytes_let (c : UInt8) (h : isL c) : ∀ b ∈ pcD c, b.toNat < 128 ∧ b.toNat ≠ 47 := by
  rcases h with rfl | rfl | rfl | rfl <;> decide
theorem bytes_tail : ∀ n, ∀ b ∈ tailN n, b.toNat < 128 ∧ b.toNat ≠ 47
  | 0, b, h => by cases h
  | n + 1, b, h => by
    have h : b ∈ 125 :: 32 :: tailN n := h
    rcases List.mem_cons.1 h with rfl | h
    · decide
    · rcases List.mem_cons.1 h with rfl | h
      · decide
      · exact bytes_tail n b h
theorem csI_isL (zs : List Int) : ∀ c ∈ csI zs, isL c := fun c hc => by
  obtain ⟨z, -, rfl⟩ := List.mem_map.1 hc
  exact ck_isL z
theorem flat_size (cs : List UInt8) : (bodyF cs).length = 7 * cs.length := by
  induction cs with
  | nil => rfl
  | cons c r ih =>
    unfold bodyF at ih ⊢
    rw [List.flatMap_cons, List.length_append, ih]
    simp [pcF]; omega
theorem deep_size (cs : List UInt8) : (cs.flatMap pcD).length = 9 * cs.length := by
  induction cs with
  | nil => rfl
  | cons c r ih =>
    rw [List.flatMap_cons, List.length_append, ih]
    simp [pcD]; omega
theorem tail_size : ∀ n, (tailN n).length = 2 * n
  | 0 => rfl
  | n + 1 => by
    have := tail_size n
    show (tailN n).length + 1 + 1 = _
    omega
theorem bs_list (l : By) : (bs l).data.toList = l := by simp [bs]
theorem bs_size (l : By) : (bs l).size = l.length := by
  show l.toArray.size = _
  simp
theorem flatL_len : ∀ (cs : List UInt8) (p : Nat), (flatL p cs).length = 3 * cs.length + 1
  | [], p => rfl
  | c :: r, p => by
    have := flatL_len r (p + 7)
    show (flatL (p + 7) r).length + 1 + 1 + 1 = _
    simp only [List.length_cons]
    omega
theorem closeL_len : ∀ (n p : Nat), (closeL p n).length = n + 1
  | 0, p => rfl
  | n + 1, p => by
    have := closeL_len n (p + 2)
    show (closeL (p + 2) n).length + 1 = _
    omega
theorem deepL_len (n : Nat) : ∀ (cs : List UInt8) (p : Nat), (deepL n p cs).length = 4 * cs.length + n + 1
  | [], p => by
    have := closeL_len n p
    show (closeL p n).length = _
    simp only [List.length_nil]
    omega
  | c :: r, p => by
    have := deepL_len n r (p + 9)
    show (deepL n (p + 9) r).length + 1 + 1 + 1 + 1 = _
    simp only [List.length_cons]
    omega
theorem white_zero {s : ByteArray} {m : By} (hd : s.data.toList = m) (hm : ∀ b, m[0]? = some b → whiteN b.toNat = false) : Rl.goF whiteN s (s.size - 0) 0 = 0 := white_stop (p := 0) hd hm
theorem flat_rtk (zs : List Int) : RTk (SF zs) 0 (flatL 0 (csI zs)) := by
  have hd : (SF zs).data.toList = bodyF (csI zs) := bs_list _
  refine G_flat (csI zs) 0 (csI_isL zs) hd (Nat.zero_le _) 0 (white_zero hd fun b hb => ?_)
  cases zs with
  | nil => cases hb
  | cons z r => obtain rfl := Option.some.inj (hb : some (108 : UInt8) = some b); decide
theorem deep_rtk (zs : List Int) : RTk (SD zs ++ TD zs.length) 0 (deepL zs.length 0 (csI zs)) := by
  have hd : (SD zs ++ TD zs.length).data.toList = bodyD zs.length (csI zs) := by
    unfold SD TD bodyD
    rw [show bs (tailN zs.length) = ⟨⟨tailN zs.length⟩⟩ from rfl, bs_app, bs_list]
  refine G_deep zs.length (csI zs) 0 (csI_isL zs) hd (Nat.zero_le _) 0 (white_zero hd fun b hb => ?_)
  cases zs with
  | nil => cases hb
  | cons z r => obtain rfl := Option.some.inj (hb : some (108 : UInt8) = some b); decide
theorem flat_all {zs : List Int} (h : zs.length ≤ 8) (cap : Nat) (w : World) : Calls Tryz.prog 12 #[.slice (some ⟨w.heap.size, 0, none⟩) (SF zs).size cap] (Lib.bytesWorld w 5 (SF zs)) fun e w' => ∃ N, e = .returned (.tuple #[.agg (ncs N), .int .i64 0, .int .i64 0]) ∧ Below w.heap.size w w' ∧ ∀ W, Below w'.heap.size w' W → Calls Tryz.prog 10 #[.agg (ncs N)] W (PostR W (.int .i64 (if dupF [] (lsI zs) then 2 else 0))) := by
  have hlen : (csI zs).length ≤ 8 := by unfold csI; rw [List.length_map]; exact h
  have hsz : (SF zs).size = 7 * (csI zs).length := by unfold SF; rw [bs_size, flat_size]
  refine (rp_str (flat_rtk zs) (by rw [flatL_len]; omega) (by omega) (fun b hb => ?_) (flat_tree _ hlen) cap w).mono ?_
  · have hb : b ∈ bodyF (csI zs) := by have e : (SF zs).data.toList = bodyF (csI zs) := bs_list _; rw [e] at hb; exact hb
    unfold bodyF at hb
    obtain ⟨c, h1, h2⟩ := List.mem_flatMap.1 hb
    exact bytes_let c (csI_isL zs c h1) b (List.mem_append_left [123, 32] h2)
  · rintro e w' ⟨N, h1, h2, h3⟩
    refine ⟨N, h1, h3, fun W hW => ?_⟩
    have := check_any (h2.below hW) (str_node 44 (str_lets _)) (flat_bd hlen) (by decide) (by decide)
    rw [flat_check (csI_isL zs), lsI_cs] at this
    exact this
theorem deep_all {zs : List Int} (h : zs.length ≤ 8) (cap : Nat) (w : World) : Calls Tryz.prog 12 #[.slice (some ⟨w.heap.size, 0, none⟩) (SD zs ++ TD zs.length).size cap] (Lib.bytesWorld w 5 (SD zs ++ TD zs.length)) fun e w' => ∃ N, e = .returned (.tuple #[.agg (ncs N), .int .i64 0, .int .i64 0]) ∧ Below w.heap.size w w' ∧ ∀ W, Below w'.heap.size w' W → Calls Tryz.prog 10 #[.agg (ncs N)] W (PostR W (.int .i64 0)) := by
  have hc8 : (csI zs).length = zs.length := by unfold csI; rw [List.length_map]
  have hl : (SD zs ++ TD zs.length).data.toList = (csI zs).flatMap pcD ++ tailN zs.length := by
    unfold SD TD
    rw [show bs (tailN zs.length) = ⟨⟨tailN zs.length⟩⟩ from rfl, bs_app, bs_list]
  have hsz : (SD zs ++ TD zs.length).size ≤ 65536 := by
    have : (SD zs ++ TD zs.length).size = (SD zs ++ TD zs.length).data.toList.length := by simp
    rw [this, hl, List.length_append, deep_size, tail_size]
    omega
  refine (rp_str (deep_rtk zs) (by rw [deepL_len]; omega) hsz (fun b hb => ?_) (by have := deep_tree (csI zs) (by omega); rw [hc8] at this; exact this) cap w).mono ?_
  · rw [hl] at hb
    rcases List.mem_append.1 hb with hb | hb
    · obtain ⟨c, h1, h2⟩ := List.mem_flatMap.1 hb
      exact bytes_let c (csI_isL zs c h1) b h2
    · exact bytes_tail _ b hb
  · rintro e w' ⟨N, h1, h2, h3⟩
    refine ⟨N, h1, h3, fun W hW => ?_⟩
    have := check_any (K := 12) (h2.below hW) (str_node 44 (str_deep _)) (deep_bd (csI zs)) (by decide) (by omega)
    rw [deep_check (csI_isL zs)] at this
    exact this
end Go.Proofs.YtinoaajohkafmaaGreat.Ey
