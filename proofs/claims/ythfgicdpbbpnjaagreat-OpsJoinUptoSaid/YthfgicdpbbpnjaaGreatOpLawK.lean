/-
  The walk of OpsJoin, whatever the strings.
-/
import Derived.Test.YthfgicdpbbpnjaaGreatOpLawJ
namespace Go.Proofs.YthfgicdpbbpnjaaGreat.Ops
open Go Go.RowKit Go.Proofs.YthfgicdpbbpnjaaGreat.Uni
open Go.Proofs.YthfgicdpbbpnjaaGreat.Vals (bnext ball rightF rtF rnF)
set_option linter.unusedVariables false

/-- A valid string whose units are u. -/
structure Txt (s : ByteArray) (u : List Nat) : Prop where
  right : (pts s).isSome = true
  un : units s = u
theorem txt_tx {u : List Nat} (h : ∀ x ∈ u, x < 65536) : Txt (tx u) u := ⟨by rw [tx_pts h]; rfl, tx_units h⟩
theorem jn_tx {s t : ByteArray} {u v : List Nat} (hs : Txt s u) (ht : Txt t v) : jn s t = tx (u ++ v) := by
  unfold jn
  rw [if_pos ⟨hs.right, ht.right⟩, hs.un, ht.un]
theorem txt_bd {s : ByteArray} {u : List Nat} (h : Txt s u) : ∀ x ∈ u, x < 65536 := by
  rw [← h.un]
  exact units_bd s
theorem jn_txt {s t : ByteArray} {u v : List Nat} (hs : Txt s u) (ht : Txt t v) : Txt (jn s t) (u ++ v) := by
  rw [jn_tx hs ht]
  refine txt_tx fun x hx => ?_
  rcases List.mem_append.1 hx with h | h
  · exact txt_bd hs x h
  · exact txt_bd ht x h
theorem rV_s {s : ByteArray} {u : List Nat} (h : Txt s u) (hl : u.length ≤ 10000) : rV (sV s) = true := by
  have e : rV (sV s) = (((0 : Int) == 0) && rtF s) := rfl
  rw [e]
  simp only [rtF, h.right, h.un]
  simp [hl]
theorem add_s (s t : ByteArray) (u v : List Nat) (hs : Txt s u) (ht : Txt t v) (zs : s.size ≤ 100000) (zt : t.size ≤ 100000) (hl : u.length + v.length ≤ 10000) (w : World) :
    Calls Tryz.prog 8 #[.string ⟨#[43]⟩, .agg (vcs (sV s)), .agg (vcs (sV t))] w fun e w' => e = retV (sV (jn s t)) ⟨#[]⟩ ∧ Below w.heap.size w w' :=
  bin_add (sV s) (sV t) (sV (jn s t)) ⟨#[]⟩ (rV_s hs (by omega)) (rV_s ht (by omega)) (show s.size ≤ 2000000 by omega) (show t.size ≤ 2000000 by omega)
    (fun w => added_ss (sV s) (sV t) (sV (jn s t)) ⟨#[]⟩ rfl rfl (fun w => joined_ss (sV s) (sV t) s t _ _ rfl rfl (txt_s _ _) (txt_s _ _) zs zt (by rw [hs.un]) (by rw [ht.un]) hl w) w) w

theorem lawJoin_walk (a b c : ByteArray) (w : World) (sa : a.size ≤ 2000000) (sb : b.size ≤ 2000000) (sc : c.size ≤ 2000000) :
    Calls Tryz.prog 4 #[.string a, .string b, .string c] w fun e w' => e = .returned (.bool true) ∧ Below w.heap.size w w' := by
  cases ha : (pts a).isSome with
  | false => exact join_no1 a b c w sa sb sc ha
  | true =>
  cases hb : (pts b).isSome with
  | false => exact join_no2 a b c w sa sb sc ha hb
  | true =>
  cases hc : (pts c).isSome with
  | false => exact join_no3 a b c w sa sb sc ha hb hc
  | true =>
  by_cases la : (200 : Int) < (a.size : Int)
  · exact join_l1 a b c w sa sb sc ha hb hc la
  · by_cases lb : (200 : Int) < (b.size : Int)
    · exact join_l2 a b c w sa sb sc ha hb hc (by omega) lb
    · by_cases lc : (200 : Int) < (c.size : Int)
      · exact join_l3 a b c w sa sb sc ha hb hc (by omega) (by omega) lc
      · have ua := units_le a
        have ub := units_le b
        have uc := units_le c
        have ta : Txt a (units a) := ⟨ha, rfl⟩
        have tb : Txt b (units b) := ⟨hb, rfl⟩
        have tc : Txt c (units c) := ⟨hc, rfl⟩
        have tab := jn_txt ta tb
        have tbc := jn_txt tb tc
        have zab : (jn a b).size ≤ 100000 := by
          rw [jn_tx ta tb]
          have := tx_size (units a ++ units b)
          rw [List.length_append] at this
          omega
        have zbc : (jn b c).size ≤ 100000 := by
          rw [jn_tx tb tc]
          have := tx_size (units b ++ units c)
          rw [List.length_append] at this
          omega
        have hq : jn (jn a b) c = jn a (jn b c) := by rw [jn_tx tab tc, jn_tx ta tbc, List.append_assoc]
        have h4 := fun w => add_s a (jn b c) _ _ ta tbc (by omega) zbc (by rw [List.length_append]; omega) w
        rw [← hq] at h4
        exact join_main a b c w sa sb sc ha hb hc (by omega) (by omega) (by omega) (sV (jn a b)) (sV (jn b c)) (jn (jn a b) c)
          (Lib.hid fun w => add_s a b _ _ ta tb (by omega) (by omega) (by omega) w)
          (Lib.hid fun w => add_s (jn a b) c _ _ tab tc zab (by omega) (by rw [List.length_append]; omega) w)
          (Lib.hid fun w => add_s b c _ _ tb tc (by omega) (by omega) (by omega) w)
          (Lib.hid h4)
end Go.Proofs.YthfgicdpbbpnjaaGreat.Ops
