/-
  A text is told by what stands between its quotes, and all of that can be printed.
-/
import Derived.Test.YtlboaldikgonoaaDoorVaQm
namespace Go.Proofs.YtlboaldikgonoaaDoor.Vals
open Go.RowKit Go.Proofs.YtlboaldikgonoaaDoor.Uni
set_option linter.unusedVariables false

theorem toU8_inj {a b : Nat} (ha : a < 256) (hb : b < 256) (h : Nat.toUInt8 a = Nat.toUInt8 b) : a = b := by
  have := congrArg UInt8.toNat h
  simp at this
  omega
theorem dsOf_inj {u v : Nat} (hu : u < 65536) (hv : v < 65536) (h : dsOf u 4 = dsOf v 4) : u = v := by
  simp only [dsOf, List.cons.injEq, and_true] at h
  obtain ⟨h3, h2, h1, h0⟩ := h
  have e3 := hexd_inj (Nat.mod_lt _ (by decide)) (Nat.mod_lt _ (by decide)) h3
  have e2 := hexd_inj (Nat.mod_lt _ (by decide)) (Nat.mod_lt _ (by decide)) h2
  have e1 := hexd_inj (Nat.mod_lt _ (by decide)) (Nat.mod_lt _ (by decide)) h1
  have e0 := hexd_inj (Nat.mod_lt _ (by decide)) (Nat.mod_lt _ (by decide)) h0
  simp at e3 e2 e1 e0
  omega
theorem map_u8_inj : ∀ {l m : List Nat}, (∀ x ∈ l, x < 256) → (∀ x ∈ m, x < 256) → l.map Nat.toUInt8 = m.map Nat.toUInt8 → l = m
  | [], [], _, _, _ => rfl
  | [], b :: m, _, _, h => by simp at h
  | a :: l, [], _, _, h => by simp at h
  | a :: l, b :: m, hl, hm, h => by
    simp only [List.map_cons, List.cons.injEq] at h
    have e1 := toU8_inj (hl a (List.mem_cons_self ..)) (hm b (List.mem_cons_self ..)) h.1
    have e2 := map_u8_inj (fun x hx => hl x (List.mem_cons_of_mem _ hx)) (fun x hx => hm x (List.mem_cons_of_mem _ hx)) h.2
    rw [e1, e2]
theorem escL_inj {u v : Nat} (hu : u < 65536) (hv : v < 65536) (h : escL u = escL v) : u = v := by
  unfold escL at h
  have h2 := List.append_cancel_left h
  exact dsOf_inj hu hv (map_u8_inj (fun x hx => by have := dsOf_lt u 4 x hx; omega) (fun x hx => by have := dsOf_lt v 4 x hx; omega) h2)
theorem plain_ne {u : Nat} (h : plainB u = true) : Nat.toUInt8 u ≠ 92 := by
  intro e
  have hp := plain_iff.1 h
  have := congrArg UInt8.toNat e
  simp at this
  omega
theorem qUs_cons (u : Nat) (r : List Nat) : qUs (u :: r) = qU u ++ qUs r := by simp [qUs]
theorem qU_ne (u : Nat) : qU u ≠ [] := by
  unfold qU
  split
  · simp
  · simp [escL]
theorem qUs_inj : ∀ {l m : List Nat}, (∀ x ∈ l, x < 65536) → (∀ x ∈ m, x < 65536) → qUs l = qUs m → l = m
  | [], [], _, _, _ => rfl
  | [], b :: m, _, _, h => by
    rw [qUs_nil, qUs_cons] at h
    exact absurd (List.append_eq_nil_iff.1 h.symm).1 (qU_ne b)
  | a :: l, [], _, _, h => by
    rw [qUs_nil, qUs_cons] at h
    exact absurd (List.append_eq_nil_iff.1 h).1 (qU_ne a)
  | a :: l, b :: m, hl, hm, h => by
    have ha := hl a (List.mem_cons_self ..)
    have hb := hm b (List.mem_cons_self ..)
    rw [qUs_cons, qUs_cons] at h
    have key : a = b ∧ qUs l = qUs m := by
      cases pa : plainB a with
      | true =>
        cases pb : plainB b with
        | true =>
          rw [qU_plain pa, qU_plain pb] at h
          simp only [List.cons_append, List.nil_append, List.cons.injEq] at h
          have h1 := plain_iff.1 pa
          have h2 := plain_iff.1 pb
          exact ⟨toU8_inj (by omega) (by omega) h.1, h.2⟩
        | false =>
          rw [qU_plain pa, qU_esc pb] at h
          simp only [escL, List.cons_append, List.nil_append, List.cons.injEq] at h
          exact absurd h.1 (plain_ne pa)
      | false =>
        cases pb : plainB b with
        | true =>
          rw [qU_esc pa, qU_plain pb] at h
          simp only [escL, List.cons_append, List.nil_append, List.cons.injEq] at h
          exact absurd h.1.symm (plain_ne pb)
        | false =>
          rw [qU_esc pa, qU_esc pb] at h
          have hlen : (escL a).length = (escL b).length := by rw [escL_len, escL_len]
          have := List.append_inj h hlen
          exact ⟨escL_inj ha hb this.1, this.2⟩
    rw [key.1, qUs_inj (fun x hx => hl x (List.mem_cons_of_mem _ hx)) (fun x hx => hm x (List.mem_cons_of_mem _ hx)) key.2]

theorem uns_lt {L : List Nat} (h : ∀ c ∈ L, c ≤ 1114111) : ∀ u ∈ uns L, u < 65536 := by
  intro u hu
  unfold uns at hu
  simp only [List.mem_flatMap] at hu
  obtain ⟨c, hc, hu⟩ := hu
  exact un_lt (h c hc) u hu
theorem quoteL_inj {a b : ByteArray} {A B : List Nat} (ha : pts a = some A) (hb : pts b = some B) (h : quoteL a = quoteL b) : a = b := by
  have ea : quoteL a = [34] ++ qUs (uns A) ++ [34] := by unfold quoteL units; rw [ha]; rfl
  have eb : quoteL b = [34] ++ qUs (uns B) ++ [34] := by unfold quoteL units; rw [hb]; rfl
  rw [ea, eb] at h
  have h1 := List.append_cancel_left (List.append_cancel_right h)
  have bA := pts_bd ha
  have bB := pts_bd hb
  have h2 := qUs_inj (uns_lt bA) (uns_lt bB) h1
  have pa := pts_back ha
  have pb := pts_back hb
  have h3 : A = B := by rw [← cps_uns A bA pa.2, ← cps_uns B bB pb.2, h2]
  apply ByteArray.ext
  apply Array.toList_inj.1
  rw [pa.1, pb.1, h3]

theorem hex_print {d : Nat} (h : d < 16) : 32 ≤ (Nat.toUInt8 (hexd d)).toNat ∧ (Nat.toUInt8 (hexd d)).toNat ≤ 126 := by
  have := hexd_cases h
  simp
  omega
theorem ds_print (u : Nat) : ∀ k, ∀ x ∈ (dsOf u k).map Nat.toUInt8, 32 ≤ x.toNat ∧ x.toNat ≤ 126
  | 0 => fun x h => by simp [dsOf] at h
  | k + 1 => fun x h => by
    simp only [dsOf, List.map_cons, List.mem_cons] at h
    rcases h with rfl | h
    · exact hex_print (Nat.mod_lt _ (by decide))
    · exact ds_print u k x h
theorem qU_print (u : Nat) : ∀ x ∈ qU u, 32 ≤ x.toNat ∧ x.toNat ≤ 126 := by
  intro x hx
  cases pu : plainB u with
  | true =>
    rw [qU_plain pu] at hx
    simp only [List.mem_singleton] at hx
    have := plain_iff.1 pu
    rw [hx]
    simp
    omega
  | false =>
    rw [qU_esc pu] at hx
    unfold escL at hx
    simp only [List.cons_append, List.nil_append, List.mem_cons] at hx
    rcases hx with rfl | rfl | hx
    · decide
    · decide
    · exact ds_print u 4 x hx
theorem quote_print (s : ByteArray) : ∀ x ∈ quoteL s, 32 ≤ x.toNat ∧ x.toNat ≤ 126 := by
  intro x hx
  unfold quoteL qUs at hx
  simp only [List.mem_append, List.mem_singleton, List.mem_flatMap] at hx
  rcases hx with (rfl | ⟨u, _, hx⟩) | rfl
  · decide
  · exact qU_print u x hx
  · decide
theorem quote_two (s : ByteArray) : 2 ≤ (quoteL s).length := by unfold quoteL; simp
end Go.Proofs.YtlboaldikgonoaaDoor.Vals
