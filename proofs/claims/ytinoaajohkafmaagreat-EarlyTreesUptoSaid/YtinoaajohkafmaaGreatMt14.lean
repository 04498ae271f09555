/-
  The printer's layouts.
-/
import Derived.Test.YtinoaajohkafmaaGreatMt12
import Derived.Test.YtinoaajohkafmaaGreatMt13
import Derived.Laws.IdiomStrings
import Derived.Laws.Concat
namespace Go.Proofs.YtinoaajohkafmaaGreat.Pr
open Go Go.RowKit Go.Proofs.YtinoaajohkafmaaGreat.Pa Go.Proofs.YtinoaajohkafmaaGreat.Uni
open Go.Proofs.YtinoaajohkafmaaGreat.Lx
set_option linter.unusedVariables false
set_option linter.unusedSimpArgs false
def AddP (a b : ByteArray) : Sem Value := Op.stringOp .add a b
theorem adP (a b : ByteArray) : Op.stringOp .add a b = AddP a b := (rfl)
theorem bs_ap (a b : By) : bs a ++ bs b = bs (a ++ b) := by
  unfold bs
  apply ByteArray.ext
  simp
theorem run_adP (a b : By) (ha : a.length ≤ 100000000) (hb : b.length ≤ 100000000) (w : World) : (AddP (bs a) (bs b)).run Tryz.prog w = .ok (.string (bs (a ++ b))) w := by
  rw [← bs_ap]
  have h1 : (bs a).size ≤ 100000000 := by rw [bs_size]; exact ha
  have h2 : (bs b).size ≤ 100000000 := by rw [bs_size]; exact hb
  unfold AddP
  exact run_string_add_sum (P := Tryz.prog) (w := w) (bs a) (bs b) (by omega)
theorem cat3 (a b c : By) (h : a.length + b.length + c.length ≤ 100000000) : ∃ S, (∀ w, (AddP (bs a) (bs b)).run Tryz.prog w = .ok (.string S) w) ∧ ∀ w, (AddP S (bs c)).run Tryz.prog w = .ok (.string (bs (a ++ b ++ c))) w :=
  ⟨bs (a ++ b), fun w => run_adP a b (by omega) (by omega) w, fun w => run_adP (a ++ b) c (by simp; omega) (by omega) w⟩
attribute [local go_sem ↓] ldK stK alK bdK bsK ldN stN alN bdN bsN ldS stS alS bdS adP
attribute [local irreducible] kcs ncs ncells scs AddP
theorem rep_eq (s : By) : ∀ n, Lib.repeatL s n = repB s n
  | 0 => rfl
  | n + 1 => by rw [Lib.repeatL, repB, rep_eq s n]
theorem rep_lenP (l : By) : ∀ n, (repB l n).length = n * l.length
  | 0 => by simp [repB]
  | n + 1 => by rw [repB, List.length_append, rep_lenP l n, Nat.succ_mul]; omega
theorem repeat_s (s : By) (c : Nat) (w : World) (hc : c ≤ 1000000) (hs : s.length ≤ 10) : Calls Tryz.prog 111 #[.string (bs s), .int .i64 (c : Int)] w (PostR w (.string (bs (repB s c)))) := by
  have hm : s.length * c ≤ 10 * c := Nat.mul_le_mul_right _ hs
  refine (Tryz.strings_Repeat (bs s) c w (by omega) (by rw [bs_size]; omega)).mono ?_
  rintro e w' ⟨rfl, hb⟩
  refine ⟨?_, hb⟩
  rw [bs_list, rep_eq]
  rfl
set_option maxRecDepth 100000 in
theorem repeated_any (s : By) (n : Int) (w : World) (hs : s.length ≤ 10) (h0 : -1 ≤ n) (hn : n ≤ 1000000) : Calls Tryz.prog 96 #[.string (bs s), .int .i64 n] w (PostR w (.string (bs (repB s n.toNat)))) := by
  obtain ⟨c, hc⟩ : ∃ c : Nat, n.toNat = c := ⟨_, rfl⟩
  have hm : max n 0 = (c : Int) := by omega
  have cr := repeat_s s c w (by omega) hs
  rw [hc]
  obtain ⟨R, hR⟩ : ∃ R, bs (repB s c) = R := ⟨_, rfl⟩
  rw [hR] at cr ⊢
  obtain ⟨B, hB⟩ : ∃ B, bs s = B := ⟨_, rfl⟩
  rw [hB] at cr ⊢
  clear hs h0 hn hR hB hc
  go_enter Tryz.func96, Tryz.ntmps96
  go_wp2_with (go_at_call 111; (with_reducible refine cr.mono ?_); intro e w2 hp; obtain ⟨rfl, hb⟩ := hp; have HB := Lib.hid hb; clear hb)
  go_ret
  exact ⟨rfl, HB.out⟩
theorem list_tail (c : UInt8) : ∀ n, repB [c, 44, 32] (n + 1) = listB c (n + 1) ++ [44, 32]
  | 0 => rfl
  | n + 1 => by
    rw [repB, list_tail c n, listB]
    simp
theorem trim_list (c : UInt8) (n : Nat) : Lib.trimSuffix (repB [c, 44, 32] n) [44, 32] = listB c n := by
  cases n with
  | zero => rfl
  | succ n =>
    rw [list_tail]
    unfold Lib.trimSuffix Lib.hasSuffix
    rw [if_pos (by simp)]
    simp
theorem list_len (c : UInt8) : ∀ n, (listB c n).length ≤ 3 * n
  | 0 => by simp [listB]
  | 1 => by simp [listB]
  | n + 2 => by
    have := list_len c (n + 1)
    rw [listB]
    simp at this ⊢
    omega
set_option maxRecDepth 100000 in
theorem list_any (c : UInt8) (n : Int) (w : World) (h0 : -1 ≤ n) (hn : n ≤ 1000000) : Calls Tryz.prog 92 #[.string (bs [c]), .int .i64 n] w (PostR w (.string (bs (listB c n.toNat)))) := by
  have z1 : ∀ w, (AddP (bs [c]) ⟨#[44, 32]⟩).run Tryz.prog w = .ok (.string (bs [c, 44, 32])) w := fun w => run_adP [c] [44, 32] (by simp) (by simp) w
  have cr := fun w => repeated_any [c, 44, 32] n w (by simp) h0 hn
  have ct := fun w => Tryz.strings_TrimSuffix (bs (repB [c, 44, 32] n.toNat)) ⟨#[44, 32]⟩ w (by rw [bs_size, rep_lenP]; simp; omega)
  have ct : ∀ w, Calls Tryz.prog 110 #[.string (bs (repB [c, 44, 32] n.toNat)), .string ⟨#[44, 32]⟩] w (PostR w (.string (bs (listB c n.toNat)))) := fun w => by
    refine (ct w).mono ?_
    rintro e w' ⟨rfl, rfl⟩
    refine ⟨?_, Below.refl _ _⟩
    rw [bs_list, show (⟨#[44, 32]⟩ : ByteArray).data.toList = [44, 32] from rfl, trim_list]
    rfl
  obtain ⟨R, hR⟩ : ∃ R, bs (listB c n.toNat) = R := ⟨_, rfl⟩
  obtain ⟨B, hB⟩ : ∃ B, bs (repB [c, 44, 32] n.toNat) = B := ⟨_, rfl⟩
  obtain ⟨C, hC⟩ : ∃ C, bs [c] = C := ⟨_, rfl⟩
  obtain ⟨D, hD⟩ : ∃ D, bs [c, 44, 32] = D := ⟨_, rfl⟩
  rw [hR] at ct ⊢
  rw [hB] at ct cr
  rw [hC] at z1 ⊢
  rw [hD] at z1 cr
  clear hR hB hC hD h0 hn
  go_enter Tryz.func92, Tryz.ntmps92
  go_wp2_with (first | (go_at_call 96; (with_reducible refine (cr _).mono ?_); intro e w2 hp; obtain ⟨rfl, hb⟩ := hp; have HB := Lib.hid hb; clear hb) | (go_at_call 110; (with_reducible refine (ct _).mono ?_); intro e w2 hp; obtain ⟨rfl, hb⟩ := hp; have HB2 := Lib.hid (HB.out.trans (hb.mono HB.out.size)); clear hb))
  go_ret
  exact ⟨rfl, HB2.out⟩
theorem brace_len (n : Nat) : (braceB n).length = 2 * n + 3 := by
  unfold braceB
  rw [List.length_append, List.length_append, rep_lenP]
  simp
  omega
set_option maxRecDepth 100000 in
set_option maxHeartbeats 4000000 in
theorem braced_any {w : World} {b o : Nat} {N : Nd} {k n : Int} {tx : ByteArray} {ns : List ByteArray} {ks : List Tree} (h : TAt w b o (.mk k n tx ns ks) N) (hl : ks.length ≤ 100000) : Calls Tryz.prog 91 #[.pointer (some ⟨b, o, none⟩)] w (PostR w (.string (bs (braceB ks.length)))) := by
  have n0 := h.k.kind (Below.refl _ _)
  have n1 := h.k.num (Below.refl _ _)
  have n2 := h.k.text (Below.refl _ _)
  have n4 := h.k.kids (Below.refl _ _)
  have e5 := h.kids
  have HB : Hid (Below w.heap.size w w) := Lib.hid (Below.refl _ _)
  rw [show N.kind = k from rd_kind h.r] at n0
  rw [show N.num = n from rd_num h.r] at n1
  rw [show N.text = tx from rd_text h.r] at n2
  rw [e5] at n4
  obtain ⟨m, hm⟩ : ∃ m, ks.length = m := ⟨_, rfl⟩
  rw [hm] at n4 hl ⊢
  have cr := fun w => repeated_any [32, 83] (m : Int) w (by simp) (by omega) (by omega)
  rw [show (m : Int).toNat = m from rfl] at cr
  obtain ⟨S2, z1, z2⟩ := cat3 [123] (repB [32, 83] m) [32, 125] (by rw [rep_lenP]; simp; omega)
  have z1 : ∀ w, (AddP ⟨#[123]⟩ (bs (repB [32, 83] m))).run Tryz.prog w = .ok (.string S2) w := z1
  have z2 : ∀ w, (AddP S2 ⟨#[32, 125]⟩).run Tryz.prog w = .ok (.string (bs (braceB m))) w := z2
  have cr : ∀ w, Calls Tryz.prog 96 #[.string ⟨#[32, 83]⟩, .int .i64 (m : Int)] w (PostR w (.string (bs (repB [32, 83] m)))) := cr
  obtain ⟨R, hR⟩ : ∃ R, bs (braceB m) = R := ⟨_, rfl⟩
  obtain ⟨Q, hQ⟩ : ∃ Q, bs (repB [32, 83] m) = Q := ⟨_, rfl⟩
  rw [hR] at z2 ⊢
  rw [hQ] at z1 cr
  clear h hl hm hR hQ e5
  go_enter Tryz.func91, Tryz.ntmps91
  go_wp2_with (first | (go_at_call 96; (with_reducible refine (cr _).mono ?_); intro e w2 hp; obtain ⟨rfl, hb⟩ := hp; have HB := Lib.hid (HB.out.trans (hb.mono HB.out.size)); clear hb))
  go_ret
  exact ⟨rfl, HB.out⟩
set_option maxRecDepth 100000 in
set_option maxHeartbeats 4000000 in
theorem flay_71 {w : World} {b o : Nat} {N : Nd} {k n : Int} {tx : ByteArray} {ns : List ByteArray} {ks : List Tree} (h : TAt w b o (.mk k n tx ns ks) N) (hl : ks.length ≤ 100000) : Calls Tryz.prog 65 #[.pointer (some ⟨b, o, none⟩), .int .i32 71] w (PostR w (.string (bs (funL 71 ks.length)))) := by
  have cb := braced_any h hl
  have HB : Hid (Below w.heap.size w w) := Lib.hid (Below.refl _ _)
  obtain ⟨m, hm⟩ : ∃ m, ks.length = m := ⟨_, rfl⟩
  rw [hm] at cb hl ⊢
  have hlen := brace_len m
  have z1 : ∀ w, (AddP ⟨#[40, 64, 41, 32]⟩ (bs (braceB m))).run Tryz.prog w = .ok (.string (bs ([40, 64, 41, 32] ++ braceB m))) w := fun w => run_adP [40, 64, 41, 32] (braceB m) (by simp) (by omega) w
  obtain ⟨R, hR⟩ : ∃ R, bs (funL 71 m) = R := ⟨_, rfl⟩
  obtain ⟨Q, hQ⟩ : ∃ Q, bs (braceB m) = Q := ⟨_, rfl⟩
  obtain ⟨P, hP⟩ : ∃ P, bs ([40, 64, 41, 32] ++ braceB m) = P := ⟨_, rfl⟩
  rw [hQ] at cb z1
  have e : bs (funL 71 m) = bs ([40, 64, 41, 32] ++ braceB m) := rfl
  rw [e, hP] at hR
  rw [hP] at z1
  rw [e, hP]
  clear h hl hm hR hQ hP hlen
  go_enter Tryz.func65, Tryz.ntmps65
  go_wp2_with (first | (go_at_call 91; (with_reducible refine (cb).mono ?_); intro e w2 hp; obtain ⟨rfl, hb⟩ := hp; have HB := Lib.hid (HB.out.trans (hb.mono HB.out.size)); clear hb))
  go_ret
  exact ⟨rfl, HB.out⟩
set_option maxRecDepth 100000 in
set_option maxHeartbeats 4000000 in
theorem flay_72 {w : World} {b o : Nat} {N : Nd} {k n : Int} {tx : ByteArray} {ns : List ByteArray} {ks : List Tree} (h : TAt w b o (.mk k n tx ns ks) N) (hl : ks.length ≤ 100000) : Calls Tryz.prog 65 #[.pointer (some ⟨b, o, none⟩), .int .i32 72] w (PostR w (.string (bs (funL 72 ks.length)))) := by
  have cb := braced_any h hl
  have HB : Hid (Below w.heap.size w w) := Lib.hid (Below.refl _ _)
  obtain ⟨m, hm⟩ : ∃ m, ks.length = m := ⟨_, rfl⟩
  rw [hm] at cb hl ⊢
  have hlen := brace_len m
  have z1 : ∀ w, (AddP ⟨#[40, 64, 41, 32]⟩ (bs (braceB m))).run Tryz.prog w = .ok (.string (bs ([40, 64, 41, 32] ++ braceB m))) w := fun w => run_adP [40, 64, 41, 32] (braceB m) (by simp) (by omega) w
  obtain ⟨R, hR⟩ : ∃ R, bs (funL 72 m) = R := ⟨_, rfl⟩
  obtain ⟨Q, hQ⟩ : ∃ Q, bs (braceB m) = Q := ⟨_, rfl⟩
  obtain ⟨P, hP⟩ : ∃ P, bs ([40, 64, 41, 32] ++ braceB m) = P := ⟨_, rfl⟩
  rw [hQ] at cb z1
  have e : bs (funL 72 m) = bs ([40, 64, 41, 32] ++ braceB m) := rfl
  rw [e, hP] at hR
  rw [hP] at z1
  rw [e, hP]
  clear h hl hm hR hQ hP hlen
  go_enter Tryz.func65, Tryz.ntmps65
  go_wp2_with (first | (go_at_call 91; (with_reducible refine (cb).mono ?_); intro e w2 hp; obtain ⟨rfl, hb⟩ := hp; have HB := Lib.hid (HB.out.trans (hb.mono HB.out.size)); clear hb))
  go_ret
  exact ⟨rfl, HB.out⟩
set_option maxRecDepth 100000 in
set_option maxHeartbeats 4000000 in
theorem flay_70 {w : World} {b o : Nat} {N : Nd} {k n : Int} {tx : ByteArray} {ns : List ByteArray} {ks : List Tree} (h : TAt w b o (.mk k n tx ns ks) N) (hl : ks.length ≤ 100000) : Calls Tryz.prog 65 #[.pointer (some ⟨b, o, none⟩), .int .i32 70] w (PostR w (.string (bs (funL 70 ks.length)))) := by
  have cb := braced_any h hl
  have HB : Hid (Below w.heap.size w w) := Lib.hid (Below.refl _ _)
  obtain ⟨m, hm⟩ : ∃ m, ks.length = m := ⟨_, rfl⟩
  rw [hm] at cb hl ⊢
  have hlen := brace_len m
  have z1 : ∀ w, (AddP ⟨#[40, 64, 41, 32]⟩ (bs (braceB m))).run Tryz.prog w = .ok (.string (bs ([40, 64, 41, 32] ++ braceB m))) w := fun w => run_adP [40, 64, 41, 32] (braceB m) (by simp) (by omega) w
  have z2 : ∀ w, (AddP ⟨#[102, 117, 110, 99, 116, 105, 111, 110, 32, 35]⟩ (bs ([40, 64, 41, 32] ++ braceB m))).run Tryz.prog w = .ok (.string (bs (funL 70 m))) w := fun w => run_adP [102, 117, 110, 99, 116, 105, 111, 110, 32, 35] ([40, 64, 41, 32] ++ braceB m) (by simp) (by simp; omega) w
  obtain ⟨R, hR⟩ : ∃ R, bs (funL 70 m) = R := ⟨_, rfl⟩
  obtain ⟨Q, hQ⟩ : ∃ Q, bs (braceB m) = Q := ⟨_, rfl⟩
  obtain ⟨P, hP⟩ : ∃ P, bs ([40, 64, 41, 32] ++ braceB m) = P := ⟨_, rfl⟩
  rw [hQ] at cb z1
  rw [hP] at z1 z2
  rw [hR] at z2 ⊢
  clear h hl hm hR hQ hP hlen
  go_enter Tryz.func65, Tryz.ntmps65
  go_wp2_with (first | (go_at_call 91; (with_reducible refine (cb).mono ?_); intro e w2 hp; obtain ⟨rfl, hb⟩ := hp; have HB := Lib.hid (HB.out.trans (hb.mono HB.out.size)); clear hb))
  go_ret
  exact ⟨rfl, HB.out⟩
set_option maxRecDepth 100000 in
set_option maxHeartbeats 4000000 in
theorem flay_65 {w : World} {b o : Nat} {N : Nd} {k n : Int} {tx : ByteArray} {ns : List ByteArray} {ks : List Tree} (h : TAt w b o (.mk k n tx ns ks) N) (hl : ks.length ≤ 100000) : Calls Tryz.prog 65 #[.pointer (some ⟨b, o, none⟩), .int .i32 65] w (PostR w (.string (bs (funL 65 ks.length)))) := by
  have cb := braced_any h hl
  have HB : Hid (Below w.heap.size w w) := Lib.hid (Below.refl _ _)
  obtain ⟨m, hm⟩ : ∃ m, ks.length = m := ⟨_, rfl⟩
  rw [hm] at cb hl ⊢
  have hlen := brace_len m
  have z1 : ∀ w, (AddP ⟨#[40, 64, 41, 32]⟩ (bs (braceB m))).run Tryz.prog w = .ok (.string (bs ([40, 64, 41, 32] ++ braceB m))) w := fun w => run_adP [40, 64, 41, 32] (braceB m) (by simp) (by omega) w
  obtain ⟨S2, z2, z3⟩ := cat3 [40, 102, 117, 110, 99, 116, 105, 111, 110, 32, 35] ([40, 64, 41, 32] ++ braceB m) [41] (by simp; omega)
  have z2 : ∀ w, (AddP ⟨#[40, 102, 117, 110, 99, 116, 105, 111, 110, 32, 35]⟩ (bs ([40, 64, 41, 32] ++ braceB m))).run Tryz.prog w = .ok (.string S2) w := z2
  have z3 : ∀ w, (AddP S2 ⟨#[41]⟩).run Tryz.prog w = .ok (.string (bs (funL 65 m))) w := z3
  obtain ⟨R, hR⟩ : ∃ R, bs (funL 65 m) = R := ⟨_, rfl⟩
  obtain ⟨Q, hQ⟩ : ∃ Q, bs (braceB m) = Q := ⟨_, rfl⟩
  obtain ⟨P, hP⟩ : ∃ P, bs ([40, 64, 41, 32] ++ braceB m) = P := ⟨_, rfl⟩
  rw [hQ] at cb z1
  rw [hP] at z1 z2
  rw [hR] at z3 ⊢
  clear h hl hm hR hQ hP hlen
  go_enter Tryz.func65, Tryz.ntmps65
  go_wp2_with (first | (go_at_call 91; (with_reducible refine (cb).mono ?_); intro e w2 hp; obtain ⟨rfl, hb⟩ := hp; have HB := Lib.hid (HB.out.trans (hb.mono HB.out.size)); clear hb))
  go_ret
  exact ⟨rfl, HB.out⟩
end Go.Proofs.YtinoaajohkafmaaGreat.Pr
