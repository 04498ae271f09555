/-
  The printer's layouts: statements, and all together.
-/
import Derived.Test.YtinoaajohkafmaaGreatMw10
namespace Go.Proofs.YtinoaajohkafmaaGreat.Pr
open Go Go.RowKit Go.Proofs.YtinoaajohkafmaaGreat.Pa Go.Proofs.YtinoaajohkafmaaGreat.Uni
open Go.Proofs.YtinoaajohkafmaaGreat.Lx
set_option linter.unusedVariables false
set_option linter.unusedSimpArgs false
attribute [local go_sem ↓] ldK stK alK bdK bsK ldN stN alN bdN bsN ldS stS alS bdS adP
attribute [local irreducible] kcs ncs ncells scs AddP
set_option maxRecDepth 100000 in
set_option maxHeartbeats 4000000 in
theorem slay_31 {w : World} {b o : Nat} {N : Nd} {n : Int} {tx : ByteArray} {ns : List ByteArray} {ks : List Tree} (h : TAt w b o (.mk 31 n tx ns ks) N)  : Calls Tryz.prog 67 #[.pointer (some ⟨b, o, none⟩)] w (PostR w (.string (bs (stL 31 n ks.length)))) := by
  have n0 := h.k.kind (Below.refl _ _)
  have n1 := h.k.num (Below.refl _ _)
  have n2 := h.k.text (Below.refl _ _)
  have n4 := h.k.kids (Below.refl _ _)
  have e5 := h.kids
  have HB : Hid (Below w.heap.size w w) := Lib.hid (Below.refl _ _)
  rw [show N.kind = 31 from rd_kind h.r] at n0
  rw [show N.num = n from rd_num h.r] at n1
  rw [show N.text = tx from rd_text h.r] at n2
  rw [e5] at n4
  have e : stL 31 n ks.length = [99, 111, 110, 115, 116, 32, 35, 32, 61, 32, 65, 59] := by simp [exL, stL]
  rw [e]
  clear h e5 e 
  go_enter Tryz.func67, Tryz.ntmps67
  go_wp2
  go_ret
  exact ⟨rfl, HB.out⟩
set_option maxRecDepth 100000 in
set_option maxHeartbeats 4000000 in
theorem slay_32 {w : World} {b o : Nat} {N : Nd} {n : Int} {tx : ByteArray} {ns : List ByteArray} {ks : List Tree} (h : TAt w b o (.mk 32 n tx ns ks) N)  : Calls Tryz.prog 67 #[.pointer (some ⟨b, o, none⟩)] w (PostR w (.string (bs (stL 32 n ks.length)))) := by
  have n0 := h.k.kind (Below.refl _ _)
  have n1 := h.k.num (Below.refl _ _)
  have n2 := h.k.text (Below.refl _ _)
  have n4 := h.k.kids (Below.refl _ _)
  have e5 := h.kids
  have HB : Hid (Below w.heap.size w w) := Lib.hid (Below.refl _ _)
  rw [show N.kind = 32 from rd_kind h.r] at n0
  rw [show N.num = n from rd_num h.r] at n1
  rw [show N.text = tx from rd_text h.r] at n2
  rw [e5] at n4
  have e : stL 32 n ks.length = [70] := by simp [exL, stL]
  rw [e]
  clear h e5 e 
  go_enter Tryz.func67, Tryz.ntmps67
  go_wp2
  go_ret
  exact ⟨rfl, HB.out⟩
set_option maxRecDepth 100000 in
set_option maxHeartbeats 4000000 in
theorem slay_33 {w : World} {b o : Nat} {N : Nd} {n : Int} {tx : ByteArray} {ns : List ByteArray} {ks : List Tree} (h : TAt w b o (.mk 33 n tx ns ks) N)  : Calls Tryz.prog 67 #[.pointer (some ⟨b, o, none⟩)] w (PostR w (.string (bs (stL 33 n ks.length)))) := by
  have n0 := h.k.kind (Below.refl _ _)
  have n1 := h.k.num (Below.refl _ _)
  have n2 := h.k.text (Below.refl _ _)
  have n4 := h.k.kids (Below.refl _ _)
  have e5 := h.kids
  have HB : Hid (Below w.heap.size w w) := Lib.hid (Below.refl _ _)
  rw [show N.kind = 33 from rd_kind h.r] at n0
  rw [show N.num = n from rd_num h.r] at n1
  rw [show N.text = tx from rd_text h.r] at n2
  rw [e5] at n4
  have e : stL 33 n ks.length = [65, 59] := by simp [exL, stL]
  rw [e]
  clear h e5 e 
  go_enter Tryz.func67, Tryz.ntmps67
  go_wp2
  go_ret
  exact ⟨rfl, HB.out⟩
set_option maxRecDepth 100000 in
set_option maxHeartbeats 4000000 in
theorem slay_35 {w : World} {b o : Nat} {N : Nd} {n : Int} {tx : ByteArray} {ns : List ByteArray} {ks : List Tree} (h : TAt w b o (.mk 35 n tx ns ks) N)  : Calls Tryz.prog 67 #[.pointer (some ⟨b, o, none⟩)] w (PostR w (.string (bs (stL 35 n ks.length)))) := by
  have n0 := h.k.kind (Below.refl _ _)
  have n1 := h.k.num (Below.refl _ _)
  have n2 := h.k.text (Below.refl _ _)
  have n4 := h.k.kids (Below.refl _ _)
  have e5 := h.kids
  have HB : Hid (Below w.heap.size w w) := Lib.hid (Below.refl _ _)
  rw [show N.kind = 35 from rd_kind h.r] at n0
  rw [show N.num = n from rd_num h.r] at n1
  rw [show N.text = tx from rd_text h.r] at n2
  rw [e5] at n4
  have e : stL 35 n ks.length = [119, 104, 105, 108, 101, 32, 40, 65, 41, 32, 83] := by simp [exL, stL]
  rw [e]
  clear h e5 e 
  go_enter Tryz.func67, Tryz.ntmps67
  go_wp2
  go_ret
  exact ⟨rfl, HB.out⟩
set_option maxRecDepth 100000 in
set_option maxHeartbeats 4000000 in
theorem slay_37 {w : World} {b o : Nat} {N : Nd} {n : Int} {tx : ByteArray} {ns : List ByteArray} {ks : List Tree} (h : TAt w b o (.mk 37 n tx ns ks) N)  : Calls Tryz.prog 67 #[.pointer (some ⟨b, o, none⟩)] w (PostR w (.string (bs (stL 37 n ks.length)))) := by
  have n0 := h.k.kind (Below.refl _ _)
  have n1 := h.k.num (Below.refl _ _)
  have n2 := h.k.text (Below.refl _ _)
  have n4 := h.k.kids (Below.refl _ _)
  have e5 := h.kids
  have HB : Hid (Below w.heap.size w w) := Lib.hid (Below.refl _ _)
  rw [show N.kind = 37 from rd_kind h.r] at n0
  rw [show N.num = n from rd_num h.r] at n1
  rw [show N.text = tx from rd_text h.r] at n2
  rw [e5] at n4
  have e : stL 37 n ks.length = [116, 104, 114, 111, 119, 32, 65, 59] := by simp [exL, stL]
  rw [e]
  clear h e5 e 
  go_enter Tryz.func67, Tryz.ntmps67
  go_wp2
  go_ret
  exact ⟨rfl, HB.out⟩
set_option maxRecDepth 100000 in
set_option maxHeartbeats 4000000 in
theorem slay_39 {w : World} {b o : Nat} {N : Nd} {n : Int} {tx : ByteArray} {ns : List ByteArray} {ks : List Tree} (h : TAt w b o (.mk 39 n tx ns ks) N)  : Calls Tryz.prog 67 #[.pointer (some ⟨b, o, none⟩)] w (PostR w (.string (bs (stL 39 n ks.length)))) := by
  have n0 := h.k.kind (Below.refl _ _)
  have n1 := h.k.num (Below.refl _ _)
  have n2 := h.k.text (Below.refl _ _)
  have n4 := h.k.kids (Below.refl _ _)
  have e5 := h.kids
  have HB : Hid (Below w.heap.size w w) := Lib.hid (Below.refl _ _)
  rw [show N.kind = 39 from rd_kind h.r] at n0
  rw [show N.num = n from rd_num h.r] at n1
  rw [show N.text = tx from rd_text h.r] at n2
  rw [e5] at n4
  have e : stL 39 n ks.length = [99, 97, 116, 99, 104, 32, 40, 35, 41, 32, 66] := by simp [exL, stL]
  rw [e]
  clear h e5 e 
  go_enter Tryz.func67, Tryz.ntmps67
  go_wp2
  go_ret
  exact ⟨rfl, HB.out⟩
set_option maxRecDepth 100000 in
set_option maxHeartbeats 4000000 in
theorem slay_41 {w : World} {b o : Nat} {N : Nd} {n : Int} {tx : ByteArray} {ns : List ByteArray} {ks : List Tree} (h : TAt w b o (.mk 41 n tx ns ks) N)  : Calls Tryz.prog 67 #[.pointer (some ⟨b, o, none⟩)] w (PostR w (.string (bs (stL 41 n ks.length)))) := by
  have n0 := h.k.kind (Below.refl _ _)
  have n1 := h.k.num (Below.refl _ _)
  have n2 := h.k.text (Below.refl _ _)
  have n4 := h.k.kids (Below.refl _ _)
  have e5 := h.kids
  have HB : Hid (Below w.heap.size w w) := Lib.hid (Below.refl _ _)
  rw [show N.kind = 41 from rd_kind h.r] at n0
  rw [show N.num = n from rd_num h.r] at n1
  rw [show N.text = tx from rd_text h.r] at n2
  rw [e5] at n4
  have e : stL 41 n ks.length = [98, 114, 101, 97, 107, 59] := by simp [exL, stL]
  rw [e]
  clear h e5 e 
  go_enter Tryz.func67, Tryz.ntmps67
  go_wp2
  go_ret
  exact ⟨rfl, HB.out⟩
set_option maxRecDepth 100000 in
set_option maxHeartbeats 4000000 in
theorem slay_42 {w : World} {b o : Nat} {N : Nd} {n : Int} {tx : ByteArray} {ns : List ByteArray} {ks : List Tree} (h : TAt w b o (.mk 42 n tx ns ks) N)  : Calls Tryz.prog 67 #[.pointer (some ⟨b, o, none⟩)] w (PostR w (.string (bs (stL 42 n ks.length)))) := by
  have n0 := h.k.kind (Below.refl _ _)
  have n1 := h.k.num (Below.refl _ _)
  have n2 := h.k.text (Below.refl _ _)
  have n4 := h.k.kids (Below.refl _ _)
  have e5 := h.kids
  have HB : Hid (Below w.heap.size w w) := Lib.hid (Below.refl _ _)
  rw [show N.kind = 42 from rd_kind h.r] at n0
  rw [show N.num = n from rd_num h.r] at n1
  rw [show N.text = tx from rd_text h.r] at n2
  rw [e5] at n4
  have e : stL 42 n ks.length = [99, 111, 110, 116, 105, 110, 117, 101, 59] := by simp [exL, stL]
  rw [e]
  clear h e5 e 
  go_enter Tryz.func67, Tryz.ntmps67
  go_wp2
  go_ret
  exact ⟨rfl, HB.out⟩
set_option maxRecDepth 100000 in
set_option maxHeartbeats 4000000 in
theorem slay_43 {w : World} {b o : Nat} {N : Nd} {n : Int} {tx : ByteArray} {ns : List ByteArray} {ks : List Tree} (h : TAt w b o (.mk 43 n tx ns ks) N)  : Calls Tryz.prog 67 #[.pointer (some ⟨b, o, none⟩)] w (PostR w (.string (bs (stL 43 n ks.length)))) := by
  have n0 := h.k.kind (Below.refl _ _)
  have n1 := h.k.num (Below.refl _ _)
  have n2 := h.k.text (Below.refl _ _)
  have n4 := h.k.kids (Below.refl _ _)
  have e5 := h.kids
  have HB : Hid (Below w.heap.size w w) := Lib.hid (Below.refl _ _)
  rw [show N.kind = 43 from rd_kind h.r] at n0
  rw [show N.num = n from rd_num h.r] at n1
  rw [show N.text = tx from rd_text h.r] at n2
  rw [e5] at n4
  have e : stL 43 n ks.length = [59] := by simp [exL, stL]
  rw [e]
  clear h e5 e 
  go_enter Tryz.func67, Tryz.ntmps67
  go_wp2
  go_ret
  exact ⟨rfl, HB.out⟩
set_option maxRecDepth 100000 in
set_option maxHeartbeats 4000000 in
theorem slay_30a {w : World} {b o : Nat} {N : Nd} {n : Int} {tx : ByteArray} {ns : List ByteArray} {ks : List Tree} (h : TAt w b o (.mk 30 n tx ns ks) N) (hh : ks.length = 0) : Calls Tryz.prog 67 #[.pointer (some ⟨b, o, none⟩)] w (PostR w (.string (bs (stL 30 n ks.length)))) := by
  have n0 := h.k.kind (Below.refl _ _)
  have n1 := h.k.num (Below.refl _ _)
  have n2 := h.k.text (Below.refl _ _)
  have n4 := h.k.kids (Below.refl _ _)
  have e5 := h.kids
  have HB : Hid (Below w.heap.size w w) := Lib.hid (Below.refl _ _)
  rw [show N.kind = 30 from rd_kind h.r] at n0
  rw [show N.num = n from rd_num h.r] at n1
  rw [show N.text = tx from rd_text h.r] at n2
  rw [e5] at n4
  have e : stL 30 n ks.length = [108, 101, 116, 32, 35, 59] := by simp [exL, stL, hh]
  rw [e]
  rw [hh] at n4
  clear h e5 e hh
  go_enter Tryz.func67, Tryz.ntmps67
  go_wp2
  go_ret
  exact ⟨rfl, HB.out⟩
set_option maxRecDepth 100000 in
set_option maxHeartbeats 4000000 in
theorem slay_30b {w : World} {b o : Nat} {N : Nd} {n : Int} {tx : ByteArray} {ns : List ByteArray} {ks : List Tree} (h : TAt w b o (.mk 30 n tx ns ks) N) (hh : ks.length ≠ 0) : Calls Tryz.prog 67 #[.pointer (some ⟨b, o, none⟩)] w (PostR w (.string (bs (stL 30 n ks.length)))) := by
  have n0 := h.k.kind (Below.refl _ _)
  have n1 := h.k.num (Below.refl _ _)
  have n2 := h.k.text (Below.refl _ _)
  have n4 := h.k.kids (Below.refl _ _)
  have e5 := h.kids
  have HB : Hid (Below w.heap.size w w) := Lib.hid (Below.refl _ _)
  rw [show N.kind = 30 from rd_kind h.r] at n0
  rw [show N.num = n from rd_num h.r] at n1
  rw [show N.text = tx from rd_text h.r] at n2
  rw [e5] at n4
  have e : stL 30 n ks.length = [108, 101, 116, 32, 35, 32, 61, 32, 65, 59] := by simp [exL, stL, hh]
  rw [e]
  obtain ⟨m, hm⟩ : ∃ m, ks.length = m := ⟨_, rfl⟩
  rw [hm] at n4 hh
  have fm : ((m : Int) == 0) = false := by simp; omega
  clear h e5 e hh hm
  go_enter Tryz.func67, Tryz.ntmps67
  go_wp2
  go_ret
  exact ⟨rfl, HB.out⟩
set_option maxRecDepth 100000 in
set_option maxHeartbeats 4000000 in
theorem slay_36a {w : World} {b o : Nat} {N : Nd} {n : Int} {tx : ByteArray} {ns : List ByteArray} {ks : List Tree} (h : TAt w b o (.mk 36 n tx ns ks) N) (hh : ks.length = 0) : Calls Tryz.prog 67 #[.pointer (some ⟨b, o, none⟩)] w (PostR w (.string (bs (stL 36 n ks.length)))) := by
  have n0 := h.k.kind (Below.refl _ _)
  have n1 := h.k.num (Below.refl _ _)
  have n2 := h.k.text (Below.refl _ _)
  have n4 := h.k.kids (Below.refl _ _)
  have e5 := h.kids
  have HB : Hid (Below w.heap.size w w) := Lib.hid (Below.refl _ _)
  rw [show N.kind = 36 from rd_kind h.r] at n0
  rw [show N.num = n from rd_num h.r] at n1
  rw [show N.text = tx from rd_text h.r] at n2
  rw [e5] at n4
  have e : stL 36 n ks.length = [114, 101, 116, 117, 114, 110, 59] := by simp [exL, stL, hh]
  rw [e]
  rw [hh] at n4
  clear h e5 e hh
  go_enter Tryz.func67, Tryz.ntmps67
  go_wp2
  go_ret
  exact ⟨rfl, HB.out⟩
set_option maxRecDepth 100000 in
set_option maxHeartbeats 4000000 in
theorem slay_36b {w : World} {b o : Nat} {N : Nd} {n : Int} {tx : ByteArray} {ns : List ByteArray} {ks : List Tree} (h : TAt w b o (.mk 36 n tx ns ks) N) (hh : ks.length ≠ 0) : Calls Tryz.prog 67 #[.pointer (some ⟨b, o, none⟩)] w (PostR w (.string (bs (stL 36 n ks.length)))) := by
  have n0 := h.k.kind (Below.refl _ _)
  have n1 := h.k.num (Below.refl _ _)
  have n2 := h.k.text (Below.refl _ _)
  have n4 := h.k.kids (Below.refl _ _)
  have e5 := h.kids
  have HB : Hid (Below w.heap.size w w) := Lib.hid (Below.refl _ _)
  rw [show N.kind = 36 from rd_kind h.r] at n0
  rw [show N.num = n from rd_num h.r] at n1
  rw [show N.text = tx from rd_text h.r] at n2
  rw [e5] at n4
  have e : stL 36 n ks.length = [114, 101, 116, 117, 114, 110, 32, 65, 59] := by simp [exL, stL, hh]
  rw [e]
  obtain ⟨m, hm⟩ : ∃ m, ks.length = m := ⟨_, rfl⟩
  rw [hm] at n4 hh
  have fm : ((m : Int) == 0) = false := by simp; omega
  clear h e5 e hh hm
  go_enter Tryz.func67, Tryz.ntmps67
  go_wp2
  go_ret
  exact ⟨rfl, HB.out⟩
set_option maxRecDepth 100000 in
set_option maxHeartbeats 4000000 in
theorem slay_34a {w : World} {b o : Nat} {N : Nd} {n : Int} {tx : ByteArray} {ns : List ByteArray} {ks : List Tree} (h : TAt w b o (.mk 34 n tx ns ks) N) (hh : ks.length < 3) : Calls Tryz.prog 67 #[.pointer (some ⟨b, o, none⟩)] w (PostR w (.string (bs (stL 34 n ks.length)))) := by
  have n0 := h.k.kind (Below.refl _ _)
  have n1 := h.k.num (Below.refl _ _)
  have n2 := h.k.text (Below.refl _ _)
  have n4 := h.k.kids (Below.refl _ _)
  have e5 := h.kids
  have HB : Hid (Below w.heap.size w w) := Lib.hid (Below.refl _ _)
  rw [show N.kind = 34 from rd_kind h.r] at n0
  rw [show N.num = n from rd_num h.r] at n1
  rw [show N.text = tx from rd_text h.r] at n2
  rw [e5] at n4
  have e : stL 34 n ks.length = [105, 102, 32, 40, 65, 41, 32, 83] := by simp [exL, stL, hh]
  rw [e]
  obtain ⟨m, hm⟩ : ∃ m, ks.length = m := ⟨_, rfl⟩
  rw [hm] at n4 hh
  have fm : decide ((m : Int) < 3) = true := by simp; omega
  clear h e5 e hh hm
  go_enter Tryz.func67, Tryz.ntmps67
  go_wp2
  go_ret
  exact ⟨rfl, HB.out⟩
set_option maxRecDepth 100000 in
set_option maxHeartbeats 4000000 in
theorem slay_34b {w : World} {b o : Nat} {N : Nd} {n : Int} {tx : ByteArray} {ns : List ByteArray} {ks : List Tree} (h : TAt w b o (.mk 34 n tx ns ks) N) (hh : ¬ ks.length < 3) : Calls Tryz.prog 67 #[.pointer (some ⟨b, o, none⟩)] w (PostR w (.string (bs (stL 34 n ks.length)))) := by
  have n0 := h.k.kind (Below.refl _ _)
  have n1 := h.k.num (Below.refl _ _)
  have n2 := h.k.text (Below.refl _ _)
  have n4 := h.k.kids (Below.refl _ _)
  have e5 := h.kids
  have HB : Hid (Below w.heap.size w w) := Lib.hid (Below.refl _ _)
  rw [show N.kind = 34 from rd_kind h.r] at n0
  rw [show N.num = n from rd_num h.r] at n1
  rw [show N.text = tx from rd_text h.r] at n2
  rw [e5] at n4
  have e : stL 34 n ks.length = [105, 102, 32, 40, 65, 41, 32, 83, 32, 101, 108, 115, 101, 32, 83] := by simp [exL, stL, hh]
  rw [e]
  obtain ⟨m, hm⟩ : ∃ m, ks.length = m := ⟨_, rfl⟩
  rw [hm] at n4 hh
  have fm : decide ((m : Int) < 3) = false := by simp; omega
  clear h e5 e hh hm
  go_enter Tryz.func67, Tryz.ntmps67
  go_wp2
  go_ret
  exact ⟨rfl, HB.out⟩
set_option maxRecDepth 100000 in
set_option maxHeartbeats 4000000 in
theorem tlay_1 {w : World} {b o : Nat} {N : Nd}  {tx : ByteArray} {ns : List ByteArray} {ks : List Tree} (h : TAt w b o (.mk 38 1 tx ns ks) N) : Calls Tryz.prog 95 #[.pointer (some ⟨b, o, none⟩)] w (PostR w (.string (bs (tryL 1)))) := by
  have n0 := h.k.kind (Below.refl _ _)
  have n1 := h.k.num (Below.refl _ _)
  have n2 := h.k.text (Below.refl _ _)
  have n4 := h.k.kids (Below.refl _ _)
  have e5 := h.kids
  have HB : Hid (Below w.heap.size w w) := Lib.hid (Below.refl _ _)
  rw [show N.kind = 38 from rd_kind h.r] at n0
  rw [show N.num = 1 from rd_num h.r] at n1
  rw [show N.text = tx from rd_text h.r] at n2
  rw [e5] at n4
  have bb1 : bits .and .i64 1 1 = 1 := by decide +kernel
  have bb2 : bits .and .i64 2 1 = 0 := by decide +kernel
  have bb3 : bits .and .i64 3 1 = 1 := by decide +kernel
  have bb4 : bits .and .i64 1 2 = 0 := by decide +kernel
  have bb5 : bits .and .i64 2 2 = 2 := by decide +kernel
  have bb6 : bits .and .i64 3 2 = 2 := by decide +kernel
  have z0 : ∀ w, (AddP ⟨#[116, 114, 121, 32, 66]⟩ ⟨#[32, 67]⟩).run Tryz.prog w = .ok (.string ⟨#[116, 114, 121, 32, 66, 32, 67]⟩) w := fun w => run_adP [116, 114, 121, 32, 66] [32, 67] (by simp) (by simp) w
  have e : bs (tryL 1) = ⟨#[116, 114, 121, 32, 66, 32, 67]⟩ := by decide
  rw [e]
  clear h e5 e
  go_enter Tryz.func95, Tryz.ntmps95
  go_wp2
  go_ret
  exact ⟨rfl, HB.out⟩
set_option maxRecDepth 100000 in
set_option maxHeartbeats 4000000 in
theorem tlay_2 {w : World} {b o : Nat} {N : Nd}  {tx : ByteArray} {ns : List ByteArray} {ks : List Tree} (h : TAt w b o (.mk 38 2 tx ns ks) N) : Calls Tryz.prog 95 #[.pointer (some ⟨b, o, none⟩)] w (PostR w (.string (bs (tryL 2)))) := by
  have n0 := h.k.kind (Below.refl _ _)
  have n1 := h.k.num (Below.refl _ _)
  have n2 := h.k.text (Below.refl _ _)
  have n4 := h.k.kids (Below.refl _ _)
  have e5 := h.kids
  have HB : Hid (Below w.heap.size w w) := Lib.hid (Below.refl _ _)
  rw [show N.kind = 38 from rd_kind h.r] at n0
  rw [show N.num = 2 from rd_num h.r] at n1
  rw [show N.text = tx from rd_text h.r] at n2
  rw [e5] at n4
  have bb1 : bits .and .i64 1 1 = 1 := by decide +kernel
  have bb2 : bits .and .i64 2 1 = 0 := by decide +kernel
  have bb3 : bits .and .i64 3 1 = 1 := by decide +kernel
  have bb4 : bits .and .i64 1 2 = 0 := by decide +kernel
  have bb5 : bits .and .i64 2 2 = 2 := by decide +kernel
  have bb6 : bits .and .i64 3 2 = 2 := by decide +kernel
  have z0 : ∀ w, (AddP ⟨#[116, 114, 121, 32, 66]⟩ ⟨#[32, 102, 105, 110, 97, 108, 108, 121, 32, 66]⟩).run Tryz.prog w = .ok (.string ⟨#[116, 114, 121, 32, 66, 32, 102, 105, 110, 97, 108, 108, 121, 32, 66]⟩) w := fun w => run_adP [116, 114, 121, 32, 66] [32, 102, 105, 110, 97, 108, 108, 121, 32, 66] (by simp) (by simp) w
  have e : bs (tryL 2) = ⟨#[116, 114, 121, 32, 66, 32, 102, 105, 110, 97, 108, 108, 121, 32, 66]⟩ := by decide
  rw [e]
  clear h e5 e
  go_enter Tryz.func95, Tryz.ntmps95
  go_wp2
  go_ret
  exact ⟨rfl, HB.out⟩
set_option maxRecDepth 100000 in
set_option maxHeartbeats 4000000 in
theorem tlay_3 {w : World} {b o : Nat} {N : Nd}  {tx : ByteArray} {ns : List ByteArray} {ks : List Tree} (h : TAt w b o (.mk 38 3 tx ns ks) N) : Calls Tryz.prog 95 #[.pointer (some ⟨b, o, none⟩)] w (PostR w (.string (bs (tryL 3)))) := by
  have n0 := h.k.kind (Below.refl _ _)
  have n1 := h.k.num (Below.refl _ _)
  have n2 := h.k.text (Below.refl _ _)
  have n4 := h.k.kids (Below.refl _ _)
  have e5 := h.kids
  have HB : Hid (Below w.heap.size w w) := Lib.hid (Below.refl _ _)
  rw [show N.kind = 38 from rd_kind h.r] at n0
  rw [show N.num = 3 from rd_num h.r] at n1
  rw [show N.text = tx from rd_text h.r] at n2
  rw [e5] at n4
  have bb1 : bits .and .i64 1 1 = 1 := by decide +kernel
  have bb2 : bits .and .i64 2 1 = 0 := by decide +kernel
  have bb3 : bits .and .i64 3 1 = 1 := by decide +kernel
  have bb4 : bits .and .i64 1 2 = 0 := by decide +kernel
  have bb5 : bits .and .i64 2 2 = 2 := by decide +kernel
  have bb6 : bits .and .i64 3 2 = 2 := by decide +kernel
  have z0 : ∀ w, (AddP ⟨#[116, 114, 121, 32, 66]⟩ ⟨#[32, 67]⟩).run Tryz.prog w = .ok (.string ⟨#[116, 114, 121, 32, 66, 32, 67]⟩) w := fun w => run_adP [116, 114, 121, 32, 66] [32, 67] (by simp) (by simp) w
  have z1 : ∀ w, (AddP ⟨#[116, 114, 121, 32, 66, 32, 67]⟩ ⟨#[32, 102, 105, 110, 97, 108, 108, 121, 32, 66]⟩).run Tryz.prog w = .ok (.string ⟨#[116, 114, 121, 32, 66, 32, 67, 32, 102, 105, 110, 97, 108, 108, 121, 32, 66]⟩) w := fun w => run_adP [116, 114, 121, 32, 66, 32, 67] [32, 102, 105, 110, 97, 108, 108, 121, 32, 66] (by simp) (by simp) w
  have e : bs (tryL 3) = ⟨#[116, 114, 121, 32, 66, 32, 67, 32, 102, 105, 110, 97, 108, 108, 121, 32, 66]⟩ := by decide
  rw [e]
  clear h e5 e
  go_enter Tryz.func95, Tryz.ntmps95
  go_wp2
  go_ret
  exact ⟨rfl, HB.out⟩
set_option maxRecDepth 100000 in
set_option maxHeartbeats 4000000 in
theorem slay_38 {w : World} {b o : Nat} {N : Nd} {n : Int} {tx : ByteArray} {ns : List ByteArray} {ks : List Tree} (h : TAt w b o (.mk 38 n tx ns ks) N) (hn : 1 ≤ n ∧ n ≤ 3) : Calls Tryz.prog 67 #[.pointer (some ⟨b, o, none⟩)] w (PostR w (.string (bs (stL 38 n ks.length)))) := by
  have n0 := h.k.kind (Below.refl _ _)
  have n1 := h.k.num (Below.refl _ _)
  have n2 := h.k.text (Below.refl _ _)
  have n4 := h.k.kids (Below.refl _ _)
  have e5 := h.kids
  have HB : Hid (Below w.heap.size w w) := Lib.hid (Below.refl _ _)
  rw [show N.kind = 38 from rd_kind h.r] at n0
  rw [show N.num = n from rd_num h.r] at n1
  rw [show N.text = tx from rd_text h.r] at n2
  rw [e5] at n4
  have e : stL 38 n ks.length = tryL n := by simp [stL]
  rw [e]
  have ct : Calls Tryz.prog 95 #[.pointer (some ⟨b, o, none⟩)] w (PostR w (.string (bs (tryL n)))) := by
    rcases (by omega : n = 1 ∨ n = 2 ∨ n = 3) with rfl | rfl | rfl
    · exact tlay_1 h
    · exact tlay_2 h
    · exact tlay_3 h
  obtain ⟨R, hR⟩ : ∃ R, bs (tryL n) = R := ⟨_, rfl⟩
  rw [hR] at ct ⊢
  clear h e5 e hR hn
  go_enter Tryz.func67, Tryz.ntmps67
  go_wp2_with (first | (go_at_call 95; (with_reducible refine (ct).mono ?_); intro e w2 hp; obtain ⟨rfl, hb⟩ := hp; have HB := Lib.hid (HB.out.trans (hb.mono HB.out.size)); clear hb))
  go_ret
  exact ⟨rfl, HB.out⟩
set_option maxRecDepth 100000 in
set_option maxHeartbeats 4000000 in
theorem slay_40 {w : World} {b o : Nat} {N : Nd} {n : Int} {tx : ByteArray} {ns : List ByteArray} {ks : List Tree} (h : TAt w b o (.mk 40 n tx ns ks) N) (hl : ks.length ≤ 100000) : Calls Tryz.prog 67 #[.pointer (some ⟨b, o, none⟩)] w (PostR w (.string (bs (stL 40 n ks.length)))) := by
  have n0 := h.k.kind (Below.refl _ _)
  have n1 := h.k.num (Below.refl _ _)
  have n2 := h.k.text (Below.refl _ _)
  have n4 := h.k.kids (Below.refl _ _)
  have e5 := h.kids
  have HB : Hid (Below w.heap.size w w) := Lib.hid (Below.refl _ _)
  rw [show N.kind = 40 from rd_kind h.r] at n0
  rw [show N.num = n from rd_num h.r] at n1
  rw [show N.text = tx from rd_text h.r] at n2
  rw [e5] at n4
  have e : stL 40 n ks.length = braceB ks.length := by simp [stL]
  rw [e]
  have ct := braced_any h hl
  obtain ⟨R, hR⟩ : ∃ R, bs (braceB ks.length) = R := ⟨_, rfl⟩
  rw [hR] at ct ⊢
  clear h e5 e hR hl
  go_enter Tryz.func67, Tryz.ntmps67
  go_wp2_with (first | (go_at_call 91; (with_reducible refine (ct).mono ?_); intro e w2 hp; obtain ⟨rfl, hb⟩ := hp; have HB := Lib.hid (HB.out.trans (hb.mono HB.out.size)); clear hb))
  go_ret
  exact ⟨rfl, HB.out⟩
set_option maxRecDepth 100000 in
set_option maxHeartbeats 4000000 in
theorem slay_44 {w : World} {b o : Nat} {N : Nd} {n : Int} {tx : ByteArray} {ns : List ByteArray} {ks : List Tree} (h : TAt w b o (.mk 44 n tx ns ks) N) (hl : ks.length ≤ 100000) : Calls Tryz.prog 67 #[.pointer (some ⟨b, o, none⟩)] w (PostR w (.string (bs (stL 44 n ks.length)))) := by
  have n0 := h.k.kind (Below.refl _ _)
  have n1 := h.k.num (Below.refl _ _)
  have n2 := h.k.text (Below.refl _ _)
  have n4 := h.k.kids (Below.refl _ _)
  have e5 := h.kids
  have HB : Hid (Below w.heap.size w w) := Lib.hid (Below.refl _ _)
  rw [show N.kind = 44 from rd_kind h.r] at n0
  rw [show N.num = n from rd_num h.r] at n1
  rw [show N.text = tx from rd_text h.r] at n2
  rw [e5] at n4
  have e : stL 44 n ks.length = repB [83, 10] ks.length := by simp [stL]
  rw [e]
  obtain ⟨m, hm⟩ : ∃ m, ks.length = m := ⟨_, rfl⟩
  rw [hm] at n4 hl ⊢
  have cr := fun w => repeated_any [83, 10] (m : Int) w (by simp) (by omega) (by omega)
  rw [show (m : Int).toNat = m from rfl] at cr
  have cr : ∀ w, Calls Tryz.prog 96 #[.string ⟨#[83, 10]⟩, .int .i64 (m : Int)] w (PostR w (.string (bs (repB [83, 10] m)))) := cr
  obtain ⟨R, hR⟩ : ∃ R, bs (repB [83, 10] m) = R := ⟨_, rfl⟩
  rw [hR] at cr ⊢
  clear h e5 e hR hl hm
  go_enter Tryz.func67, Tryz.ntmps67
  go_wp2_with (first | (go_at_call 96; (with_reducible refine (cr _).mono ?_); intro e w2 hp; obtain ⟨rfl, hb⟩ := hp; have HB := Lib.hid (HB.out.trans (hb.mono HB.out.size)); clear hb))
  go_ret
  exact ⟨rfl, HB.out⟩
set_option maxRecDepth 100000 in
set_option maxHeartbeats 4000000 in
theorem slay_else {w : World} {b o : Nat} {N : Nd} {k n : Int} {tx : ByteArray} {ns : List ByteArray} {ks : List Tree} (h : TAt w b o (.mk k n tx ns ks) N) (h2 : ¬ (30 ≤ k ∧ k ≤ 44)) : Calls Tryz.prog 67 #[.pointer (some ⟨b, o, none⟩)] w (PostR w (.string (bs (stL k n ks.length)))) := by
  have n0 := h.k.kind (Below.refl _ _)
  have n1 := h.k.num (Below.refl _ _)
  have n2 := h.k.text (Below.refl _ _)
  have n4 := h.k.kids (Below.refl _ _)
  have e5 := h.kids
  have HB : Hid (Below w.heap.size w w) := Lib.hid (Below.refl _ _)
  rw [show N.kind = k from rd_kind h.r] at n0
  rw [show N.num = n from rd_num h.r] at n1
  rw [show N.text = tx from rd_text h.r] at n2
  rw [e5] at n4
  have f30 : (k == 30) = false := by simp; omega
  have f31 : (k == 31) = false := by simp; omega
  have f32 : (k == 32) = false := by simp; omega
  have f33 : (k == 33) = false := by simp; omega
  have f34 : (k == 34) = false := by simp; omega
  have f35 : (k == 35) = false := by simp; omega
  have f36 : (k == 36) = false := by simp; omega
  have f37 : (k == 37) = false := by simp; omega
  have f38 : (k == 38) = false := by simp; omega
  have f39 : (k == 39) = false := by simp; omega
  have f40 : (k == 40) = false := by simp; omega
  have f41 : (k == 41) = false := by simp; omega
  have f42 : (k == 42) = false := by simp; omega
  have f43 : (k == 43) = false := by simp; omega
  have f44 : (k == 44) = false := by simp; omega
  have e : stL k n ks.length = [] := by unfold stL; simp [show k ≠ 30 from by omega, show k ≠ 31 from by omega, show k ≠ 32 from by omega, show k ≠ 33 from by omega, show k ≠ 34 from by omega, show k ≠ 35 from by omega, show k ≠ 36 from by omega, show k ≠ 37 from by omega, show k ≠ 38 from by omega, show k ≠ 39 from by omega, show k ≠ 40 from by omega, show k ≠ 41 from by omega, show k ≠ 42 from by omega, show k ≠ 43 from by omega, show k ≠ 44 from by omega]
  rw [e]
  clear h e5 e h2
  go_enter Tryz.func67, Tryz.ntmps67
  go_wp2
  go_ret
  exact ⟨rfl, HB.out⟩
theorem elay_any {w : World} {b o : Nat} {N : Nd} {k n : Int} {tx : ByteArray} {ns : List ByteArray} {ks : List Tree} (h : TAt w b o (.mk k n tx ns ks) N) (hl : ks.length ≤ 100000) (h1 : k < 30) (h14 : k ≠ 14) : Calls Tryz.prog 66 #[.pointer (some ⟨b, o, none⟩)] w (PostR w (.string (bs (exL k tx.data.toList ks.length (headK ks))))) := by
  by_cases h2 : 1 ≤ k ∧ k ≤ 24
  · rcases (by omega : k = 1 ∨ k = 2 ∨ k = 3 ∨ k = 4 ∨ k = 5 ∨ k = 6 ∨ k = 7 ∨ k = 8 ∨ k = 9 ∨ k = 10 ∨ k = 11 ∨ k = 12 ∨ k = 13 ∨ k = 15 ∨ k = 16 ∨ k = 17 ∨ k = 18 ∨ k = 19 ∨ k = 20 ∨ k = 21 ∨ k = 22 ∨ k = 23 ∨ k = 24) with rfl | rfl | rfl | rfl | rfl | rfl | rfl | rfl | rfl | rfl | rfl | rfl | rfl | rfl | rfl | rfl | rfl | rfl | rfl | rfl | rfl | rfl | rfl
    · exact elay_1 h
    · exact elay_2 h
    · exact elay_3 h
    · exact elay_4 h
    · exact elay_5 h
    · exact elay_6 h
    · exact elay_7 h
    · exact elay_8 h
    · exact elay_9 h hl
    · exact elay_10 h hl
    · exact elay_11 h
    · exact elay_12 h
    · exact elay_13 h
    · exact elay_15 h
    · exact elay_16 h
    · exact elay_17 h hl
    · exact elay_18 h hl
    · exact elay_19 h
    · exact elay_20 h
    · exact elay_21 h
    · exact elay_22 h
    · exact elay_23 h
    · exact elay_24 h
  · exact elay_else h h1 h2
theorem slay_any {w : World} {b o : Nat} {N : Nd} {k n : Int} {tx : ByteArray} {ns : List ByteArray} {ks : List Tree} (h : TAt w b o (.mk k n tx ns ks) N) (hl : ks.length ≤ 100000) (hn : k = 38 → 1 ≤ n ∧ n ≤ 3) : Calls Tryz.prog 67 #[.pointer (some ⟨b, o, none⟩)] w (PostR w (.string (bs (stL k n ks.length)))) := by
  by_cases h2 : 30 ≤ k ∧ k ≤ 44
  · rcases (by omega : k = 30 ∨ k = 31 ∨ k = 32 ∨ k = 33 ∨ k = 34 ∨ k = 35 ∨ k = 36 ∨ k = 37 ∨ k = 38 ∨ k = 39 ∨ k = 40 ∨ k = 41 ∨ k = 42 ∨ k = 43 ∨ k = 44) with rfl | rfl | rfl | rfl | rfl | rfl | rfl | rfl | rfl | rfl | rfl | rfl | rfl | rfl | rfl
    · exact (by by_cases hh : ks.length = 0; exact slay_30a h hh; exact slay_30b h hh)
    · exact slay_31 h
    · exact slay_32 h
    · exact slay_33 h
    · exact (by by_cases hh : ks.length < 3; exact slay_34a h hh; exact slay_34b h hh)
    · exact slay_35 h
    · exact (by by_cases hh : ks.length = 0; exact slay_36a h hh; exact slay_36b h hh)
    · exact slay_37 h
    · exact slay_38 h (hn rfl)
    · exact slay_39 h
    · exact slay_40 h hl
    · exact slay_41 h
    · exact slay_42 h
    · exact slay_43 h
    · exact slay_44 h hl
  · exact slay_else h h2
theorem flay_any {w : World} {b o : Nat} {N : Nd} {k n : Int} {tx : ByteArray} {ns : List ByteArray} {ks : List Tree} (h : TAt w b o (.mk k n tx ns ks) N) {p : UInt8} (hp : p = 65 ∨ p = 70 ∨ p = 71 ∨ p = 72) (hl : ks.length ≤ 100000) : Calls Tryz.prog 65 #[.pointer (some ⟨b, o, none⟩), .int .i32 (p.toNat : Int)] w (PostR w (.string (bs (funL p ks.length)))) := by
  rcases hp with rfl | rfl | rfl | rfl
  · exact flay_65 h hl
  · exact flay_70 h hl
  · exact flay_71 h hl
  · exact flay_72 h hl
set_option maxRecDepth 100000 in
set_option maxHeartbeats 4000000 in
theorem lay_any {w : World} {b o : Nat} {N : Nd} {k n : Int} {tx : ByteArray} {ns : List ByteArray} {ks : List Tree} (h : TAt w b o (.mk k n tx ns ks) N) {p : UInt8} (hp : k = 14 → p = 65 ∨ p = 70 ∨ p = 71 ∨ p = 72) (hl : ks.length ≤ 100000) (hn : k = 38 → 1 ≤ n ∧ n ≤ 3) : Calls Tryz.prog 50 #[.pointer (some ⟨b, o, none⟩), .int .i32 (p.toNat : Int)] w (PostR w (.string (bs (layB p k n tx.data.toList ks.length (headK ks))))) := by
  have n0 := h.k.kind (Below.refl _ _)
  have n1 := h.k.num (Below.refl _ _)
  have n2 := h.k.text (Below.refl _ _)
  have n4 := h.k.kids (Below.refl _ _)
  have e5 := h.kids
  have HB : Hid (Below w.heap.size w w) := Lib.hid (Below.refl _ _)
  rw [show N.kind = k from rd_kind h.r] at n0
  rw [show N.num = n from rd_num h.r] at n1
  rw [show N.text = tx from rd_text h.r] at n2
  rw [e5] at n4
  unfold layB
  by_cases h14 : k = 14
  · rw [if_pos h14]
    have cf := flay_any h (hp h14) hl
    have f14 : (k == 14) = true := by simpa using h14
    obtain ⟨R, hR⟩ : ∃ R, bs (funL p ks.length) = R := ⟨_, rfl⟩
    rw [hR] at cf ⊢
    obtain ⟨P, hP⟩ : ∃ P : Int, (p.toNat : Int) = P := ⟨_, rfl⟩
    rw [hP] at cf ⊢
    clear h e5 hR hl hn hp hP h14
    go_enter Tryz.func50, Tryz.ntmps50
    go_wp2_with (first | (go_at_call 65; (with_reducible refine (cf).mono ?_); intro e w2 hp; obtain ⟨rfl, hb⟩ := hp; have HB := Lib.hid (HB.out.trans (hb.mono HB.out.size)); clear hb))
    go_ret
    exact ⟨rfl, HB.out⟩
  · rw [if_neg h14]
    have f14 : (k == 14) = false := by simpa using h14
    obtain ⟨P, hP⟩ : ∃ P : Int, (p.toNat : Int) = P := ⟨_, rfl⟩
    rw [hP]
    by_cases h30 : k < 30
    · rw [if_pos h30]
      have cf := elay_any h hl h30 h14
      have f30 : decide (k < 30) = true := decide_eq_true h30
      obtain ⟨R, hR⟩ : ∃ R, bs (exL k tx.data.toList ks.length (headK ks)) = R := ⟨_, rfl⟩
      rw [hR] at cf ⊢
      clear h e5 hR hl hn hp hP h14 h30
      go_enter Tryz.func50, Tryz.ntmps50
      go_wp2_with (first | (go_at_call 66; (with_reducible refine (cf).mono ?_); intro e w2 hp; obtain ⟨rfl, hb⟩ := hp; have HB := Lib.hid (HB.out.trans (hb.mono HB.out.size)); clear hb))
      go_ret
      exact ⟨rfl, HB.out⟩
    · rw [if_neg h30]
      have cf := slay_any h hl hn
      have f30 : decide (k < 30) = false := decide_eq_false h30
      obtain ⟨R, hR⟩ : ∃ R, bs (stL k n ks.length) = R := ⟨_, rfl⟩
      rw [hR] at cf ⊢
      clear h e5 hR hl hn hp hP h14 h30
      go_enter Tryz.func50, Tryz.ntmps50
      go_wp2_with (first | (go_at_call 67; (with_reducible refine (cf).mono ?_); intro e w2 hp; obtain ⟨rfl, hb⟩ := hp; have HB := Lib.hid (HB.out.trans (hb.mono HB.out.size)); clear hb))
      go_ret
      exact ⟨rfl, HB.out⟩
end Go.Proofs.YtinoaajohkafmaaGreat.Pr
