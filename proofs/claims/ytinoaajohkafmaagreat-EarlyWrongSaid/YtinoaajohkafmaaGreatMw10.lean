/-
  The printer's layouts: kind by kind.
-/
import Derived.Test.YtinoaajohkafmaaGreatMw09
namespace Go.Proofs.YtinoaajohkafmaaGreat.Pr
open Go Go.RowKit Go.Proofs.YtinoaajohkafmaaGreat.Pa Go.Proofs.YtinoaajohkafmaaGreat.Uni
open Go.Proofs.YtinoaajohkafmaaGreat.Lx
set_option linter.unusedVariables false
set_option linter.unusedSimpArgs false
attribute [local go_sem ↓] ldK stK alK bdK bsK ldN stN alN bdN bsN ldS stS alS bdS adP
attribute [local irreducible] kcs ncs ncells scs AddP
set_option maxRecDepth 100000 in
set_option maxHeartbeats 4000000 in
theorem elay_1 {w : World} {b o : Nat} {N : Nd} {n : Int} {tx : ByteArray} {ns : List ByteArray} {ks : List Tree} (h : TAt w b o (.mk 1 n tx ns ks) N)  : Calls Tryz.prog 66 #[.pointer (some ⟨b, o, none⟩)] w (PostR w (.string (bs (exL 1 tx.data.toList ks.length (headK ks))))) := by
  have n0 := h.k.kind (Below.refl _ _)
  have n1 := h.k.num (Below.refl _ _)
  have n2 := h.k.text (Below.refl _ _)
  have n4 := h.k.kids (Below.refl _ _)
  have e5 := h.kids
  have HB : Hid (Below w.heap.size w w) := Lib.hid (Below.refl _ _)
  rw [show N.kind = 1 from rd_kind h.r] at n0
  rw [show N.num = n from rd_num h.r] at n1
  rw [show N.text = tx from rd_text h.r] at n2
  rw [e5] at n4
  have e : exL 1 tx.data.toList ks.length (headK ks) = [36] := by simp [exL, stL]
  rw [e]
  clear h e5 e 
  go_enter Tryz.func66, Tryz.ntmps66
  go_wp2
  go_ret
  exact ⟨rfl, HB.out⟩
set_option maxRecDepth 100000 in
set_option maxHeartbeats 4000000 in
theorem elay_2 {w : World} {b o : Nat} {N : Nd} {n : Int} {tx : ByteArray} {ns : List ByteArray} {ks : List Tree} (h : TAt w b o (.mk 2 n tx ns ks) N)  : Calls Tryz.prog 66 #[.pointer (some ⟨b, o, none⟩)] w (PostR w (.string (bs (exL 2 tx.data.toList ks.length (headK ks))))) := by
  have n0 := h.k.kind (Below.refl _ _)
  have n1 := h.k.num (Below.refl _ _)
  have n2 := h.k.text (Below.refl _ _)
  have n4 := h.k.kids (Below.refl _ _)
  have e5 := h.kids
  have HB : Hid (Below w.heap.size w w) := Lib.hid (Below.refl _ _)
  rw [show N.kind = 2 from rd_kind h.r] at n0
  rw [show N.num = n from rd_num h.r] at n1
  rw [show N.text = tx from rd_text h.r] at n2
  rw [e5] at n4
  have e : exL 2 tx.data.toList ks.length (headK ks) = [36] := by simp [exL, stL]
  rw [e]
  clear h e5 e 
  go_enter Tryz.func66, Tryz.ntmps66
  go_wp2
  go_ret
  exact ⟨rfl, HB.out⟩
set_option maxRecDepth 100000 in
set_option maxHeartbeats 4000000 in
theorem elay_3 {w : World} {b o : Nat} {N : Nd} {n : Int} {tx : ByteArray} {ns : List ByteArray} {ks : List Tree} (h : TAt w b o (.mk 3 n tx ns ks) N)  : Calls Tryz.prog 66 #[.pointer (some ⟨b, o, none⟩)] w (PostR w (.string (bs (exL 3 tx.data.toList ks.length (headK ks))))) := by
  have n0 := h.k.kind (Below.refl _ _)
  have n1 := h.k.num (Below.refl _ _)
  have n2 := h.k.text (Below.refl _ _)
  have n4 := h.k.kids (Below.refl _ _)
  have e5 := h.kids
  have HB : Hid (Below w.heap.size w w) := Lib.hid (Below.refl _ _)
  rw [show N.kind = 3 from rd_kind h.r] at n0
  rw [show N.num = n from rd_num h.r] at n1
  rw [show N.text = tx from rd_text h.r] at n2
  rw [e5] at n4
  have e : exL 3 tx.data.toList ks.length (headK ks) = [116, 114, 117, 101] := by simp [exL, stL]
  rw [e]
  clear h e5 e 
  go_enter Tryz.func66, Tryz.ntmps66
  go_wp2
  go_ret
  exact ⟨rfl, HB.out⟩
set_option maxRecDepth 100000 in
set_option maxHeartbeats 4000000 in
theorem elay_4 {w : World} {b o : Nat} {N : Nd} {n : Int} {tx : ByteArray} {ns : List ByteArray} {ks : List Tree} (h : TAt w b o (.mk 4 n tx ns ks) N)  : Calls Tryz.prog 66 #[.pointer (some ⟨b, o, none⟩)] w (PostR w (.string (bs (exL 4 tx.data.toList ks.length (headK ks))))) := by
  have n0 := h.k.kind (Below.refl _ _)
  have n1 := h.k.num (Below.refl _ _)
  have n2 := h.k.text (Below.refl _ _)
  have n4 := h.k.kids (Below.refl _ _)
  have e5 := h.kids
  have HB : Hid (Below w.heap.size w w) := Lib.hid (Below.refl _ _)
  rw [show N.kind = 4 from rd_kind h.r] at n0
  rw [show N.num = n from rd_num h.r] at n1
  rw [show N.text = tx from rd_text h.r] at n2
  rw [e5] at n4
  have e : exL 4 tx.data.toList ks.length (headK ks) = [102, 97, 108, 115, 101] := by simp [exL, stL]
  rw [e]
  clear h e5 e 
  go_enter Tryz.func66, Tryz.ntmps66
  go_wp2
  go_ret
  exact ⟨rfl, HB.out⟩
set_option maxRecDepth 100000 in
set_option maxHeartbeats 4000000 in
theorem elay_5 {w : World} {b o : Nat} {N : Nd} {n : Int} {tx : ByteArray} {ns : List ByteArray} {ks : List Tree} (h : TAt w b o (.mk 5 n tx ns ks) N)  : Calls Tryz.prog 66 #[.pointer (some ⟨b, o, none⟩)] w (PostR w (.string (bs (exL 5 tx.data.toList ks.length (headK ks))))) := by
  have n0 := h.k.kind (Below.refl _ _)
  have n1 := h.k.num (Below.refl _ _)
  have n2 := h.k.text (Below.refl _ _)
  have n4 := h.k.kids (Below.refl _ _)
  have e5 := h.kids
  have HB : Hid (Below w.heap.size w w) := Lib.hid (Below.refl _ _)
  rw [show N.kind = 5 from rd_kind h.r] at n0
  rw [show N.num = n from rd_num h.r] at n1
  rw [show N.text = tx from rd_text h.r] at n2
  rw [e5] at n4
  have e : exL 5 tx.data.toList ks.length (headK ks) = [110, 117, 108, 108] := by simp [exL, stL]
  rw [e]
  clear h e5 e 
  go_enter Tryz.func66, Tryz.ntmps66
  go_wp2
  go_ret
  exact ⟨rfl, HB.out⟩
set_option maxRecDepth 100000 in
set_option maxHeartbeats 4000000 in
theorem elay_6 {w : World} {b o : Nat} {N : Nd} {n : Int} {tx : ByteArray} {ns : List ByteArray} {ks : List Tree} (h : TAt w b o (.mk 6 n tx ns ks) N)  : Calls Tryz.prog 66 #[.pointer (some ⟨b, o, none⟩)] w (PostR w (.string (bs (exL 6 tx.data.toList ks.length (headK ks))))) := by
  have n0 := h.k.kind (Below.refl _ _)
  have n1 := h.k.num (Below.refl _ _)
  have n2 := h.k.text (Below.refl _ _)
  have n4 := h.k.kids (Below.refl _ _)
  have e5 := h.kids
  have HB : Hid (Below w.heap.size w w) := Lib.hid (Below.refl _ _)
  rw [show N.kind = 6 from rd_kind h.r] at n0
  rw [show N.num = n from rd_num h.r] at n1
  rw [show N.text = tx from rd_text h.r] at n2
  rw [e5] at n4
  have e : exL 6 tx.data.toList ks.length (headK ks) = [117, 110, 100, 101, 102, 105, 110, 101, 100] := by simp [exL, stL]
  rw [e]
  clear h e5 e 
  go_enter Tryz.func66, Tryz.ntmps66
  go_wp2
  go_ret
  exact ⟨rfl, HB.out⟩
set_option maxRecDepth 100000 in
set_option maxHeartbeats 4000000 in
theorem elay_7 {w : World} {b o : Nat} {N : Nd} {n : Int} {tx : ByteArray} {ns : List ByteArray} {ks : List Tree} (h : TAt w b o (.mk 7 n tx ns ks) N)  : Calls Tryz.prog 66 #[.pointer (some ⟨b, o, none⟩)] w (PostR w (.string (bs (exL 7 tx.data.toList ks.length (headK ks))))) := by
  have n0 := h.k.kind (Below.refl _ _)
  have n1 := h.k.num (Below.refl _ _)
  have n2 := h.k.text (Below.refl _ _)
  have n4 := h.k.kids (Below.refl _ _)
  have e5 := h.kids
  have HB : Hid (Below w.heap.size w w) := Lib.hid (Below.refl _ _)
  rw [show N.kind = 7 from rd_kind h.r] at n0
  rw [show N.num = n from rd_num h.r] at n1
  rw [show N.text = tx from rd_text h.r] at n2
  rw [e5] at n4
  have e : exL 7 tx.data.toList ks.length (headK ks) = [116, 104, 105, 115] := by simp [exL, stL]
  rw [e]
  clear h e5 e 
  go_enter Tryz.func66, Tryz.ntmps66
  go_wp2
  go_ret
  exact ⟨rfl, HB.out⟩
set_option maxRecDepth 100000 in
set_option maxHeartbeats 4000000 in
theorem elay_8 {w : World} {b o : Nat} {N : Nd} {n : Int} {tx : ByteArray} {ns : List ByteArray} {ks : List Tree} (h : TAt w b o (.mk 8 n tx ns ks) N)  : Calls Tryz.prog 66 #[.pointer (some ⟨b, o, none⟩)] w (PostR w (.string (bs (exL 8 tx.data.toList ks.length (headK ks))))) := by
  have n0 := h.k.kind (Below.refl _ _)
  have n1 := h.k.num (Below.refl _ _)
  have n2 := h.k.text (Below.refl _ _)
  have n4 := h.k.kids (Below.refl _ _)
  have e5 := h.kids
  have HB : Hid (Below w.heap.size w w) := Lib.hid (Below.refl _ _)
  rw [show N.kind = 8 from rd_kind h.r] at n0
  rw [show N.num = n from rd_num h.r] at n1
  rw [show N.text = tx from rd_text h.r] at n2
  rw [e5] at n4
  have e : exL 8 tx.data.toList ks.length (headK ks) = [35] := by simp [exL, stL]
  rw [e]
  clear h e5 e 
  go_enter Tryz.func66, Tryz.ntmps66
  go_wp2
  go_ret
  exact ⟨rfl, HB.out⟩
set_option maxRecDepth 100000 in
set_option maxHeartbeats 4000000 in
theorem elay_12 {w : World} {b o : Nat} {N : Nd} {n : Int} {tx : ByteArray} {ns : List ByteArray} {ks : List Tree} (h : TAt w b o (.mk 12 n tx ns ks) N)  : Calls Tryz.prog 66 #[.pointer (some ⟨b, o, none⟩)] w (PostR w (.string (bs (exL 12 tx.data.toList ks.length (headK ks))))) := by
  have n0 := h.k.kind (Below.refl _ _)
  have n1 := h.k.num (Below.refl _ _)
  have n2 := h.k.text (Below.refl _ _)
  have n4 := h.k.kids (Below.refl _ _)
  have e5 := h.kids
  have HB : Hid (Below w.heap.size w w) := Lib.hid (Below.refl _ _)
  rw [show N.kind = 12 from rd_kind h.r] at n0
  rw [show N.num = n from rd_num h.r] at n1
  rw [show N.text = tx from rd_text h.r] at n2
  rw [e5] at n4
  have e : exL 12 tx.data.toList ks.length (headK ks) = [103, 101, 116, 32, 36, 71] := by simp [exL, stL]
  rw [e]
  clear h e5 e 
  go_enter Tryz.func66, Tryz.ntmps66
  go_wp2
  go_ret
  exact ⟨rfl, HB.out⟩
set_option maxRecDepth 100000 in
set_option maxHeartbeats 4000000 in
theorem elay_13 {w : World} {b o : Nat} {N : Nd} {n : Int} {tx : ByteArray} {ns : List ByteArray} {ks : List Tree} (h : TAt w b o (.mk 13 n tx ns ks) N)  : Calls Tryz.prog 66 #[.pointer (some ⟨b, o, none⟩)] w (PostR w (.string (bs (exL 13 tx.data.toList ks.length (headK ks))))) := by
  have n0 := h.k.kind (Below.refl _ _)
  have n1 := h.k.num (Below.refl _ _)
  have n2 := h.k.text (Below.refl _ _)
  have n4 := h.k.kids (Below.refl _ _)
  have e5 := h.kids
  have HB : Hid (Below w.heap.size w w) := Lib.hid (Below.refl _ _)
  rw [show N.kind = 13 from rd_kind h.r] at n0
  rw [show N.num = n from rd_num h.r] at n1
  rw [show N.text = tx from rd_text h.r] at n2
  rw [e5] at n4
  have e : exL 13 tx.data.toList ks.length (headK ks) = [115, 101, 116, 32, 36, 72] := by simp [exL, stL]
  rw [e]
  clear h e5 e 
  go_enter Tryz.func66, Tryz.ntmps66
  go_wp2
  go_ret
  exact ⟨rfl, HB.out⟩
set_option maxRecDepth 100000 in
set_option maxHeartbeats 4000000 in
theorem elay_15 {w : World} {b o : Nat} {N : Nd} {n : Int} {tx : ByteArray} {ns : List ByteArray} {ks : List Tree} (h : TAt w b o (.mk 15 n tx ns ks) N)  : Calls Tryz.prog 66 #[.pointer (some ⟨b, o, none⟩)] w (PostR w (.string (bs (exL 15 tx.data.toList ks.length (headK ks))))) := by
  have n0 := h.k.kind (Below.refl _ _)
  have n1 := h.k.num (Below.refl _ _)
  have n2 := h.k.text (Below.refl _ _)
  have n4 := h.k.kids (Below.refl _ _)
  have e5 := h.kids
  have HB : Hid (Below w.heap.size w w) := Lib.hid (Below.refl _ _)
  rw [show N.kind = 15 from rd_kind h.r] at n0
  rw [show N.num = n from rd_num h.r] at n1
  rw [show N.text = tx from rd_text h.r] at n2
  rw [e5] at n4
  have e : exL 15 tx.data.toList ks.length (headK ks) = [40, 65, 46, 35, 41] := by simp [exL, stL]
  rw [e]
  clear h e5 e 
  go_enter Tryz.func66, Tryz.ntmps66
  go_wp2
  go_ret
  exact ⟨rfl, HB.out⟩
set_option maxRecDepth 100000 in
set_option maxHeartbeats 4000000 in
theorem elay_16 {w : World} {b o : Nat} {N : Nd} {n : Int} {tx : ByteArray} {ns : List ByteArray} {ks : List Tree} (h : TAt w b o (.mk 16 n tx ns ks) N)  : Calls Tryz.prog 66 #[.pointer (some ⟨b, o, none⟩)] w (PostR w (.string (bs (exL 16 tx.data.toList ks.length (headK ks))))) := by
  have n0 := h.k.kind (Below.refl _ _)
  have n1 := h.k.num (Below.refl _ _)
  have n2 := h.k.text (Below.refl _ _)
  have n4 := h.k.kids (Below.refl _ _)
  have e5 := h.kids
  have HB : Hid (Below w.heap.size w w) := Lib.hid (Below.refl _ _)
  rw [show N.kind = 16 from rd_kind h.r] at n0
  rw [show N.num = n from rd_num h.r] at n1
  rw [show N.text = tx from rd_text h.r] at n2
  rw [e5] at n4
  have e : exL 16 tx.data.toList ks.length (headK ks) = [40, 65, 91, 65, 93, 41] := by simp [exL, stL]
  rw [e]
  clear h e5 e 
  go_enter Tryz.func66, Tryz.ntmps66
  go_wp2
  go_ret
  exact ⟨rfl, HB.out⟩
set_option maxRecDepth 100000 in
set_option maxHeartbeats 4000000 in
theorem elay_20 {w : World} {b o : Nat} {N : Nd} {n : Int} {tx : ByteArray} {ns : List ByteArray} {ks : List Tree} (h : TAt w b o (.mk 20 n tx ns ks) N)  : Calls Tryz.prog 66 #[.pointer (some ⟨b, o, none⟩)] w (PostR w (.string (bs (exL 20 tx.data.toList ks.length (headK ks))))) := by
  have n0 := h.k.kind (Below.refl _ _)
  have n1 := h.k.num (Below.refl _ _)
  have n2 := h.k.text (Below.refl _ _)
  have n4 := h.k.kids (Below.refl _ _)
  have e5 := h.kids
  have HB : Hid (Below w.heap.size w w) := Lib.hid (Below.refl _ _)
  rw [show N.kind = 20 from rd_kind h.r] at n0
  rw [show N.num = n from rd_num h.r] at n1
  rw [show N.text = tx from rd_text h.r] at n2
  rw [e5] at n4
  have e : exL 20 tx.data.toList ks.length (headK ks) = [40, 65, 32, 35, 32, 65, 41] := by simp [exL, stL]
  rw [e]
  clear h e5 e 
  go_enter Tryz.func66, Tryz.ntmps66
  go_wp2
  go_ret
  exact ⟨rfl, HB.out⟩
set_option maxRecDepth 100000 in
set_option maxHeartbeats 4000000 in
theorem elay_21 {w : World} {b o : Nat} {N : Nd} {n : Int} {tx : ByteArray} {ns : List ByteArray} {ks : List Tree} (h : TAt w b o (.mk 21 n tx ns ks) N)  : Calls Tryz.prog 66 #[.pointer (some ⟨b, o, none⟩)] w (PostR w (.string (bs (exL 21 tx.data.toList ks.length (headK ks))))) := by
  have n0 := h.k.kind (Below.refl _ _)
  have n1 := h.k.num (Below.refl _ _)
  have n2 := h.k.text (Below.refl _ _)
  have n4 := h.k.kids (Below.refl _ _)
  have e5 := h.kids
  have HB : Hid (Below w.heap.size w w) := Lib.hid (Below.refl _ _)
  rw [show N.kind = 21 from rd_kind h.r] at n0
  rw [show N.num = n from rd_num h.r] at n1
  rw [show N.text = tx from rd_text h.r] at n2
  rw [e5] at n4
  have e : exL 21 tx.data.toList ks.length (headK ks) = [40, 65, 32, 38, 38, 32, 65, 41] := by simp [exL, stL]
  rw [e]
  clear h e5 e 
  go_enter Tryz.func66, Tryz.ntmps66
  go_wp2
  go_ret
  exact ⟨rfl, HB.out⟩
set_option maxRecDepth 100000 in
set_option maxHeartbeats 4000000 in
theorem elay_22 {w : World} {b o : Nat} {N : Nd} {n : Int} {tx : ByteArray} {ns : List ByteArray} {ks : List Tree} (h : TAt w b o (.mk 22 n tx ns ks) N)  : Calls Tryz.prog 66 #[.pointer (some ⟨b, o, none⟩)] w (PostR w (.string (bs (exL 22 tx.data.toList ks.length (headK ks))))) := by
  have n0 := h.k.kind (Below.refl _ _)
  have n1 := h.k.num (Below.refl _ _)
  have n2 := h.k.text (Below.refl _ _)
  have n4 := h.k.kids (Below.refl _ _)
  have e5 := h.kids
  have HB : Hid (Below w.heap.size w w) := Lib.hid (Below.refl _ _)
  rw [show N.kind = 22 from rd_kind h.r] at n0
  rw [show N.num = n from rd_num h.r] at n1
  rw [show N.text = tx from rd_text h.r] at n2
  rw [e5] at n4
  have e : exL 22 tx.data.toList ks.length (headK ks) = [40, 65, 32, 124, 124, 32, 65, 41] := by simp [exL, stL]
  rw [e]
  clear h e5 e 
  go_enter Tryz.func66, Tryz.ntmps66
  go_wp2
  go_ret
  exact ⟨rfl, HB.out⟩
set_option maxRecDepth 100000 in
set_option maxHeartbeats 4000000 in
theorem elay_23 {w : World} {b o : Nat} {N : Nd} {n : Int} {tx : ByteArray} {ns : List ByteArray} {ks : List Tree} (h : TAt w b o (.mk 23 n tx ns ks) N)  : Calls Tryz.prog 66 #[.pointer (some ⟨b, o, none⟩)] w (PostR w (.string (bs (exL 23 tx.data.toList ks.length (headK ks))))) := by
  have n0 := h.k.kind (Below.refl _ _)
  have n1 := h.k.num (Below.refl _ _)
  have n2 := h.k.text (Below.refl _ _)
  have n4 := h.k.kids (Below.refl _ _)
  have e5 := h.kids
  have HB : Hid (Below w.heap.size w w) := Lib.hid (Below.refl _ _)
  rw [show N.kind = 23 from rd_kind h.r] at n0
  rw [show N.num = n from rd_num h.r] at n1
  rw [show N.text = tx from rd_text h.r] at n2
  rw [e5] at n4
  have e : exL 23 tx.data.toList ks.length (headK ks) = [40, 65, 32, 63, 32, 65, 32, 58, 32, 65, 41] := by simp [exL, stL]
  rw [e]
  clear h e5 e 
  go_enter Tryz.func66, Tryz.ntmps66
  go_wp2
  go_ret
  exact ⟨rfl, HB.out⟩
set_option maxRecDepth 100000 in
set_option maxHeartbeats 4000000 in
theorem elay_24 {w : World} {b o : Nat} {N : Nd} {n : Int} {tx : ByteArray} {ns : List ByteArray} {ks : List Tree} (h : TAt w b o (.mk 24 n tx ns ks) N)  : Calls Tryz.prog 66 #[.pointer (some ⟨b, o, none⟩)] w (PostR w (.string (bs (exL 24 tx.data.toList ks.length (headK ks))))) := by
  have n0 := h.k.kind (Below.refl _ _)
  have n1 := h.k.num (Below.refl _ _)
  have n2 := h.k.text (Below.refl _ _)
  have n4 := h.k.kids (Below.refl _ _)
  have e5 := h.kids
  have HB : Hid (Below w.heap.size w w) := Lib.hid (Below.refl _ _)
  rw [show N.kind = 24 from rd_kind h.r] at n0
  rw [show N.num = n from rd_num h.r] at n1
  rw [show N.text = tx from rd_text h.r] at n2
  rw [e5] at n4
  have e : exL 24 tx.data.toList ks.length (headK ks) = [40, 84, 32, 61, 32, 65, 41] := by simp [exL, stL]
  rw [e]
  clear h e5 e 
  go_enter Tryz.func66, Tryz.ntmps66
  go_wp2
  go_ret
  exact ⟨rfl, HB.out⟩
set_option maxRecDepth 100000 in
set_option maxHeartbeats 4000000 in
theorem elay_9 {w : World} {b o : Nat} {N : Nd} {n : Int} {tx : ByteArray} {ns : List ByteArray} {ks : List Tree} (h : TAt w b o (.mk 9 n tx ns ks) N) (hl : ks.length ≤ 100000) : Calls Tryz.prog 66 #[.pointer (some ⟨b, o, none⟩)] w (PostR w (.string (bs (exL 9 tx.data.toList ks.length (headK ks))))) := by
  have n0 := h.k.kind (Below.refl _ _)
  have n1 := h.k.num (Below.refl _ _)
  have n2 := h.k.text (Below.refl _ _)
  have n4 := h.k.kids (Below.refl _ _)
  have e5 := h.kids
  have HB : Hid (Below w.heap.size w w) := Lib.hid (Below.refl _ _)
  rw [show N.kind = 9 from rd_kind h.r] at n0
  rw [show N.num = n from rd_num h.r] at n1
  rw [show N.text = tx from rd_text h.r] at n2
  rw [e5] at n4
  have e : exL 9 tx.data.toList ks.length (headK ks) = [91] ++ listB 65 ks.length ++ [93] := by simp [exL]
  rw [e]
  obtain ⟨m, hm⟩ : ∃ m, ks.length = m := ⟨_, rfl⟩
  rw [hm] at n4 hl ⊢
  have cl := fun w => list_any 65 (m : Int) w (by omega) (by omega)
  rw [show ((m : Int)).toNat = m from by omega] at cl
  have hlen := list_len 65 m
  obtain ⟨S2, z1, z2⟩ := cat3 [91] (listB 65 m) [93] (by simp; omega)
  have z1 : ∀ w, (AddP ⟨#[91]⟩ (bs (listB 65 m))).run Tryz.prog w = .ok (.string S2) w := z1
  have z2 : ∀ w, (AddP S2 ⟨#[93]⟩).run Tryz.prog w = .ok (.string (bs ([91] ++ listB 65 m ++ [93]))) w := z2
  have cl : ∀ w, Calls Tryz.prog 92 #[.string ⟨#[65]⟩, .int .i64 (m : Int)] w (PostR w (.string (bs (listB 65 m)))) := cl
  obtain ⟨R, hR⟩ : ∃ R, bs ([91] ++ listB 65 m ++ [93]) = R := ⟨_, rfl⟩
  obtain ⟨Q, hQ⟩ : ∃ Q, bs (listB 65 m) = Q := ⟨_, rfl⟩
  rw [hR] at z2 ⊢
  rw [hQ] at z1 cl
  have hmi : (m : Int) ≤ 100000 := by omega
  clear h hl hm hR hQ e5 e hlen
  go_enter Tryz.func66, Tryz.ntmps66
  go_wp2_with (first | (go_at_call 92; (with_reducible refine (cl _).mono ?_); intro e w2 hp; obtain ⟨rfl, hb⟩ := hp; have HB := Lib.hid (HB.out.trans (hb.mono HB.out.size)); clear hb))
  go_ret
  exact ⟨rfl, HB.out⟩
set_option maxRecDepth 100000 in
set_option maxHeartbeats 4000000 in
theorem elay_10 {w : World} {b o : Nat} {N : Nd} {n : Int} {tx : ByteArray} {ns : List ByteArray} {ks : List Tree} (h : TAt w b o (.mk 10 n tx ns ks) N) (hl : ks.length ≤ 100000) : Calls Tryz.prog 66 #[.pointer (some ⟨b, o, none⟩)] w (PostR w (.string (bs (exL 10 tx.data.toList ks.length (headK ks))))) := by
  have n0 := h.k.kind (Below.refl _ _)
  have n1 := h.k.num (Below.refl _ _)
  have n2 := h.k.text (Below.refl _ _)
  have n4 := h.k.kids (Below.refl _ _)
  have e5 := h.kids
  have HB : Hid (Below w.heap.size w w) := Lib.hid (Below.refl _ _)
  rw [show N.kind = 10 from rd_kind h.r] at n0
  rw [show N.num = n from rd_num h.r] at n1
  rw [show N.text = tx from rd_text h.r] at n2
  rw [e5] at n4
  have e : exL 10 tx.data.toList ks.length (headK ks) = [40, 123] ++ listB 68 ks.length ++ [125, 41] := by simp [exL]
  rw [e]
  obtain ⟨m, hm⟩ : ∃ m, ks.length = m := ⟨_, rfl⟩
  rw [hm] at n4 hl ⊢
  have cl := fun w => list_any 68 (m : Int) w (by omega) (by omega)
  rw [show ((m : Int)).toNat = m from by omega] at cl
  have hlen := list_len 68 m
  obtain ⟨S2, z1, z2⟩ := cat3 [40, 123] (listB 68 m) [125, 41] (by simp; omega)
  have z1 : ∀ w, (AddP ⟨#[40, 123]⟩ (bs (listB 68 m))).run Tryz.prog w = .ok (.string S2) w := z1
  have z2 : ∀ w, (AddP S2 ⟨#[125, 41]⟩).run Tryz.prog w = .ok (.string (bs ([40, 123] ++ listB 68 m ++ [125, 41]))) w := z2
  have cl : ∀ w, Calls Tryz.prog 92 #[.string ⟨#[68]⟩, .int .i64 (m : Int)] w (PostR w (.string (bs (listB 68 m)))) := cl
  obtain ⟨R, hR⟩ : ∃ R, bs ([40, 123] ++ listB 68 m ++ [125, 41]) = R := ⟨_, rfl⟩
  obtain ⟨Q, hQ⟩ : ∃ Q, bs (listB 68 m) = Q := ⟨_, rfl⟩
  rw [hR] at z2 ⊢
  rw [hQ] at z1 cl
  have hmi : (m : Int) ≤ 100000 := by omega
  clear h hl hm hR hQ e5 e hlen
  go_enter Tryz.func66, Tryz.ntmps66
  go_wp2_with (first | (go_at_call 92; (with_reducible refine (cl _).mono ?_); intro e w2 hp; obtain ⟨rfl, hb⟩ := hp; have HB := Lib.hid (HB.out.trans (hb.mono HB.out.size)); clear hb))
  go_ret
  exact ⟨rfl, HB.out⟩
set_option maxRecDepth 100000 in
set_option maxHeartbeats 4000000 in
theorem elay_17 {w : World} {b o : Nat} {N : Nd} {n : Int} {tx : ByteArray} {ns : List ByteArray} {ks : List Tree} (h : TAt w b o (.mk 17 n tx ns ks) N) (hl : ks.length ≤ 100000) : Calls Tryz.prog 66 #[.pointer (some ⟨b, o, none⟩)] w (PostR w (.string (bs (exL 17 tx.data.toList ks.length (headK ks))))) := by
  have n0 := h.k.kind (Below.refl _ _)
  have n1 := h.k.num (Below.refl _ _)
  have n2 := h.k.text (Below.refl _ _)
  have n4 := h.k.kids (Below.refl _ _)
  have e5 := h.kids
  have HB : Hid (Below w.heap.size w w) := Lib.hid (Below.refl _ _)
  rw [show N.kind = 17 from rd_kind h.r] at n0
  rw [show N.num = n from rd_num h.r] at n1
  rw [show N.text = tx from rd_text h.r] at n2
  rw [e5] at n4
  have e : exL 17 tx.data.toList ks.length (headK ks) = [40, 65, 40] ++ listB 65 (ks.length - 1) ++ [41, 41] := by simp [exL]
  rw [e]
  obtain ⟨m, hm⟩ : ∃ m, ks.length = m := ⟨_, rfl⟩
  rw [hm] at n4 hl ⊢
  have cl := fun w => list_any 65 ((m : Int) - 1) w (by omega) (by omega)
  rw [show (((m : Int) - 1)).toNat = (m - 1) from by omega] at cl
  have hlen := list_len 65 (m - 1)
  obtain ⟨S2, z1, z2⟩ := cat3 [40, 65, 40] (listB 65 (m - 1)) [41, 41] (by simp; omega)
  have z1 : ∀ w, (AddP ⟨#[40, 65, 40]⟩ (bs (listB 65 (m - 1)))).run Tryz.prog w = .ok (.string S2) w := z1
  have z2 : ∀ w, (AddP S2 ⟨#[41, 41]⟩).run Tryz.prog w = .ok (.string (bs ([40, 65, 40] ++ listB 65 (m - 1) ++ [41, 41]))) w := z2
  have cl : ∀ w, Calls Tryz.prog 92 #[.string ⟨#[65]⟩, .int .i64 ((m : Int) - 1)] w (PostR w (.string (bs (listB 65 (m - 1))))) := cl
  obtain ⟨R, hR⟩ : ∃ R, bs ([40, 65, 40] ++ listB 65 (m - 1) ++ [41, 41]) = R := ⟨_, rfl⟩
  obtain ⟨Q, hQ⟩ : ∃ Q, bs (listB 65 (m - 1)) = Q := ⟨_, rfl⟩
  rw [hR] at z2 ⊢
  rw [hQ] at z1 cl
  have hmi : (m : Int) ≤ 100000 := by omega
  clear h hl hm hR hQ e5 e hlen
  go_enter Tryz.func66, Tryz.ntmps66
  go_wp2_with (first | (go_at_call 92; (with_reducible refine (cl _).mono ?_); intro e w2 hp; obtain ⟨rfl, hb⟩ := hp; have HB := Lib.hid (HB.out.trans (hb.mono HB.out.size)); clear hb))
  go_ret
  exact ⟨rfl, HB.out⟩
set_option maxRecDepth 100000 in
set_option maxHeartbeats 4000000 in
theorem elay_18 {w : World} {b o : Nat} {N : Nd} {n : Int} {tx : ByteArray} {ns : List ByteArray} {ks : List Tree} (h : TAt w b o (.mk 18 n tx ns ks) N) (hl : ks.length ≤ 100000) : Calls Tryz.prog 66 #[.pointer (some ⟨b, o, none⟩)] w (PostR w (.string (bs (exL 18 tx.data.toList ks.length (headK ks))))) := by
  have n0 := h.k.kind (Below.refl _ _)
  have n1 := h.k.num (Below.refl _ _)
  have n2 := h.k.text (Below.refl _ _)
  have n4 := h.k.kids (Below.refl _ _)
  have e5 := h.kids
  have HB : Hid (Below w.heap.size w w) := Lib.hid (Below.refl _ _)
  rw [show N.kind = 18 from rd_kind h.r] at n0
  rw [show N.num = n from rd_num h.r] at n1
  rw [show N.text = tx from rd_text h.r] at n2
  rw [e5] at n4
  have e : exL 18 tx.data.toList ks.length (headK ks) = [40, 110, 101, 119, 32, 65, 40] ++ listB 65 (ks.length - 1) ++ [41, 41] := by simp [exL]
  rw [e]
  obtain ⟨m, hm⟩ : ∃ m, ks.length = m := ⟨_, rfl⟩
  rw [hm] at n4 hl ⊢
  have cl := fun w => list_any 65 ((m : Int) - 1) w (by omega) (by omega)
  rw [show (((m : Int) - 1)).toNat = (m - 1) from by omega] at cl
  have hlen := list_len 65 (m - 1)
  obtain ⟨S2, z1, z2⟩ := cat3 [40, 110, 101, 119, 32, 65, 40] (listB 65 (m - 1)) [41, 41] (by simp; omega)
  have z1 : ∀ w, (AddP ⟨#[40, 110, 101, 119, 32, 65, 40]⟩ (bs (listB 65 (m - 1)))).run Tryz.prog w = .ok (.string S2) w := z1
  have z2 : ∀ w, (AddP S2 ⟨#[41, 41]⟩).run Tryz.prog w = .ok (.string (bs ([40, 110, 101, 119, 32, 65, 40] ++ listB 65 (m - 1) ++ [41, 41]))) w := z2
  have cl : ∀ w, Calls Tryz.prog 92 #[.string ⟨#[65]⟩, .int .i64 ((m : Int) - 1)] w (PostR w (.string (bs (listB 65 (m - 1))))) := cl
  obtain ⟨R, hR⟩ : ∃ R, bs ([40, 110, 101, 119, 32, 65, 40] ++ listB 65 (m - 1) ++ [41, 41]) = R := ⟨_, rfl⟩
  obtain ⟨Q, hQ⟩ : ∃ Q, bs (listB 65 (m - 1)) = Q := ⟨_, rfl⟩
  rw [hR] at z2 ⊢
  rw [hQ] at z1 cl
  have hmi : (m : Int) ≤ 100000 := by omega
  clear h hl hm hR hQ e5 e hlen
  go_enter Tryz.func66, Tryz.ntmps66
  go_wp2_with (first | (go_at_call 92; (with_reducible refine (cl _).mono ?_); intro e w2 hp; obtain ⟨rfl, hb⟩ := hp; have HB := Lib.hid (HB.out.trans (hb.mono HB.out.size)); clear hb))
  go_ret
  exact ⟨rfl, HB.out⟩
set_option maxRecDepth 100000 in
set_option maxHeartbeats 4000000 in
theorem plt_0 {w : World} {b o : Nat} {N : Nd} {n : Int} {tx : ByteArray} {ns : List ByteArray} {ks : List Tree} (h : TAt w b o (.mk 11 n tx ns ks) N) (h0 : ks = []) : Calls Tryz.prog 93 #[.pointer (some ⟨b, o, none⟩)] w (PostR w (.string (bs [91, 65, 93, 58, 32, 65]))) := by
  have n0 := h.k.kind (Below.refl _ _)
  have n1 := h.k.num (Below.refl _ _)
  have n2 := h.k.text (Below.refl _ _)
  have n4 := h.k.kids (Below.refl _ _)
  have e5 := h.kids
  have HB : Hid (Below w.heap.size w w) := Lib.hid (Below.refl _ _)
  rw [show N.kind = 11 from rd_kind h.r] at n0
  rw [show N.num = n from rd_num h.r] at n1
  rw [show N.text = tx from rd_text h.r] at n2
  rw [e5] at n4
  subst h0
  have n4 : w.cell? ⟨b, o + 4, none⟩ = some (.slice N.kids.a 0 N.kids.c) := n4
  clear h e5
  go_enter Tryz.func93, Tryz.ntmps93
  go_wp2
  go_ret
  exact ⟨rfl, HB.out⟩
set_option maxRecDepth 100000 in
set_option maxHeartbeats 4000000 in
theorem plt_1 {a : Tree} {w : World} {b o : Nat} {N : Nd} {n : Int} {tx : ByteArray} {ns : List ByteArray} {ks : List Tree} (h : TAt w b o (.mk 11 n tx ns (a :: ks)) N) : Calls Tryz.prog 93 #[.pointer (some ⟨b, o, none⟩)] w (PostR w (.string (bs (if a.kind = 2 then [65, 58, 32, 65] else [91, 65, 93, 58, 32, 65])))) := by
  have n0 := h.k.kind (Below.refl _ _)
  have n1 := h.k.num (Below.refl _ _)
  have n2 := h.k.text (Below.refl _ _)
  have n4 := h.k.kids (Below.refl _ _)
  have e5 := h.kids
  have HB : Hid (Below w.heap.size w w) := Lib.hid (Below.refl _ _)
  rw [show N.kind = 11 from rd_kind h.r] at n0
  rw [show N.num = n from rd_num h.r] at n1
  rw [show N.text = tx from rd_text h.r] at n2
  rw [e5] at n4
  obtain ⟨b2, o2, x, q1, q2, q3, q4, q5⟩ := h.kid (i := 0) rfl
  rw [q1] at n4
  obtain ⟨m, hm⟩ : ∃ m, (a :: ks).length = m + 1 := ⟨ks.length, rfl⟩
  rw [hm] at n4 q3
  have hmi : (m : Int) + 1 ≤ 9223372036854775807 := by have h1 := q4; unfold maxLen at h1; omega
  have f0 : decide (0 < ((m : Int) + 1)) = true := decide_eq_true (by omega)
  have k0 := q5.k.kind (Below.refl _ _)
  rw [show x.kind = a.kind from rd_kind q5.r, Nat.zero_mul, Nat.add_zero] at k0
  have hc : 1 ≤ N.kids.c := by omega
  by_cases h2 : a.kind = 2
  · rw [if_pos h2]
    have f2 : (a.kind == 2) = true := by simpa using h2
    clear h e5 q1 q2 q3 q4 q5 hm h2
    go_enter Tryz.func93, Tryz.ntmps93
    go_wp2
    go_ret
    exact ⟨rfl, HB.out⟩
  · rw [if_neg h2]
    have f2 : (a.kind == 2) = false := by simpa using h2
    clear h e5 q1 q2 q3 q4 q5 hm h2
    go_enter Tryz.func93, Tryz.ntmps93
    go_wp2
    go_ret
    exact ⟨rfl, HB.out⟩
set_option maxRecDepth 100000 in
set_option maxHeartbeats 4000000 in
theorem elay_11 {w : World} {b o : Nat} {N : Nd} {n : Int} {tx : ByteArray} {ns : List ByteArray} {ks : List Tree} (h : TAt w b o (.mk 11 n tx ns ks) N) : Calls Tryz.prog 66 #[.pointer (some ⟨b, o, none⟩)] w (PostR w (.string (bs (exL 11 tx.data.toList ks.length (headK ks))))) := by
  have n0 := h.k.kind (Below.refl _ _)
  have n1 := h.k.num (Below.refl _ _)
  have n2 := h.k.text (Below.refl _ _)
  have n4 := h.k.kids (Below.refl _ _)
  have e5 := h.kids
  have HB : Hid (Below w.heap.size w w) := Lib.hid (Below.refl _ _)
  rw [show N.kind = 11 from rd_kind h.r] at n0
  rw [show N.num = n from rd_num h.r] at n1
  rw [show N.text = tx from rd_text h.r] at n2
  rw [e5] at n4
  have cp : Calls Tryz.prog 93 #[.pointer (some ⟨b, o, none⟩)] w (PostR w (.string (bs (exL 11 tx.data.toList ks.length (headK ks))))) := by
    cases ks with
    | nil => exact plt_0 h rfl
    | cons a l =>
      have := plt_1 h
      have e : exL 11 tx.data.toList (a :: l).length (headK (a :: l)) = if a.kind = 2 then [65, 58, 32, 65] else [91, 65, 93, 58, 32, 65] := by simp [exL, headK]
      rw [e]
      exact this
  obtain ⟨R, hR⟩ : ∃ R, bs (exL 11 tx.data.toList ks.length (headK ks)) = R := ⟨_, rfl⟩
  rw [hR] at cp ⊢
  clear h e5 hR
  go_enter Tryz.func66, Tryz.ntmps66
  go_wp2_with (first | (go_at_call 93; (with_reducible refine (cp).mono ?_); intro e w2 hp; obtain ⟨rfl, hb⟩ := hp; have HB := Lib.hid (HB.out.trans (hb.mono HB.out.size)); clear hb))
  go_ret
  exact ⟨rfl, HB.out⟩
set_option maxRecDepth 100000 in
set_option maxHeartbeats 4000000 in
theorem ulay_d {w : World} {b o : Nat} {N : Nd} {k n : Int} {tx : ByteArray} {ns : List ByteArray} {ks : List Tree} (h : TAt w b o (.mk k n tx ns ks) N) (hh : tx.data.toList = [100, 101, 108, 101, 116, 101]) : Calls Tryz.prog 94 #[.pointer (some ⟨b, o, none⟩)] w (PostR w (.string (bs [40, 35, 32, 77, 41]))) := by
  have n0 := h.k.kind (Below.refl _ _)
  have n1 := h.k.num (Below.refl _ _)
  have n2 := h.k.text (Below.refl _ _)
  have n4 := h.k.kids (Below.refl _ _)
  have e5 := h.kids
  have HB : Hid (Below w.heap.size w w) := Lib.hid (Below.refl _ _)
  rw [show N.kind = k from rd_kind h.r] at n0
  rw [show N.num = n from rd_num h.r] at n1
  rw [show N.text = tx from rd_text h.r] at n2
  rw [e5] at n4
  have g1 : (tx.toList == [100, 101, 108, 101, 116, 101]) = true := by rw [tl_data, hh]; rfl
  clear h e5 hh
  go_enter Tryz.func94, Tryz.ntmps94
  go_wp2
  go_ret
  exact ⟨rfl, HB.out⟩
set_option maxRecDepth 100000 in
set_option maxHeartbeats 4000000 in
theorem ulay_t {w : World} {b o : Nat} {N : Nd} {k n : Int} {tx : ByteArray} {ns : List ByteArray} {ks : List Tree} (h : TAt w b o (.mk k n tx ns ks) N) (hh : tx.data.toList = [116, 121, 112, 101, 111, 102]) : Calls Tryz.prog 94 #[.pointer (some ⟨b, o, none⟩)] w (PostR w (.string (bs [40, 35, 32, 65, 41]))) := by
  have n0 := h.k.kind (Below.refl _ _)
  have n1 := h.k.num (Below.refl _ _)
  have n2 := h.k.text (Below.refl _ _)
  have n4 := h.k.kids (Below.refl _ _)
  have e5 := h.kids
  have HB : Hid (Below w.heap.size w w) := Lib.hid (Below.refl _ _)
  rw [show N.kind = k from rd_kind h.r] at n0
  rw [show N.num = n from rd_num h.r] at n1
  rw [show N.text = tx from rd_text h.r] at n2
  rw [e5] at n4
  have g1 : (tx.toList == [100, 101, 108, 101, 116, 101]) = false := by rw [tl_data, hh]; rfl
  have g2 : (tx.toList == [116, 121, 112, 101, 111, 102]) = true := by rw [tl_data, hh]; rfl
  clear h e5 hh
  go_enter Tryz.func94, Tryz.ntmps94
  go_wp2
  go_ret
  exact ⟨rfl, HB.out⟩
set_option maxRecDepth 100000 in
set_option maxHeartbeats 4000000 in
theorem ulay_o {w : World} {b o : Nat} {N : Nd} {k n : Int} {tx : ByteArray} {ns : List ByteArray} {ks : List Tree} (h : TAt w b o (.mk k n tx ns ks) N) (hh : tx.data.toList ≠ [100, 101, 108, 101, 116, 101] ∧ tx.data.toList ≠ [116, 121, 112, 101, 111, 102]) : Calls Tryz.prog 94 #[.pointer (some ⟨b, o, none⟩)] w (PostR w (.string (bs [40, 35, 65, 41]))) := by
  have n0 := h.k.kind (Below.refl _ _)
  have n1 := h.k.num (Below.refl _ _)
  have n2 := h.k.text (Below.refl _ _)
  have n4 := h.k.kids (Below.refl _ _)
  have e5 := h.kids
  have HB : Hid (Below w.heap.size w w) := Lib.hid (Below.refl _ _)
  rw [show N.kind = k from rd_kind h.r] at n0
  rw [show N.num = n from rd_num h.r] at n1
  rw [show N.text = tx from rd_text h.r] at n2
  rw [e5] at n4
  have g1 : (tx.toList == [100, 101, 108, 101, 116, 101]) = false := by rw [tl_data]; simpa using hh.1
  have g2 : (tx.toList == [116, 121, 112, 101, 111, 102]) = false := by rw [tl_data]; simpa using hh.2
  clear h e5 hh
  go_enter Tryz.func94, Tryz.ntmps94
  go_wp2
  go_ret
  exact ⟨rfl, HB.out⟩
set_option maxRecDepth 100000 in
set_option maxHeartbeats 4000000 in
theorem elay_19 {w : World} {b o : Nat} {N : Nd} {n : Int} {tx : ByteArray} {ns : List ByteArray} {ks : List Tree} (h : TAt w b o (.mk 19 n tx ns ks) N) : Calls Tryz.prog 66 #[.pointer (some ⟨b, o, none⟩)] w (PostR w (.string (bs (exL 19 tx.data.toList ks.length (headK ks))))) := by
  have n0 := h.k.kind (Below.refl _ _)
  have n1 := h.k.num (Below.refl _ _)
  have n2 := h.k.text (Below.refl _ _)
  have n4 := h.k.kids (Below.refl _ _)
  have e5 := h.kids
  have HB : Hid (Below w.heap.size w w) := Lib.hid (Below.refl _ _)
  rw [show N.kind = 19 from rd_kind h.r] at n0
  rw [show N.num = n from rd_num h.r] at n1
  rw [show N.text = tx from rd_text h.r] at n2
  rw [e5] at n4
  have cp : Calls Tryz.prog 94 #[.pointer (some ⟨b, o, none⟩)] w (PostR w (.string (bs (exL 19 tx.data.toList ks.length (headK ks))))) := by
    by_cases h1 : tx.data.toList = [100, 101, 108, 101, 116, 101]
    · rw [show exL 19 tx.data.toList ks.length (headK ks) = [40, 35, 32, 77, 41] from by simp [exL, h1]]; exact ulay_d h h1
    · by_cases h2 : tx.data.toList = [116, 121, 112, 101, 111, 102]
      · rw [show exL 19 tx.data.toList ks.length (headK ks) = [40, 35, 32, 65, 41] from by simp [exL, h2]]; exact ulay_t h h2
      · rw [show exL 19 tx.data.toList ks.length (headK ks) = [40, 35, 65, 41] from by simp [exL, h1, h2]]; exact ulay_o h ⟨h1, h2⟩
  obtain ⟨R, hR⟩ : ∃ R, bs (exL 19 tx.data.toList ks.length (headK ks)) = R := ⟨_, rfl⟩
  rw [hR] at cp ⊢
  clear h e5 hR
  go_enter Tryz.func66, Tryz.ntmps66
  go_wp2_with (first | (go_at_call 94; (with_reducible refine (cp).mono ?_); intro e w2 hp; obtain ⟨rfl, hb⟩ := hp; have HB := Lib.hid (HB.out.trans (hb.mono HB.out.size)); clear hb))
  go_ret
  exact ⟨rfl, HB.out⟩
set_option maxRecDepth 100000 in
set_option maxHeartbeats 4000000 in
theorem elay_else {w : World} {b o : Nat} {N : Nd} {k n : Int} {tx : ByteArray} {ns : List ByteArray} {ks : List Tree} (h : TAt w b o (.mk k n tx ns ks) N) (h1 : k < 30) (h2 : ¬ (1 ≤ k ∧ k ≤ 24)) : Calls Tryz.prog 66 #[.pointer (some ⟨b, o, none⟩)] w (PostR w (.string (bs (exL k tx.data.toList ks.length (headK ks))))) := by
  have n0 := h.k.kind (Below.refl _ _)
  have n1 := h.k.num (Below.refl _ _)
  have n2 := h.k.text (Below.refl _ _)
  have n4 := h.k.kids (Below.refl _ _)
  have e5 := h.kids
  have HB : Hid (Below w.heap.size w w) := Lib.hid (Below.refl _ _)
  rw [show N.kind = k from rd_kind h.r] at n0
  rw [show N.num = n from rd_num h.r] at n1
  rw [show N.text = tx from rd_text h.r] at n2
  rw [e5] at n4
  have f1 : (k == 1) = false := by simp; omega
  have f2 : (k == 2) = false := by simp; omega
  have f3 : (k == 3) = false := by simp; omega
  have f4 : (k == 4) = false := by simp; omega
  have f5 : (k == 5) = false := by simp; omega
  have f6 : (k == 6) = false := by simp; omega
  have f7 : (k == 7) = false := by simp; omega
  have f8 : (k == 8) = false := by simp; omega
  have f9 : (k == 9) = false := by simp; omega
  have f10 : (k == 10) = false := by simp; omega
  have f11 : (k == 11) = false := by simp; omega
  have f12 : (k == 12) = false := by simp; omega
  have f13 : (k == 13) = false := by simp; omega
  have f15 : (k == 15) = false := by simp; omega
  have f16 : (k == 16) = false := by simp; omega
  have f17 : (k == 17) = false := by simp; omega
  have f18 : (k == 18) = false := by simp; omega
  have f19 : (k == 19) = false := by simp; omega
  have f20 : (k == 20) = false := by simp; omega
  have f21 : (k == 21) = false := by simp; omega
  have f22 : (k == 22) = false := by simp; omega
  have f23 : (k == 23) = false := by simp; omega
  have f24 : (k == 24) = false := by simp; omega
  have e : exL k tx.data.toList ks.length (headK ks) = [] := by unfold exL; simp [show k ≠ 1 ∧ k ≠ 2 from by omega, show k ≠ 1 from by omega, show k ≠ 2 from by omega, show k ≠ 3 from by omega, show k ≠ 4 from by omega, show k ≠ 5 from by omega, show k ≠ 6 from by omega, show k ≠ 7 from by omega, show k ≠ 8 from by omega, show k ≠ 9 from by omega, show k ≠ 10 from by omega, show k ≠ 11 from by omega, show k ≠ 12 from by omega, show k ≠ 13 from by omega, show k ≠ 15 from by omega, show k ≠ 16 from by omega, show k ≠ 17 from by omega, show k ≠ 18 from by omega, show k ≠ 19 from by omega, show k ≠ 20 from by omega, show k ≠ 21 from by omega, show k ≠ 22 from by omega, show k ≠ 23 from by omega, show k ≠ 24 from by omega]
  rw [e]
  clear h e5 e h1 h2
  go_enter Tryz.func66, Tryz.ntmps66
  go_wp2
  go_ret
  exact ⟨rfl, HB.out⟩
end Go.Proofs.YtinoaajohkafmaaGreat.Pr
