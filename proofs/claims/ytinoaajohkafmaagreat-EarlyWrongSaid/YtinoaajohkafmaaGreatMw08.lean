/-
  Texts of this seat in build order: PgSpot, PgSpot3.
-/
import Derived.Test.YtinoaajohkafmaaGreatMw07
import Derived.Test.YtinoaajohkafmaaGreatMw06
import Derived.Deep.LoopGhost
/-
  The printer's spots: kinds.
-/
namespace Go.Proofs.YtinoaajohkafmaaGreat.Pr
open Go Go.RowKit Go.Proofs.YtinoaajohkafmaaGreat.Pa Go.Proofs.YtinoaajohkafmaaGreat.Uni
open Go.Proofs.YtinoaajohkafmaaGreat.Lx
set_option linter.unusedVariables false
set_option linter.unusedSimpArgs false
def scs (b o : Nat) (p : Int) : Array Value := #[.pointer (some ⟨b, o, none⟩), .int .i32 p]
theorem scs_0 (b o : Nat) (p : Int) : (scs b o p)[0]? = some (.pointer (some ⟨b, o, none⟩)) := rfl
theorem scs_1 (b o : Nat) (p : Int) : (scs b o p)[1]? = some (.int .i32 p) := rfl
theorem scs_size (b o : Nat) (p : Int) : (scs b o p).size = 2 := rfl
theorem scs_one (b o : Nat) (p : Int) : (scs b o p).all (·.oneCell') = true := by simp [scs, Value.oneCell']
theorem ldS (v : Value) : Instr.loadAt 58 v = Ld 58 v := (rfl)
theorem stS (p v : Value) : Instr.storeAt 58 p v = Lx.St 58 p v := (rfl)
theorem alS : Instr.alloc 58 true (.tuple #[]) = Al 58 := (rfl)
theorem bdS (ps : Array (Nat × Value)) : Instr.build 58 ps = Bd 58 ps := (rfl)
theorem sizeS : (Tryz.prog.info? 58).map (·.size) = some 2 := by kernel_rfl
theorem run_ldS {w : World} {g b o : Nat} {p : Int} {T : TypeId} (h : Blk w g (scs b o p) T) : (Ld 58 (.pointer (some ⟨g, 0, none⟩))).run Tryz.prog w = .ok (.agg (scs b o p)) w := by
  have := run_loadAt_mid (P := Tryz.prog) w g 0 58 (scs b o p).toList _ (h.range (r := []) (by simp)) Tryz.underlying58 rfl sizeS
  simpa [Ld] using this
theorem sp_start {w : World} {b o : Nat} {N : Nd} (p : Int) (hk : KidAt w b o N) :
    Blk (w.alloc (.cells (scs b o p) 58)) w.heap.size (scs b o p) 58 ∧
    (w.alloc (.cells (scs b o p) 58)).cell? ⟨w.heap.size, 0, none⟩ = some (.pointer (some ⟨b, o, none⟩)) ∧
    (w.alloc (.cells (scs b o p) 58)).cell? ⟨w.heap.size, 1, none⟩ = some (.int .i32 p) ∧
    (w.alloc (.cells (scs b o p) 58)).cell? ⟨b, o, none⟩ = some (.int .i64 N.kind) ∧
    (w.alloc (.cells (scs b o p) 58)).cell? ⟨b, o + 1, none⟩ = some (.int .i64 N.num) ∧
    (w.alloc (.cells (scs b o p) 58)).cell? ⟨b, o + 2, none⟩ = some (.string N.text) ∧
    (w.alloc (.cells (scs b o p) 58)).cell? ⟨b, o + 3, none⟩ = some (.slice N.names.a N.names.n N.names.c) ∧
    (w.alloc (.cells (scs b o p) 58)).cell? ⟨b, o + 4, none⟩ = some (.slice N.kids.a N.kids.n N.kids.c) ∧
    Hid (Below w.heap.size w (w.alloc (.cells (scs b o p) 58))) := by
  have bN := Blk.new w (scs b o p) 58
  have hb : Below w.heap.size w (w.alloc (.cells (scs b o p) 58)) := bel1
  exact ⟨bN, (bN.cell 0).trans (scs_0 b o p), (bN.cell 1).trans (scs_1 b o p), hk.kind hb, hk.num hb, hk.text hb, hk.names hb, hk.kids hb, Lib.hid hb⟩
attribute [local go_sem ↓] ldK stK alK bdK bsK ldN stN alN bdN bsN ldS stS alS bdS
attribute [local irreducible] kcs ncs ncells scs
attribute [local go_sem] run_alN run_stNg run_ldNg run_bdN0
set_option maxRecDepth 100000 in
theorem isElement_any (k : Int) (w : World) : Calls Tryz.prog 39 #[.int .i64 k] w (PostR w (.bool (k == 11 || (k == 12 || k == 13)))) := by
  obtain ⟨q0, f0⟩ : ∃ q, (k == 11) = q := ⟨_, rfl⟩
  rw [f0]
  obtain ⟨q1, f1⟩ : ∃ q, (k == 12) = q := ⟨_, rfl⟩
  rw [f1]
  obtain ⟨q2, f2⟩ : ∃ q, (k == 13) = q := ⟨_, rfl⟩
  rw [f2]
  cases q0; cases q1; cases q2
  all_goals (
    go_enter Tryz.func39, Tryz.ntmps39
    go_wp2
    go_ret
    exact ⟨rfl, Below.refl _ _⟩)
set_option maxRecDepth 100000 in
theorem isMember_any (k : Int) (w : World) : Calls Tryz.prog 40 #[.int .i64 k] w (PostR w (.bool (k == 15 || k == 16))) := by
  obtain ⟨q0, f0⟩ : ∃ q, (k == 15) = q := ⟨_, rfl⟩
  rw [f0]
  obtain ⟨q1, f1⟩ : ∃ q, (k == 16) = q := ⟨_, rfl⟩
  rw [f1]
  cases q0; cases q1
  all_goals (
    go_enter Tryz.func40, Tryz.ntmps40
    go_wp2
    go_ret
    exact ⟨rfl, Below.refl _ _⟩)
set_option maxRecDepth 100000 in
set_option maxHeartbeats 4000000 in
theorem kind_80 {w : World} {b o : Nat} {N : Nd} {k : Int} (hk : KidAt w b o N) (hkk : N.kind = k) : Calls Tryz.prog 21 #[.agg (scs b o 80)] w (PostR w (.bool (kindB 80 k))) := by
  obtain ⟨bN, s0, s1, n0, n1, n2, n3, n4, HB⟩ := sp_start 80 hk
  rw [hkk] at n0
  have hkb : kindB 80 k = (k == 44) := by unfold kindB; rw [Bool.eq_iff_iff]; simp
  rw [hkb]
  obtain ⟨q0, fq0⟩ : ∃ q, (k == 44) = q := ⟨_, rfl⟩
  rw [fq0]
  clear hk hkk hkb bN
  cases q0
  all_goals (
    go_enter Tryz.func21, Tryz.ntmps21
    go_wp2
    go_ret
    exact ⟨rfl, HB.out⟩)
set_option maxRecDepth 100000 in
set_option maxHeartbeats 4000000 in
theorem kind_83 {w : World} {b o : Nat} {N : Nd} {k : Int} (hk : KidAt w b o N) (hkk : N.kind = k) : Calls Tryz.prog 21 #[.agg (scs b o 83)] w (PostR w (.bool (kindB 83 k))) := by
  obtain ⟨bN, s0, s1, n0, n1, n2, n3, n4, HB⟩ := sp_start 83 hk
  rw [hkk] at n0
  have hkb : kindB 83 k = (decide (30 ≤ k) && (decide (k ≤ 43) && (k != 39))) := by unfold kindB; rw [Bool.eq_iff_iff]; simp
  rw [hkb]
  obtain ⟨q0, fq0⟩ : ∃ q, decide (30 ≤ k) = q := ⟨_, rfl⟩
  rw [fq0]
  obtain ⟨q1, fq1⟩ : ∃ q, decide (k ≤ 43) = q := ⟨_, rfl⟩
  rw [fq1]
  obtain ⟨q2, fq2⟩ : ∃ q, (k != 39) = q := ⟨_, rfl⟩
  rw [fq2]
  clear hk hkk hkb bN
  cases q0; rotate_left; cases q1; rotate_left; cases q2
  all_goals (
    go_enter Tryz.func21, Tryz.ntmps21
    go_wp2
    go_ret
    exact ⟨rfl, HB.out⟩)
set_option maxRecDepth 100000 in
set_option maxHeartbeats 4000000 in
theorem kind_66 {w : World} {b o : Nat} {N : Nd} {k : Int} (hk : KidAt w b o N) (hkk : N.kind = k) : Calls Tryz.prog 21 #[.agg (scs b o 66)] w (PostR w (.bool (kindB 66 k))) := by
  obtain ⟨bN, s0, s1, n0, n1, n2, n3, n4, HB⟩ := sp_start 66 hk
  rw [hkk] at n0
  have hkb : kindB 66 k = (k == 40) := by unfold kindB; rw [Bool.eq_iff_iff]; simp
  rw [hkb]
  obtain ⟨q0, fq0⟩ : ∃ q, (k == 40) = q := ⟨_, rfl⟩
  rw [fq0]
  clear hk hkk hkb bN
  cases q0
  all_goals (
    go_enter Tryz.func21, Tryz.ntmps21
    go_wp2
    go_ret
    exact ⟨rfl, HB.out⟩)
set_option maxRecDepth 100000 in
set_option maxHeartbeats 4000000 in
theorem kind_67 {w : World} {b o : Nat} {N : Nd} {k : Int} (hk : KidAt w b o N) (hkk : N.kind = k) : Calls Tryz.prog 21 #[.agg (scs b o 67)] w (PostR w (.bool (kindB 67 k))) := by
  obtain ⟨bN, s0, s1, n0, n1, n2, n3, n4, HB⟩ := sp_start 67 hk
  rw [hkk] at n0
  have hkb : kindB 67 k = (k == 39) := by unfold kindB; rw [Bool.eq_iff_iff]; simp
  rw [hkb]
  obtain ⟨q0, fq0⟩ : ∃ q, (k == 39) = q := ⟨_, rfl⟩
  rw [fq0]
  clear hk hkk hkb bN
  cases q0
  all_goals (
    go_enter Tryz.func21, Tryz.ntmps21
    go_wp2
    go_ret
    exact ⟨rfl, HB.out⟩)
set_option maxRecDepth 100000 in
set_option maxHeartbeats 4000000 in
theorem kind_65 {w : World} {b o : Nat} {N : Nd} {k : Int} (hk : KidAt w b o N) (hkk : N.kind = k) : Calls Tryz.prog 21 #[.agg (scs b o 65)] w (PostR w (.bool (kindB 65 k))) := by
  obtain ⟨bN, s0, s1, n0, n1, n2, n3, n4, HB⟩ := sp_start 65 hk
  rw [hkk] at n0
  have hkb : kindB 65 k = (decide (1 ≤ k) && (decide (k ≤ 24) && !(k == 11 || (k == 12 || k == 13)))) := by unfold kindB; rw [Bool.eq_iff_iff]; simp
  rw [hkb]
  have ce := fun W => isElement_any k W
  obtain ⟨qe, he⟩ : ∃ q, (k == 11 || (k == 12 || k == 13)) = q := ⟨_, rfl⟩
  rw [he] at ce ⊢
  obtain ⟨q0, fq0⟩ : ∃ q, decide (1 ≤ k) = q := ⟨_, rfl⟩
  rw [fq0]
  obtain ⟨q1, fq1⟩ : ∃ q, decide (k ≤ 24) = q := ⟨_, rfl⟩
  rw [fq1]
  clear hk hkk hkb bN he
  cases q0; rotate_left; cases q1; rotate_left; cases qe
  all_goals (
    go_enter Tryz.func21, Tryz.ntmps21
    go_wp2_with (go_at_call 39; (with_reducible refine (ce _).mono ?_); intro e w2 hp; obtain ⟨rfl, hb⟩ := hp; have HB := Lib.hid (HB.out.trans (hb.mono HB.out.size)); clear hb)
    go_ret
    exact ⟨rfl, HB.out⟩)
set_option maxRecDepth 100000 in
set_option maxHeartbeats 4000000 in
theorem kind_84 {w : World} {b o : Nat} {N : Nd} {k : Int} (hk : KidAt w b o N) (hkk : N.kind = k) : Calls Tryz.prog 21 #[.agg (scs b o 84)] w (PostR w (.bool (kindB 84 k))) := by
  obtain ⟨bN, s0, s1, n0, n1, n2, n3, n4, HB⟩ := sp_start 84 hk
  rw [hkk] at n0
  have hkb : kindB 84 k = (k == 8 || (k == 15 || k == 16)) := by unfold kindB; rw [Bool.eq_iff_iff]; simp
  rw [hkb]
  have ce := fun W => isMember_any k W
  obtain ⟨qe, he⟩ : ∃ q, (k == 15 || k == 16) = q := ⟨_, rfl⟩
  rw [he] at ce ⊢
  obtain ⟨q0, fq0⟩ : ∃ q, (k == 8) = q := ⟨_, rfl⟩
  rw [fq0]
  clear hk hkk hkb bN he
  cases q0; rotate_left; cases qe
  all_goals (
    go_enter Tryz.func21, Tryz.ntmps21
    go_wp2_with (go_at_call 40; (with_reducible refine (ce _).mono ?_); intro e w2 hp; obtain ⟨rfl, hb⟩ := hp; have HB := Lib.hid (HB.out.trans (hb.mono HB.out.size)); clear hb)
    go_ret
    exact ⟨rfl, HB.out⟩)
set_option maxRecDepth 100000 in
set_option maxHeartbeats 4000000 in
theorem kind_77 {w : World} {b o : Nat} {N : Nd} {k : Int} (hk : KidAt w b o N) (hkk : N.kind = k) : Calls Tryz.prog 21 #[.agg (scs b o 77)] w (PostR w (.bool (kindB 77 k))) := by
  obtain ⟨bN, s0, s1, n0, n1, n2, n3, n4, HB⟩ := sp_start 77 hk
  rw [hkk] at n0
  have hkb : kindB 77 k = (k == 15 || k == 16) := by unfold kindB; rw [Bool.eq_iff_iff]; simp
  rw [hkb]
  have ce := fun W => isMember_any k W
  obtain ⟨qe, he⟩ : ∃ q, (k == 15 || k == 16) = q := ⟨_, rfl⟩
  rw [he] at ce ⊢
  clear hk hkk hkb bN he
  cases qe
  all_goals (
    go_enter Tryz.func21, Tryz.ntmps21
    go_wp2_with (go_at_call 40; (with_reducible refine (ce _).mono ?_); intro e w2 hp; obtain ⟨rfl, hb⟩ := hp; have HB := Lib.hid (HB.out.trans (hb.mono HB.out.size)); clear hb)
    go_ret
    exact ⟨rfl, HB.out⟩)
set_option maxRecDepth 100000 in
set_option maxHeartbeats 4000000 in
theorem kind_68 {w : World} {b o : Nat} {N : Nd} {k : Int} (hk : KidAt w b o N) (hkk : N.kind = k) : Calls Tryz.prog 21 #[.agg (scs b o 68)] w (PostR w (.bool (kindB 68 k))) := by
  obtain ⟨bN, s0, s1, n0, n1, n2, n3, n4, HB⟩ := sp_start 68 hk
  rw [hkk] at n0
  have hkb : kindB 68 k = (k == 11 || (k == 12 || k == 13)) := by unfold kindB; rw [Bool.eq_iff_iff]; simp
  rw [hkb]
  have ce := fun W => isElement_any k W
  obtain ⟨qe, he⟩ : ∃ q, (k == 11 || (k == 12 || k == 13)) = q := ⟨_, rfl⟩
  rw [he] at ce ⊢
  clear hk hkk hkb bN he
  cases qe
  all_goals (
    go_enter Tryz.func21, Tryz.ntmps21
    go_wp2_with (go_at_call 39; (with_reducible refine (ce _).mono ?_); intro e w2 hp; obtain ⟨rfl, hb⟩ := hp; have HB := Lib.hid (HB.out.trans (hb.mono HB.out.size)); clear hb)
    go_ret
    exact ⟨rfl, HB.out⟩)
set_option maxRecDepth 100000 in
set_option maxHeartbeats 4000000 in
theorem kind_70 {w : World} {b o : Nat} {N : Nd} {k : Int} (hk : KidAt w b o N) (hkk : N.kind = k) : Calls Tryz.prog 21 #[.agg (scs b o 70)] w (PostR w (.bool (kindB 70 k))) := by
  obtain ⟨bN, s0, s1, n0, n1, n2, n3, n4, HB⟩ := sp_start 70 hk
  rw [hkk] at n0
  have hkb : kindB 70 k = (k == 14) := by unfold kindB; rw [Bool.eq_iff_iff]; simp
  rw [hkb]
  obtain ⟨q0, fq0⟩ : ∃ q, (k == 14) = q := ⟨_, rfl⟩
  rw [fq0]
  clear hk hkk hkb bN
  cases q0
  all_goals (
    go_enter Tryz.func21, Tryz.ntmps21
    go_wp2
    go_ret
    exact ⟨rfl, HB.out⟩)
set_option maxRecDepth 100000 in
set_option maxHeartbeats 4000000 in
theorem kind_71 {w : World} {b o : Nat} {N : Nd} {k : Int} (hk : KidAt w b o N) (hkk : N.kind = k) : Calls Tryz.prog 21 #[.agg (scs b o 71)] w (PostR w (.bool (kindB 71 k))) := by
  obtain ⟨bN, s0, s1, n0, n1, n2, n3, n4, HB⟩ := sp_start 71 hk
  rw [hkk] at n0
  have hkb : kindB 71 k = (k == 14) := by unfold kindB; rw [Bool.eq_iff_iff]; simp
  rw [hkb]
  obtain ⟨q0, fq0⟩ : ∃ q, (k == 14) = q := ⟨_, rfl⟩
  rw [fq0]
  clear hk hkk hkb bN
  cases q0
  all_goals (
    go_enter Tryz.func21, Tryz.ntmps21
    go_wp2
    go_ret
    exact ⟨rfl, HB.out⟩)
set_option maxRecDepth 100000 in
set_option maxHeartbeats 4000000 in
theorem kind_72 {w : World} {b o : Nat} {N : Nd} {k : Int} (hk : KidAt w b o N) (hkk : N.kind = k) : Calls Tryz.prog 21 #[.agg (scs b o 72)] w (PostR w (.bool (kindB 72 k))) := by
  obtain ⟨bN, s0, s1, n0, n1, n2, n3, n4, HB⟩ := sp_start 72 hk
  rw [hkk] at n0
  have hkb : kindB 72 k = (k == 14) := by unfold kindB; rw [Bool.eq_iff_iff]; simp
  rw [hkb]
  obtain ⟨q0, fq0⟩ : ∃ q, (k == 14) = q := ⟨_, rfl⟩
  rw [fq0]
  clear hk hkk hkb bN
  cases q0
  all_goals (
    go_enter Tryz.func21, Tryz.ntmps21
    go_wp2
    go_ret
    exact ⟨rfl, HB.out⟩)
def Plc (p : UInt8) : Prop := p = 80 ∨ p = 83 ∨ p = 66 ∨ p = 67 ∨ p = 65 ∨ p = 84 ∨ p = 77 ∨ p = 68 ∨ p = 70 ∨ p = 71 ∨ p = 72
theorem kind_any {p : UInt8} (hp : Plc p) {w : World} {b o : Nat} {N : Nd} {k : Int} (hk : KidAt w b o N) (hkk : N.kind = k) : Calls Tryz.prog 21 #[.agg (scs b o (p.toNat : Int))] w (PostR w (.bool (kindB p k))) := by
  rcases hp with rfl | rfl | rfl | rfl | rfl | rfl | rfl | rfl | rfl | rfl | rfl
  · exact kind_80 hk hkk
  · exact kind_83 hk hkk
  · exact kind_66 hk hkk
  · exact kind_67 hk hkk
  · exact kind_65 hk hkk
  · exact kind_84 hk hkk
  · exact kind_77 hk hkk
  · exact kind_68 hk hkk
  · exact kind_70 hk hkk
  · exact kind_71 hk hkk
  · exact kind_72 hk hkk
set_option maxRecDepth 100000 in
set_option maxHeartbeats 4000000 in
theorem isUnary_any (t : ByteArray) (w : World) : Calls Tryz.prog 47 #[.string t] w (PostR w (.bool (unL.contains t.data.toList))) := by
  rw [← tl_data]
  obtain ⟨l, hl⟩ : ∃ l, t.toList = l := ⟨_, rfl⟩
  have e : unL.contains t.toList = ((t.toList == [33]) || ((t.toList == [45]) || ((t.toList == [116, 121, 112, 101, 111, 102]) || ((t.toList == [100, 101, 108, 101, 116, 101]))))) := by unfold unL; rw [Bool.eq_iff_iff]; simp
  rw [e]
  obtain ⟨q0, f0⟩ : ∃ q, (t.toList == [33]) = q := ⟨_, rfl⟩
  rw [f0]
  obtain ⟨q1, f1⟩ : ∃ q, (t.toList == [45]) = q := ⟨_, rfl⟩
  rw [f1]
  obtain ⟨q2, f2⟩ : ∃ q, (t.toList == [116, 121, 112, 101, 111, 102]) = q := ⟨_, rfl⟩
  rw [f2]
  obtain ⟨q3, f3⟩ : ∃ q, (t.toList == [100, 101, 108, 101, 116, 101]) = q := ⟨_, rfl⟩
  rw [f3]
  clear e hl
  cases q0; cases q1; cases q2; cases q3
  all_goals (
    go_enter Tryz.func47, Tryz.ntmps47
    go_wp2
    go_ret
    exact ⟨rfl, Below.refl _ _⟩)
set_option maxRecDepth 100000 in
set_option maxHeartbeats 4000000 in
theorem isBinary_any (t : ByteArray) (w : World) : Calls Tryz.prog 48 #[.string t] w (PostR w (.bool (binL.contains t.data.toList))) := by
  rw [← tl_data]
  obtain ⟨l, hl⟩ : ∃ l, t.toList = l := ⟨_, rfl⟩
  have e : binL.contains t.toList = ((t.toList == [61, 61, 61]) || ((t.toList == [33, 61, 61]) || ((t.toList == [60]) || ((t.toList == [62]) || ((t.toList == [60, 61]) || ((t.toList == [62, 61]) || ((t.toList == [105, 110]) || ((t.toList == [43]) || ((t.toList == [45]) || ((t.toList == [42]) || ((t.toList == [47]) || ((t.toList == [37]))))))))))))) := by unfold binL; rw [Bool.eq_iff_iff]; simp
  rw [e]
  obtain ⟨q0, f0⟩ : ∃ q, (t.toList == [61, 61, 61]) = q := ⟨_, rfl⟩
  rw [f0]
  obtain ⟨q1, f1⟩ : ∃ q, (t.toList == [33, 61, 61]) = q := ⟨_, rfl⟩
  rw [f1]
  obtain ⟨q2, f2⟩ : ∃ q, (t.toList == [60]) = q := ⟨_, rfl⟩
  rw [f2]
  obtain ⟨q3, f3⟩ : ∃ q, (t.toList == [62]) = q := ⟨_, rfl⟩
  rw [f3]
  obtain ⟨q4, f4⟩ : ∃ q, (t.toList == [60, 61]) = q := ⟨_, rfl⟩
  rw [f4]
  obtain ⟨q5, f5⟩ : ∃ q, (t.toList == [62, 61]) = q := ⟨_, rfl⟩
  rw [f5]
  obtain ⟨q6, f6⟩ : ∃ q, (t.toList == [105, 110]) = q := ⟨_, rfl⟩
  rw [f6]
  obtain ⟨q7, f7⟩ : ∃ q, (t.toList == [43]) = q := ⟨_, rfl⟩
  rw [f7]
  obtain ⟨q8, f8⟩ : ∃ q, (t.toList == [45]) = q := ⟨_, rfl⟩
  rw [f8]
  obtain ⟨q9, f9⟩ : ∃ q, (t.toList == [42]) = q := ⟨_, rfl⟩
  rw [f9]
  obtain ⟨q10, f10⟩ : ∃ q, (t.toList == [47]) = q := ⟨_, rfl⟩
  rw [f10]
  obtain ⟨q11, f11⟩ : ∃ q, (t.toList == [37]) = q := ⟨_, rfl⟩
  rw [f11]
  clear e hl
  cases q0; cases q1; cases q2; cases q3; cases q4; cases q5; cases q6; cases q7; cases q8; cases q9; cases q10; cases q11
  all_goals (
    go_enter Tryz.func48, Tryz.ntmps48
    go_wp2
    go_ret
    exact ⟨rfl, Below.refl _ _⟩)
end Go.Proofs.YtinoaajohkafmaaGreat.Pr

/-
  The printer's spots: names, else.
-/
namespace Go.Proofs.YtinoaajohkafmaaGreat.Pr
open Go Go.RowKit Go.Proofs.YtinoaajohkafmaaGreat.Pa Go.Proofs.YtinoaajohkafmaaGreat.Uni
open Go.Proofs.YtinoaajohkafmaaGreat.Lx
set_option linter.unusedVariables false
set_option linter.unusedSimpArgs false
attribute [local go_sem ↓] ldK stK alK bdK bsK ldN stN alN bdN bsN ldS stS alS bdS
attribute [local irreducible] kcs ncs ncells scs
attribute [local go_sem] run_alN run_stNg run_ldNg run_bdN0
theorem rd_kidsP {w : World} {t : Tree} {x : Nd} (h : Rd w t x) : x.kids.n = t.kids.length := by
  cases t
  unfold Rd at h
  obtain ⟨-, -, -, -, xs, h5, h6⟩ := h
  rw [h5.1, Rds.len h6]
  rfl
structure TAt (w : World) (b o : Nat) (t : Tree) (N : Nd) : Prop where
  k : KidAt w b o N
  r : Rd w t N
theorem TAt.below {w w' : World} {b o : Nat} {t : Tree} {N : Nd} (h : TAt w b o t N) (hb : Below w.heap.size w w') : TAt w' b o t N := ⟨⟨kept_lt (kept_below hb) h.k.lt, h.k.at_.kept (kept_below hb) h.k.lt⟩, h.r.below hb⟩
theorem TAt.kids {w : World} {b o : Nat} {k n : Int} {tx : ByteArray} {ns : List ByteArray} {ks : List Tree} {N : Nd} (h : TAt w b o (.mk k n tx ns ks) N) : N.kids.n = ks.length := rd_kidsP h.r
theorem TAt.kid {w : World} {b o : Nat} {k n : Int} {tx : ByteArray} {ns : List ByteArray} {ks : List Tree} {N : Nd} (h : TAt w b o (.mk k n tx ns ks) N) {i : Nat} {t : Tree} (hi : ks[i]? = some t) : ∃ b2 o2 x, N.kids.a = some ⟨b2, o2, none⟩ ∧ N.kids.n = ks.length ∧ ks.length ≤ N.kids.c ∧ N.kids.c ≤ maxLen ∧ TAt w b2 (o2 + i * 5) t x := by
  have hr := h.r
  unfold Rd at hr
  obtain ⟨h1, h2, h3, h4, xs, h5, h6⟩ := hr
  obtain ⟨x, hx, rx⟩ := h6.at hi
  obtain ⟨b2, o2, q1, q2, q3⟩ := h5.2.2.2 i x hx
  refine ⟨b2, o2, x, q1, by rw [h5.1, Rds.len h6], by rw [← Rds.len h6]; exact h5.2.1, h5.2.2.1, ⟨⟨q2, q3⟩, rx⟩⟩
theorem open_b (k n : Int) (tx : ByteArray) (ns : List ByteArray) (ks : List Tree) : openT (.mk k n tx ns ks) = if k = 34 ∧ ks.length = 3 then (match ks[2]? with | some z => openT z | none => false) else if k = 35 ∧ ks.length = 2 then (match ks[1]? with | some z => openT z | none => false) else decide (k = 34) := by
  rcases ks with _ | ⟨a, _ | ⟨b, _ | ⟨c, _ | ⟨d, ks⟩⟩⟩⟩
  · simp [openT]
  · simp [openT]
  · by_cases h : k = 34 <;> by_cases h2 : k = 35 <;> simp [openT, h, h2]
  · by_cases h : k = 34 <;> by_cases h2 : k = 35 <;> simp [openT, h, h2]
  · simp [openT]
theorem sz_kid {k n : Int} {tx : ByteArray} {ns : List ByteArray} {ks : List Tree} {i : Nat} {t : Tree} (h : ks[i]? = some t) : t.sz < (Tree.mk k n tx ns ks).sz := by
  have := szs_at h
  show t.sz < 1 + szs ks
  omega
set_option maxRecDepth 100000 in
set_option maxHeartbeats 4000000 in
theorem lacks_any {w : World} {b o : Nat} {t : Tree} {N : Nd} (h : TAt w b o t N) : Calls Tryz.prog 49 #[.pointer (some ⟨b, o, none⟩)] w (PostR w (.bool (openT t))) := by
  obtain ⟨R, hR⟩ : ∃ R, openT t = R := ⟨_, rfl⟩
  rw [hR]
  have H0 : Hid (∃ b' o' t' N', (Value.pointer (some ⟨b, o, none⟩)) = .pointer (some ⟨b', o', none⟩) ∧ t.sz = t'.sz ∧ TAt w b' o' t' N' ∧ openT t' = R) := Lib.hid ⟨b, o, t, N, rfl, rfl, h, hR⟩
  obtain ⟨S0, hS0⟩ : ∃ S0, t.sz = S0 := ⟨_, rfl⟩
  rw [hS0] at H0
  clear h hR hS0
  go_enter Tryz.func49, Tryz.ntmps49
  go_wp2
  go_loopg [0] S0 (fun g v wr => wr = w ∧ ∃ b' o' t' N', v = .pointer (some ⟨b', o', none⟩) ∧ g = t'.sz ∧ TAt w b' o' t' N' ∧ openT t' = R)
  case atStart => exact ⟨rfl, H0.out⟩
  case round =>
    obtain ⟨rfl, b', o', t', N', rfl, hg, hT, hR⟩ := hrel
    obtain ⟨k, n, tx, ns, ks⟩ := t'
    have n0 := hT.k.kind (Below.refl _ _)
    have n4 := hT.k.kids (Below.refl _ _)
    have e1 : N'.kind = k := rd_kind hT.r
    have e5 := hT.kids
    rw [e1] at n0
    obtain ⟨m, hm⟩ : ∃ m, N'.kids.n = m := ⟨_, rfl⟩
    rw [hm] at n4 e5
    rw [open_b] at hR
    have HT := Lib.hid hT
    have HG := Lib.hid hg
    by_cases h34 : k = 34
    · subst h34
      by_cases hl : ks.length = 3
      · rw [if_pos ⟨rfl, hl⟩] at hR
        obtain ⟨z, hz⟩ : ∃ z, ks[2]? = some z := ⟨_, List.getElem?_eq_getElem (by omega)⟩
        rw [hz] at hR
        obtain ⟨b2, o2, x, q1, q2, q3, q4, q5⟩ := hT.kid hz
        rw [q1] at n4
        rw [hl] at e5
        subst e5
        have hc : 3 ≤ N'.kids.c := by omega
        obtain ⟨c, hcc⟩ : ∃ c, N'.kids.c = c := ⟨_, rfl⟩
        rw [hcc] at n4 hc
        have HR : Hid (openT z = R) := Lib.hid hR
        have HQ := Lib.hid q5
        have HS := Lib.hid (sz_kid (k := 34) (n := n) (tx := tx) (ns := ns) hz)
        clear hT hg hm e1 hz q1 q2 q3 q4 q5 hR hl hcc
        go_wp2
        go_roundg z.sz
        case measure => have := HG.out; have := HS.out; omega
        case rel => exact ⟨rfl, b2, _, z, x, rfl, rfl, HQ.out, HR.out⟩
      · rw [if_neg (fun h => hl h.2), if_neg (by intro h; exact absurd h.1 (by decide))] at hR
        have f3 : ((m : Int) == 3) = false := by simp; omega
        have HR := Lib.hid hR
        clear hT hg hm e1 e5 hl hR
        go_wp2
        go_ret
        exact ⟨by rw [← HR.out]; rfl, Below.refl _ _⟩
    · have f34 : (k == 34) = false := by simpa using h34
      rw [if_neg (fun h => h34 h.1)] at hR
      by_cases h35 : k = 35
      · subst h35
        by_cases hl : ks.length = 2
        · rw [if_pos ⟨rfl, hl⟩] at hR
          obtain ⟨z, hz⟩ : ∃ z, ks[1]? = some z := ⟨_, List.getElem?_eq_getElem (by omega)⟩
          rw [hz] at hR
          obtain ⟨b2, o2, x, q1, q2, q3, q4, q5⟩ := hT.kid hz
          rw [q1] at n4
          rw [hl] at e5
          subst e5
          have hc : 2 ≤ N'.kids.c := by omega
          obtain ⟨c, hcc⟩ : ∃ c, N'.kids.c = c := ⟨_, rfl⟩
          rw [hcc] at n4 hc
          have HR : Hid (openT z = R) := Lib.hid hR
          have HQ := Lib.hid q5
          have HS := Lib.hid (sz_kid (k := 35) (n := n) (tx := tx) (ns := ns) hz)
          clear hT hg hm e1 hz q1 q2 q3 q4 q5 hR hl hcc h34 f34
          go_wp2
          go_roundg z.sz
          case measure => have := HG.out; have := HS.out; omega
          case rel => exact ⟨rfl, b2, _, z, x, rfl, rfl, HQ.out, HR.out⟩
        · rw [if_neg (fun h => hl h.2)] at hR
          have f3 : ((m : Int) == 2) = false := by simp; omega
          have HR := Lib.hid hR
          clear hT hg hm e1 e5 hl hR h34 f34
          go_wp2
          go_ret
          exact ⟨by rw [← HR.out]; rfl, Below.refl _ _⟩
      · rw [if_neg (fun h => h35 h.1), decide_eq_false h34] at hR
        have f35 : (k == 35) = false := by simpa using h35
        have HR := Lib.hid hR
        clear hT hg hm e1 e5 hR h34 h35
        go_wp2
        go_ret
        exact ⟨by rw [← HR.out]; rfl, Below.refl _ _⟩
set_option maxRecDepth 100000 in
set_option maxHeartbeats 4000000 in
theorem else_any {w : World} {b o : Nat} {p : Int} {N : Nd} {k n : Int} {tx : ByteArray} {ns : List ByteArray} {ks : List Tree} (h : TAt w b o (.mk k n tx ns ks) N) : Calls Tryz.prog 25 #[.agg (scs b o p)] w (PostR w (.bool (elseB k ks))) := by
  have hk := h.k
  have hkk : N.kind = k := rd_kind h.r
  obtain ⟨bN, s0, s1, n0, n1, n2, n3, n4, HB⟩ := sp_start p hk
  have HBN := Lib.hid bN
  have HK := Lib.hid hk
  rw [hkk] at n0
  have e5 := h.kids
  obtain ⟨m, hm⟩ : ∃ m, N.kids.n = m := ⟨_, rfl⟩
  rw [hm] at n4 e5
  unfold elseB
  by_cases h34 : k = 34
  · subst h34
    rw [if_pos rfl]
    by_cases hl : ks.length = 3
    · obtain ⟨y, hy⟩ : ∃ y, ks[1]? = some y := ⟨_, List.getElem?_eq_getElem (by omega)⟩
      have hel : elseL ks = !openT y := by
        rcases ks with _ | ⟨a, _ | ⟨b, _ | ⟨c, _ | ⟨d, ks⟩⟩⟩⟩
        · simp at hl
        · simp at hl
        · simp at hl
        · simp at hy; subst hy; rfl
        · simp at hl
      rw [hel]
      obtain ⟨b2, o2, x, q1, q2, q3, q4, q5⟩ := h.kid hy
      rw [q1] at n4
      rw [hl] at e5
      subst e5
      have hc : 3 ≤ N.kids.c := by omega
      obtain ⟨c, hcc⟩ : ∃ c, N.kids.c = c := ⟨_, rfl⟩
      rw [hcc] at n4 hc
      have cl := lacks_any (q5.below HB.out)
      obtain ⟨q, hq⟩ : ∃ q, openT y = q := ⟨_, rfl⟩
      rw [hq] at cl ⊢
      clear h hk hkk bN hm hl hy hel q1 q2 q3 q4 q5 hcc hq
      cases q <;> (
        go_enter Tryz.func25, Tryz.ntmps25
        go_wp2_with (go_at_call 49; (with_reducible refine cl.mono ?_); intro e w2 hp; obtain ⟨rfl, hb⟩ := hp; have HB := Lib.hid (HB.out.trans (hb.mono HB.out.size)); clear hb)
        go_ret
        exact ⟨rfl, HB.out⟩)
    · have hel : elseL ks = true := by
        rcases ks with _ | ⟨a, _ | ⟨b, _ | ⟨c, _ | ⟨d, ks⟩⟩⟩⟩
        · rfl
        · rfl
        · rfl
        · simp at hl
        · rfl
      rw [hel]
      have f3 : ((m : Int) != 3) = true := by simp; omega
      clear h hk hkk bN hm hl hel e5
      go_enter Tryz.func25, Tryz.ntmps25
      go_wp2
      go_ret
      exact ⟨rfl, HB.out⟩
  · rw [if_neg h34]
    have f34 : (k != 34) = true := by simpa using h34
    clear h hk hkk bN hm h34 e5
    go_enter Tryz.func25, Tryz.ntmps25
    go_wp2
    go_ret
    exact ⟨rfl, HB.out⟩
theorem all_stepP {ns : List ByteArray} {i : Nat} {t : ByteArray} (h : ns[i]? = some t) : (ns.drop i).all varB = (varB t && (ns.drop (i + 1)).all varB) := by
  obtain ⟨hl, rfl⟩ := List.getElem?_eq_some_iff.1 h
  rw [List.drop_eq_getElem_cons hl]
  rfl
set_option maxRecDepth 100000 in
set_option maxHeartbeats 4000000 in
theorem names_none {w : World} {b o : Nat} {p : Int} {N : Nd} {k n : Int} {tx : ByteArray} {ns : List ByteArray} {ks : List Tree} (h : TAt w b o (.mk k n tx ns ks) N) (hc : k ≠ 14 ∨ p = 71) : Calls Tryz.prog 23 #[.agg (scs b o p)] w (PostR w (.bool ns.isEmpty)) := by
  have hk := h.k
  have hkk : N.kind = k := rd_kind h.r
  obtain ⟨bN, s0, s1, n0, n1, n2, n3, n4, HB⟩ := sp_start p hk
  have HBN := Lib.hid bN
  have HK := Lib.hid hk
  rw [hkk] at n0
  have e4 : N.names.n = ns.length := rd_names h.r
  obtain ⟨m, hm⟩ : ∃ m, N.names.n = m := ⟨_, rfl⟩
  rw [hm] at n3 e4
  obtain ⟨q, hq⟩ : ∃ q, ns.isEmpty = q := ⟨_, rfl⟩
  have fq : ((m : Int) == 0) = q := by rw [← hq, e4]; cases ns with | nil => rfl | cons a l => simp; omega
  rw [hq]
  by_cases h14 : k = 14
  · have hp : p = 71 := by rcases hc with hc | hc; exact absurd h14 hc; exact hc
    subst h14 hp
    clear h hk hkk bN hm hc hq e4
    go_enter Tryz.func23, Tryz.ntmps23
    go_wp2
    go_ret
    exact ⟨rfl, HB.out⟩
  · have f14 : (k != 14) = true := by simpa using h14
    clear h hk hkk bN hm hc hq e4 h14
    go_enter Tryz.func23, Tryz.ntmps23
    go_wp2
    go_ret
    exact ⟨rfl, HB.out⟩
set_option maxRecDepth 100000 in
set_option maxHeartbeats 4000000 in
theorem names_set {w : World} {b o : Nat} {N : Nd} {n : Int} {tx : ByteArray} {ns : List ByteArray} {ks : List Tree} (h : TAt w b o (.mk 14 n tx ns ks) N) (hc : ns.length ≠ 1) : Calls Tryz.prog 23 #[.agg (scs b o 72)] w (PostR w (.bool false)) := by
  have hk := h.k
  have hkk : N.kind = 14 := rd_kind h.r
  obtain ⟨bN, s0, s1, n0, n1, n2, n3, n4, HB⟩ := sp_start 72 hk
  have HBN := Lib.hid bN
  have HK := Lib.hid hk
  rw [hkk] at n0
  have e4 : N.names.n = ns.length := rd_names h.r
  obtain ⟨m, hm⟩ : ∃ m, N.names.n = m := ⟨_, rfl⟩
  rw [hm] at n3 e4
  have fq : ((m : Int) != 1) = true := by simp; omega
  clear h hk hkk bN hm hc e4
  go_enter Tryz.func23, Tryz.ntmps23
  go_wp2
  go_ret
  exact ⟨rfl, HB.out⟩
set_option maxRecDepth 100000 in
set_option maxHeartbeats 4000000 in
theorem names_all {w : World} {b o : Nat} {p : Int} {N : Nd} {n : Int} {tx : ByteArray} {ns : List ByteArray} {ks : List Tree} (h : TAt w b o (.mk 14 n tx ns ks) N) (hs : ∀ x ∈ ns, x.size ≤ 1048576) (hp : p ≠ 71 ∧ p ≠ 72) : Calls Tryz.prog 23 #[.agg (scs b o p)] w (PostR w (.bool (ns.all varB))) := by
  have hk := h.k
  have hkk : N.kind = 14 := rd_kind h.r
  obtain ⟨bN, s0, s1, n0, n1, n2, n3, n4, HB⟩ := sp_start p hk
  have HBN := Lib.hid bN
  have HK := Lib.hid hk
  rw [hkk] at n0
  have e4 : N.names.n = ns.length := rd_names h.r
  have hr := h.r
  unfold Rd at hr
  obtain ⟨-, -, -, hl, -⟩ := hr
  have hmx : ns.length ≤ 9223372036854775807 := by have h1 := hl.2.1; have h2 := hl.2.2.1; unfold maxLen at h2; omega
  obtain ⟨m, hm⟩ : ∃ m, ns.length = m := ⟨_, rfl⟩
  rw [hm] at hmx e4
  have hmi : (m : Int) ≤ 9223372036854775807 := by omega
  obtain ⟨a3, c3, hk3⟩ : ∃ a c, N.names = ⟨a, m, c⟩ := ⟨_, _, by rw [← e4]⟩
  rw [hk3] at n3
  simp only at n3
  obtain ⟨R, hR⟩ : ∃ R, ns.all varB = R := ⟨_, rfl⟩
  have hR0 : R = (ns.drop 0).all varB := hR.symm
  rw [hR]
  have fp1 : (p == 71) = false := by simp; omega
  have fp2 : (p == 72) = false := by simp; omega
  have HR0 := Lib.hid hR0
  have HL := Lib.hid hl
  have HS := Lib.hid hs
  have HM := Lib.hid hm
  have HK3 := Lib.hid hk3
  clear h hk hkk bN hl hs hm hk3 hR hR0 hmx e4 hp
  go_enter Tryz.func23, Tryz.ntmps23
  go_wp2
  go_loopw [37] (fun u wr => ∃ (i : Nat), u = .int .i64 (i : Int) ∧ i ≤ m ∧ Below w.heap.size w wr ∧ Hid (R = (ns.drop i).all varB)) (fun u _ => m - (intOf u).toNat)
  case atStart => exact ⟨0, rfl, Nat.zero_le _, HB.out, HR0⟩
  case round =>
    obtain ⟨i, rfl, hle, hI, hE⟩ := hrel
    by_cases hlt : i < m
    · have hii : (i : Int) < (m : Int) := by omega
      obtain ⟨t, ht⟩ : ∃ t, ns[i]? = some t := ⟨_, List.getElem?_eq_getElem (by have := HM.out; omega)⟩
      obtain ⟨bb, oo, hq, hlt2, hnd⟩ := HL.out.2.2.2 i t ht
      rw [HK3.out] at hq
      simp only at hq
      subst hq
      have l1 := kept_cell (kept_below hI) hlt2 hnd
      have cc := fun W => isVar_any t W (HS.out t (List.mem_of_getElem? ht))
      have he := hE.out
      rw [all_stepP ht] at he
      have HI := Lib.hid hI
      obtain ⟨r, hr⟩ : ∃ r, varB t = r := ⟨_, rfl⟩
      rw [hr] at cc he
      clear ht hnd hr hlt2 hE
      cases r with
      | true =>
        rw [Bool.true_and] at he
        have HE := Lib.hid he
        clear hI he
        go_wp2_with (go_at_call 43; (with_reducible refine (cc _).mono ?_); intro e w2 hp; obtain ⟨rfl, hb⟩ := hp; have HI2 := Lib.hid (HI.out.trans (hb.mono HI.out.size)); clear hb)
        go_roundw
        case rel => exact ⟨i + 1, by go_num, by omega, HI2.out, HE⟩
        case measure => simp [intOf]; omega
      | false =>
        rw [Bool.false_and] at he
        have HE := Lib.hid he
        clear hI he
        go_wp2_with (go_at_call 43; (with_reducible refine (cc _).mono ?_); intro e w2 hp; obtain ⟨rfl, hb⟩ := hp; have HI2 := Lib.hid (HI.out.trans (hb.mono HI.out.size)); clear hb)
        go_ret
        exact ⟨by rw [HE.out]; rfl, HI2.out⟩
    · have he := hE.out
      rw [List.drop_eq_nil_of_le (by have := HM.out; omega)] at he
      have HE : Hid (R = true) := Lib.hid he
      have HI := Lib.hid hI
      clear hI he hE
      go_wp2
      go_ret
      exact ⟨by rw [HE.out]; rfl, HI.out⟩
set_option maxRecDepth 100000 in
set_option maxHeartbeats 4000000 in
theorem names_one {w : World} {b o : Nat} {N : Nd} {n : Int} {tx : ByteArray} {ns : List ByteArray} {ks : List Tree} (h : TAt w b o (.mk 14 n tx ns ks) N) (hs : ∀ x ∈ ns, x.size ≤ 1048576) (hp : ns.length = 1) : Calls Tryz.prog 23 #[.agg (scs b o 72)] w (PostR w (.bool (ns.all varB))) := by
  have hk := h.k
  have hkk : N.kind = 14 := rd_kind h.r
  obtain ⟨bN, s0, s1, n0, n1, n2, n3, n4, HB⟩ := sp_start 72 hk
  have HBN := Lib.hid bN
  have HK := Lib.hid hk
  rw [hkk] at n0
  have e4 : N.names.n = ns.length := rd_names h.r
  have hr := h.r
  unfold Rd at hr
  obtain ⟨-, -, -, hl, -⟩ := hr
  have hmx : ns.length ≤ 9223372036854775807 := by have h1 := hl.2.1; have h2 := hl.2.2.1; unfold maxLen at h2; omega
  obtain ⟨m, hm⟩ : ∃ m, ns.length = m := ⟨_, rfl⟩
  rw [hm] at hmx e4
  have hmi : (m : Int) ≤ 9223372036854775807 := by omega
  obtain ⟨a3, c3, hk3⟩ : ∃ a c, N.names = ⟨a, m, c⟩ := ⟨_, _, by rw [← e4]⟩
  rw [hk3] at n3
  simp only at n3
  obtain ⟨R, hR⟩ : ∃ R, ns.all varB = R := ⟨_, rfl⟩
  have hR0 : R = (ns.drop 0).all varB := hR.symm
  rw [hR]
  have fm : ((m : Int) != 1) = false := by rw [← hm, hp]; rfl
  have HR0 := Lib.hid hR0
  have HL := Lib.hid hl
  have HS := Lib.hid hs
  have HM := Lib.hid hm
  have HK3 := Lib.hid hk3
  clear h hk hkk bN hl hs hm hk3 hR hR0 hmx e4 hp
  go_enter Tryz.func23, Tryz.ntmps23
  go_wp2
  go_loopw [37] (fun u wr => ∃ (i : Nat), u = .int .i64 (i : Int) ∧ i ≤ m ∧ Below w.heap.size w wr ∧ Hid (R = (ns.drop i).all varB)) (fun u _ => m - (intOf u).toNat)
  case atStart => exact ⟨0, rfl, Nat.zero_le _, HB.out, HR0⟩
  case round =>
    obtain ⟨i, rfl, hle, hI, hE⟩ := hrel
    by_cases hlt : i < m
    · have hii : (i : Int) < (m : Int) := by omega
      obtain ⟨t, ht⟩ : ∃ t, ns[i]? = some t := ⟨_, List.getElem?_eq_getElem (by have := HM.out; omega)⟩
      obtain ⟨bb, oo, hq, hlt2, hnd⟩ := HL.out.2.2.2 i t ht
      rw [HK3.out] at hq
      simp only at hq
      subst hq
      have l1 := kept_cell (kept_below hI) hlt2 hnd
      have cc := fun W => isVar_any t W (HS.out t (List.mem_of_getElem? ht))
      have he := hE.out
      rw [all_stepP ht] at he
      have HI := Lib.hid hI
      obtain ⟨r, hr⟩ : ∃ r, varB t = r := ⟨_, rfl⟩
      rw [hr] at cc he
      clear ht hnd hr hlt2 hE
      cases r with
      | true =>
        rw [Bool.true_and] at he
        have HE := Lib.hid he
        clear hI he
        go_wp2_with (go_at_call 43; (with_reducible refine (cc _).mono ?_); intro e w2 hp; obtain ⟨rfl, hb⟩ := hp; have HI2 := Lib.hid (HI.out.trans (hb.mono HI.out.size)); clear hb)
        go_roundw
        case rel => exact ⟨i + 1, by go_num, by omega, HI2.out, HE⟩
        case measure => simp [intOf]; omega
      | false =>
        rw [Bool.false_and] at he
        have HE := Lib.hid he
        clear hI he
        go_wp2_with (go_at_call 43; (with_reducible refine (cc _).mono ?_); intro e w2 hp; obtain ⟨rfl, hb⟩ := hp; have HI2 := Lib.hid (HI.out.trans (hb.mono HI.out.size)); clear hb)
        go_ret
        exact ⟨by rw [HE.out]; rfl, HI2.out⟩
    · have he := hE.out
      rw [List.drop_eq_nil_of_le (by have := HM.out; omega)] at he
      have HE : Hid (R = true) := Lib.hid he
      have HI := Lib.hid hI
      clear hI he hE
      go_wp2
      go_ret
      exact ⟨by rw [HE.out]; rfl, HI.out⟩
end Go.Proofs.YtinoaajohkafmaaGreat.Pr
