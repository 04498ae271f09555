/-
  Texts of this seat in build order: VaRight, PgSpot.
-/
import Derived.Test.YtinoaajohkafmaaGreatMt10
import Derived.Test.YtinoaajohkafmaaGreatMt02
import Derived.Test.YtinoaajohkafmaaGreatMt09
/-
  values.Right and the reference's RightValue: what they give.
-/
namespace Go.Proofs.YtinoaajohkafmaaGreat.Vals
open Go.RowKit Go.Proofs.YtinoaajohkafmaaGreat.Nums Go.Proofs.YtinoaajohkafmaaGreat.Uni
set_option linter.unusedVariables false
def rtF (s : ByteArray) : Bool := (pts s).isSome && decide ((units s).length ≤ 10000)
def rnF (k n : Int) : Bool := if k = 0 ∨ k = 1 then n == 0 else if k = 2 then (n == 0 || n == 1) else if k = 3 then sf n else if k = 5 then decide (1 ≤ n) else if k = 6 then decide (0 ≤ n) else false
def rightF (k n : Int) (s : ByteArray) : Bool := if k = 4 then (n == 0 && rtF s) else (s.toList.isEmpty && rnF k n)
theorem rightTextP (s : ByteArray) (w : World) (hs : s.size ≤ 2000000) :
    Calls Tryz.prog 63 #[.string s] w fun e w' => e = .returned (.bool (rtF s)) ∧ Below w.heap.size w w' := by
  have hr := fun w => right_any s w (by omega)
  have hl := fun w => len_any s w (by omega)
  cases hp : pts s with
  | none =>
    rw [hp] at hr
    have he : rtF s = false := by unfold rtF; rw [hp]; rfl
    have HE := Lib.hid he
    have HR : ∀ w, Calls Tryz.prog 88 #[.string s] w fun e w' => e = .returned (.bool false) ∧ Below w.heap.size w w' := hr
    clear hp he hl hr
    go_enter Tryz.func63, Tryz.ntmps63
    go_wp2_with (go_at_call 88; refine (HR _).mono ?_; rintro e w1 ⟨rfl, hb⟩)
    go_ret
    exact ⟨by rw [HE.out]; rfl, hb⟩
  | some L =>
    rw [hp] at hr
    obtain ⟨m, hm⟩ : ∃ m, (units s).length = m := ⟨_, rfl⟩
    have he : rtF s = decide ((m : Int) ≤ 10000) := by
      unfold rtF; rw [hp, hm]
      have : ((m : Int) ≤ 10000) ↔ m ≤ 10000 := by omega
      simp [this]
    have HE := Lib.hid he
    rw [hm] at hl
    have HR : ∀ w, Calls Tryz.prog 88 #[.string s] w fun e w' => e = .returned (.bool true) ∧ Below w.heap.size w w' := hr
    clear hp he hr hm
    go_enter Tryz.func63, Tryz.ntmps63
    go_wp2_with (first | (go_at_call 88; refine (HR _).mono ?_; rintro e w1 ⟨rfl, hb⟩) | (go_at_call 89; refine (hl _).mono ?_; rintro e w2 ⟨rfl, hb2⟩))
    go_ret
    exact ⟨by rw [HE.out]; rfl, bnext hb hb2⟩
theorem rn_0 (n : Int) (w : World) : Calls Tryz.prog 64 #[.int .i64 0, .int .i64 n] w fun e w' => e = .returned (.bool (n == 0)) ∧ w = w' := by
  go_enter Tryz.func64, Tryz.ntmps64
  go_wp2
  go_ret
  exact ⟨rfl, rfl⟩
theorem rn_1 (n : Int) (w : World) : Calls Tryz.prog 64 #[.int .i64 1, .int .i64 n] w fun e w' => e = .returned (.bool (n == 0)) ∧ w = w' := by
  go_enter Tryz.func64, Tryz.ntmps64
  go_wp2
  go_ret
  exact ⟨rfl, rfl⟩
theorem rn_2a (n : Int) (w : World) (h : (n == 0) = true) : Calls Tryz.prog 64 #[.int .i64 2, .int .i64 n] w fun e w' => e = .returned (.bool true) ∧ w = w' := by
  go_enter Tryz.func64, Tryz.ntmps64
  go_wp2
  go_ret
  exact ⟨rfl, rfl⟩
theorem rn_2b (n : Int) (w : World) (h : (n == 0) = false) : Calls Tryz.prog 64 #[.int .i64 2, .int .i64 n] w fun e w' => e = .returned (.bool (n == 1)) ∧ w = w' := by
  go_enter Tryz.func64, Tryz.ntmps64
  go_wp2
  go_ret
  exact ⟨rfl, rfl⟩
theorem rn_3 (n : Int) (w : World) : Calls Tryz.prog 64 #[.int .i64 3, .int .i64 n] w fun e w' => e = .returned (.bool (sf n)) ∧ w = w' := by
  go_enter Tryz.func64, Tryz.ntmps64
  go_wp2_with (go_at_call 90; refine (safe_any _ _).mono ?_; rintro e w' ⟨rfl, rfl⟩)
  go_ret
  exact ⟨rfl, rfl⟩
theorem rn_4 (n : Int) (w : World) : Calls Tryz.prog 64 #[.int .i64 4, .int .i64 n] w fun e w' => e = .returned (.bool false) ∧ w = w' := by
  go_enter Tryz.func64, Tryz.ntmps64
  go_wp2
  go_ret
  exact ⟨rfl, rfl⟩
theorem rn_5 (n : Int) (w : World) : Calls Tryz.prog 64 #[.int .i64 5, .int .i64 n] w fun e w' => e = .returned (.bool (decide (1 ≤ n))) ∧ w = w' := by
  go_enter Tryz.func64, Tryz.ntmps64
  go_wp2
  go_ret
  exact ⟨rfl, rfl⟩
theorem rn_6 (n : Int) (w : World) : Calls Tryz.prog 64 #[.int .i64 6, .int .i64 n] w fun e w' => e = .returned (.bool (decide (0 ≤ n))) ∧ w = w' := by
  go_enter Tryz.func64, Tryz.ntmps64
  go_wp2
  go_ret
  exact ⟨rfl, rfl⟩
theorem rn_k (k n : Int) (w : World) (hk : NoKind k) : Calls Tryz.prog 64 #[.int .i64 k, .int .i64 n] w fun e w' => e = .returned (.bool false) ∧ w = w' := by
  obtain ⟨e0, e1, e2, e3, e4, e5, e6⟩ := hk
  go_enter Tryz.func64, Tryz.ntmps64
  go_wp2
  go_ret
  exact ⟨rfl, rfl⟩
theorem rightNum_any (k n : Int) (w : World) : Calls Tryz.prog 64 #[.int .i64 k, .int .i64 n] w fun e w' => e = .returned (.bool (rnF k n)) ∧ w = w' := by
  rcases kind_cases k with rfl | rfl | rfl | rfl | rfl | rfl | rfl | hk
  · exact rn_0 n w
  · exact rn_1 n w
  · cases h : (n == 0) with
    | true => have e : rnF 2 n = true := by simp [rnF, h]
              rw [e]; exact rn_2a n w h
    | false => have e : rnF 2 n = (n == 1) := by simp [rnF, h]
               rw [e]; exact rn_2b n w h
  · exact rn_3 n w
  · exact rn_4 n w
  · exact rn_5 n w
  · exact rn_6 n w
  · have h := hk.ne
    have e : rnF k n = false := by simp [rnF, h]
    rw [e]; exact rn_k k n w hk
theorem right_4a (n : Int) (s : ByteArray) (w : World) (h : (n == 0) = true) (hs : s.size ≤ 2000000) : Calls Tryz.prog 41 #[V 4 n s] w fun e w' => e = .returned (.bool (rtF s)) ∧ Below w.heap.size w w' := by
  have hc := fun w => rightTextP s w hs
  go_enter Tryz.func41, Tryz.ntmps41
  go_wp2_with (go_at_call 63; refine (hc _).mono ?_; rintro e w1 ⟨rfl, hb⟩)
  go_ret
  exact ⟨rfl, bnext (ball _ _) hb⟩
theorem right_4b (n : Int) (s : ByteArray) (w : World) (h : (n == 0) = false) : Calls Tryz.prog 41 #[V 4 n s] w fun e w' => e = .returned (.bool false) ∧ Below w.heap.size w w' := by
  go_enter Tryz.func41, Tryz.ntmps41
  go_wp2
  go_ret
  exact ⟨rfl, ball _ _⟩
theorem right_oa (k n : Int) (s : ByteArray) (w : World) (hk : (k == 4) = false) (h : s.toList.isEmpty = true) : Calls Tryz.prog 41 #[V k n s] w fun e w' => e = .returned (.bool (rnF k n)) ∧ Below w.heap.size w w' := by
  have hc := fun w => rightNum_any k n w
  go_enter Tryz.func41, Tryz.ntmps41
  go_wp2_with (go_at_call 64; refine (hc _).mono ?_; rintro e w1 ⟨rfl, rfl⟩)
  go_ret
  exact ⟨rfl, ball _ _⟩
theorem right_ob (k n : Int) (s : ByteArray) (w : World) (hk : (k == 4) = false) (h : s.toList.isEmpty = false) : Calls Tryz.prog 41 #[V k n s] w fun e w' => e = .returned (.bool false) ∧ Below w.heap.size w w' := by
  go_enter Tryz.func41, Tryz.ntmps41
  go_wp2
  go_ret
  exact ⟨rfl, ball _ _⟩
theorem Right_any (k n : Int) (s : ByteArray) (w : World) (hs : s.size ≤ 2000000) : Calls Tryz.prog 41 #[V k n s] w fun e w' => e = .returned (.bool (rightF k n s)) ∧ Below w.heap.size w w' := by
  by_cases hk : k = 4
  · subst hk
    cases h : (n == 0) with
    | true => have e : rightF 4 n s = rtF s := by simp [rightF, h]
              rw [e]; exact right_4a n s w h hs
    | false => have e : rightF 4 n s = false := by simp [rightF, h]
               rw [e]; exact right_4b n s w h
  · have hk2 : (k == 4) = false := by simpa using hk
    cases h : s.toList.isEmpty with
    | true => have e : rightF k n s = rnF k n := by simp [rightF, hk, h]
              rw [e]; exact right_oa k n s w hk2 h
    | false => have e : rightF k n s = false := by simp [rightF, hk, h]
               rw [e]; exact right_ob k n s w hk2 h
end Go.Proofs.YtinoaajohkafmaaGreat.Vals

/-
  The printer's spots: kinds.
-/
namespace Go.Proofs.YtinoaajohkafmaaGreat.Pr
open Go Go.RowKit Go.Proofs.YtinoaajohkafmaaGreat.Pa Go.Proofs.YtinoaajohkafmaaGreat.Uni
open Go.Proofs.YtinoaajohkafmaaGreat.Lx
set_option linter.unusedVariables false
set_option linter.unusedSimpArgs false
def scs (b o : Nat) (p : Int) : Array Value := #[.pointer (some ⟨b, o, none⟩), .int .i32 p]
theorem scs_0 (b o : Nat) (p : Int) : (scs b o p)[0]? = some (.pointer (some ⟨b, o, none⟩)) := rfl
theorem scs_1 (b o : Nat) (p : Int) : (scs b o p)[1]? = some (.int .i32 p) := rfl
theorem scs_size (b o : Nat) (p : Int) : (scs b o p).size = 2 := rfl
theorem scs_one (b o : Nat) (p : Int) : (scs b o p).all (·.oneCell') = true := by simp [scs, Value.oneCell']
theorem ldS (v : Value) : Instr.loadAt 58 v = Ld 58 v := (rfl)
theorem stS (p v : Value) : Instr.storeAt 58 p v = Lx.St 58 p v := (rfl)
theorem alS : Instr.alloc 58 true (.tuple #[]) = Al 58 := (rfl)
theorem bdS (ps : Array (Nat × Value)) : Instr.build 58 ps = Bd 58 ps := (rfl)
theorem sizeS : (Tryz.prog.info? 58).map (·.size) = some 2 := by kernel_rfl
theorem run_ldS {w : World} {g b o : Nat} {p : Int} {T : TypeId} (h : Blk w g (scs b o p) T) : (Ld 58 (.pointer (some ⟨g, 0, none⟩))).run Tryz.prog w = .ok (.agg (scs b o p)) w := by
  have := run_loadAt_mid (P := Tryz.prog) w g 0 58 (scs b o p).toList _ (h.range (r := []) (by simp)) Tryz.underlying58 rfl sizeS
  simpa [Ld] using this
theorem sp_start {w : World} {b o : Nat} {N : Nd} (p : Int) (hk : KidAt w b o N) :
    Blk (w.alloc (.cells (scs b o p) 58)) w.heap.size (scs b o p) 58 ∧
    (w.alloc (.cells (scs b o p) 58)).cell? ⟨w.heap.size, 0, none⟩ = some (.pointer (some ⟨b, o, none⟩)) ∧
    (w.alloc (.cells (scs b o p) 58)).cell? ⟨w.heap.size, 1, none⟩ = some (.int .i32 p) ∧
    (w.alloc (.cells (scs b o p) 58)).cell? ⟨b, o, none⟩ = some (.int .i64 N.kind) ∧
    (w.alloc (.cells (scs b o p) 58)).cell? ⟨b, o + 1, none⟩ = some (.int .i64 N.num) ∧
    (w.alloc (.cells (scs b o p) 58)).cell? ⟨b, o + 2, none⟩ = some (.string N.text) ∧
    (w.alloc (.cells (scs b o p) 58)).cell? ⟨b, o + 3, none⟩ = some (.slice N.names.a N.names.n N.names.c) ∧
    (w.alloc (.cells (scs b o p) 58)).cell? ⟨b, o + 4, none⟩ = some (.slice N.kids.a N.kids.n N.kids.c) ∧
    Hid (Below w.heap.size w (w.alloc (.cells (scs b o p) 58))) := by
  have bN := Blk.new w (scs b o p) 58
  have hb : Below w.heap.size w (w.alloc (.cells (scs b o p) 58)) := bel1
  exact ⟨bN, (bN.cell 0).trans (scs_0 b o p), (bN.cell 1).trans (scs_1 b o p), hk.kind hb, hk.num hb, hk.text hb, hk.names hb, hk.kids hb, Lib.hid hb⟩
attribute [local go_sem ↓] ldK stK alK bdK bsK ldN stN alN bdN bsN ldS stS alS bdS
attribute [local irreducible] kcs ncs ncells scs
attribute [local go_sem] run_alN run_stNg run_ldNg run_bdN0
set_option maxRecDepth 100000 in
theorem isElement_any (k : Int) (w : World) : Calls Tryz.prog 39 #[.int .i64 k] w (PostR w (.bool (k == 11 || (k == 12 || k == 13)))) := by
  obtain ⟨q0, f0⟩ : ∃ q, (k == 11) = q := ⟨_, rfl⟩
  rw [f0]
  obtain ⟨q1, f1⟩ : ∃ q, (k == 12) = q := ⟨_, rfl⟩
  rw [f1]
  obtain ⟨q2, f2⟩ : ∃ q, (k == 13) = q := ⟨_, rfl⟩
  rw [f2]
  cases q0; cases q1; cases q2
  all_goals (
    go_enter Tryz.func39, Tryz.ntmps39
    go_wp2
    go_ret
    exact ⟨rfl, Below.refl _ _⟩)
set_option maxRecDepth 100000 in
theorem isMember_any (k : Int) (w : World) : Calls Tryz.prog 40 #[.int .i64 k] w (PostR w (.bool (k == 15 || k == 16))) := by
  obtain ⟨q0, f0⟩ : ∃ q, (k == 15) = q := ⟨_, rfl⟩
  rw [f0]
  obtain ⟨q1, f1⟩ : ∃ q, (k == 16) = q := ⟨_, rfl⟩
  rw [f1]
  cases q0; cases q1
  all_goals (
    go_enter Tryz.func40, Tryz.ntmps40
    go_wp2
    go_ret
    exact ⟨rfl, Below.refl _ _⟩)
set_option maxRecDepth 100000 in
set_option maxHeartbeats 4000000 in
theorem kind_80 {w : World} {b o : Nat} {N : Nd} {k : Int} (hk : KidAt w b o N) (hkk : N.kind = k) : Calls Tryz.prog 21 #[.agg (scs b o 80)] w (PostR w (.bool (kindB 80 k))) := by
  obtain ⟨bN, s0, s1, n0, n1, n2, n3, n4, HB⟩ := sp_start 80 hk
  rw [hkk] at n0
  have hkb : kindB 80 k = (k == 44) := by unfold kindB; rw [Bool.eq_iff_iff]; simp
  rw [hkb]
  obtain ⟨q0, fq0⟩ : ∃ q, (k == 44) = q := ⟨_, rfl⟩
  rw [fq0]
  clear hk hkk hkb bN
  cases q0
  all_goals (
    go_enter Tryz.func21, Tryz.ntmps21
    go_wp2
    go_ret
    exact ⟨rfl, HB.out⟩)
set_option maxRecDepth 100000 in
set_option maxHeartbeats 4000000 in
theorem kind_83 {w : World} {b o : Nat} {N : Nd} {k : Int} (hk : KidAt w b o N) (hkk : N.kind = k) : Calls Tryz.prog 21 #[.agg (scs b o 83)] w (PostR w (.bool (kindB 83 k))) := by
  obtain ⟨bN, s0, s1, n0, n1, n2, n3, n4, HB⟩ := sp_start 83 hk
  rw [hkk] at n0
  have hkb : kindB 83 k = (decide (30 ≤ k) && (decide (k ≤ 43) && (k != 39))) := by unfold kindB; rw [Bool.eq_iff_iff]; simp
  rw [hkb]
  obtain ⟨q0, fq0⟩ : ∃ q, decide (30 ≤ k) = q := ⟨_, rfl⟩
  rw [fq0]
  obtain ⟨q1, fq1⟩ : ∃ q, decide (k ≤ 43) = q := ⟨_, rfl⟩
  rw [fq1]
  obtain ⟨q2, fq2⟩ : ∃ q, (k != 39) = q := ⟨_, rfl⟩
  rw [fq2]
  clear hk hkk hkb bN
  cases q0; rotate_left; cases q1; rotate_left; cases q2
  all_goals (
    go_enter Tryz.func21, Tryz.ntmps21
    go_wp2
    go_ret
    exact ⟨rfl, HB.out⟩)
set_option maxRecDepth 100000 in
set_option maxHeartbeats 4000000 in
theorem kind_66 {w : World} {b o : Nat} {N : Nd} {k : Int} (hk : KidAt w b o N) (hkk : N.kind = k) : Calls Tryz.prog 21 #[.agg (scs b o 66)] w (PostR w (.bool (kindB 66 k))) := by
  obtain ⟨bN, s0, s1, n0, n1, n2, n3, n4, HB⟩ := sp_start 66 hk
  rw [hkk] at n0
  have hkb : kindB 66 k = (k == 40) := by unfold kindB; rw [Bool.eq_iff_iff]; simp
  rw [hkb]
  obtain ⟨q0, fq0⟩ : ∃ q, (k == 40) = q := ⟨_, rfl⟩
  rw [fq0]
  clear hk hkk hkb bN
  cases q0
  all_goals (
    go_enter Tryz.func21, Tryz.ntmps21
    go_wp2
    go_ret
    exact ⟨rfl, HB.out⟩)
set_option maxRecDepth 100000 in
set_option maxHeartbeats 4000000 in
theorem kind_67 {w : World} {b o : Nat} {N : Nd} {k : Int} (hk : KidAt w b o N) (hkk : N.kind = k) : Calls Tryz.prog 21 #[.agg (scs b o 67)] w (PostR w (.bool (kindB 67 k))) := by
  obtain ⟨bN, s0, s1, n0, n1, n2, n3, n4, HB⟩ := sp_start 67 hk
  rw [hkk] at n0
  have hkb : kindB 67 k = (k == 39) := by unfold kindB; rw [Bool.eq_iff_iff]; simp
  rw [hkb]
  obtain ⟨q0, fq0⟩ : ∃ q, (k == 39) = q := ⟨_, rfl⟩
  rw [fq0]
  clear hk hkk hkb bN
  cases q0
  all_goals (
    go_enter Tryz.func21, Tryz.ntmps21
    go_wp2
    go_ret
    exact ⟨rfl, HB.out⟩)
set_option maxRecDepth 100000 in
set_option maxHeartbeats 4000000 in
theorem kind_65 {w : World} {b o : Nat} {N : Nd} {k : Int} (hk : KidAt w b o N) (hkk : N.kind = k) : Calls Tryz.prog 21 #[.agg (scs b o 65)] w (PostR w (.bool (kindB 65 k))) := by
  obtain ⟨bN, s0, s1, n0, n1, n2, n3, n4, HB⟩ := sp_start 65 hk
  rw [hkk] at n0
  have hkb : kindB 65 k = (decide (1 ≤ k) && (decide (k ≤ 24) && !(k == 11 || (k == 12 || k == 13)))) := by unfold kindB; rw [Bool.eq_iff_iff]; simp
  rw [hkb]
  have ce := fun W => isElement_any k W
  obtain ⟨qe, he⟩ : ∃ q, (k == 11 || (k == 12 || k == 13)) = q := ⟨_, rfl⟩
  rw [he] at ce ⊢
  obtain ⟨q0, fq0⟩ : ∃ q, decide (1 ≤ k) = q := ⟨_, rfl⟩
  rw [fq0]
  obtain ⟨q1, fq1⟩ : ∃ q, decide (k ≤ 24) = q := ⟨_, rfl⟩
  rw [fq1]
  clear hk hkk hkb bN he
  cases q0; rotate_left; cases q1; rotate_left; cases qe
  all_goals (
    go_enter Tryz.func21, Tryz.ntmps21
    go_wp2_with (go_at_call 39; (with_reducible refine (ce _).mono ?_); intro e w2 hp; obtain ⟨rfl, hb⟩ := hp; have HB := Lib.hid (HB.out.trans (hb.mono HB.out.size)); clear hb)
    go_ret
    exact ⟨rfl, HB.out⟩)
set_option maxRecDepth 100000 in
set_option maxHeartbeats 4000000 in
theorem kind_84 {w : World} {b o : Nat} {N : Nd} {k : Int} (hk : KidAt w b o N) (hkk : N.kind = k) : Calls Tryz.prog 21 #[.agg (scs b o 84)] w (PostR w (.bool (kindB 84 k))) := by
  obtain ⟨bN, s0, s1, n0, n1, n2, n3, n4, HB⟩ := sp_start 84 hk
  rw [hkk] at n0
  have hkb : kindB 84 k = (k == 8 || (k == 15 || k == 16)) := by unfold kindB; rw [Bool.eq_iff_iff]; simp
  rw [hkb]
  have ce := fun W => isMember_any k W
  obtain ⟨qe, he⟩ : ∃ q, (k == 15 || k == 16) = q := ⟨_, rfl⟩
  rw [he] at ce ⊢
  obtain ⟨q0, fq0⟩ : ∃ q, (k == 8) = q := ⟨_, rfl⟩
  rw [fq0]
  clear hk hkk hkb bN he
  cases q0; rotate_left; cases qe
  all_goals (
    go_enter Tryz.func21, Tryz.ntmps21
    go_wp2_with (go_at_call 40; (with_reducible refine (ce _).mono ?_); intro e w2 hp; obtain ⟨rfl, hb⟩ := hp; have HB := Lib.hid (HB.out.trans (hb.mono HB.out.size)); clear hb)
    go_ret
    exact ⟨rfl, HB.out⟩)
set_option maxRecDepth 100000 in
set_option maxHeartbeats 4000000 in
theorem kind_77 {w : World} {b o : Nat} {N : Nd} {k : Int} (hk : KidAt w b o N) (hkk : N.kind = k) : Calls Tryz.prog 21 #[.agg (scs b o 77)] w (PostR w (.bool (kindB 77 k))) := by
  obtain ⟨bN, s0, s1, n0, n1, n2, n3, n4, HB⟩ := sp_start 77 hk
  rw [hkk] at n0
  have hkb : kindB 77 k = (k == 15 || k == 16) := by unfold kindB; rw [Bool.eq_iff_iff]; simp
  rw [hkb]
  have ce := fun W => isMember_any k W
  obtain ⟨qe, he⟩ : ∃ q, (k == 15 || k == 16) = q := ⟨_, rfl⟩
  rw [he] at ce ⊢
  clear hk hkk hkb bN he
  cases qe
  all_goals (
    go_enter Tryz.func21, Tryz.ntmps21
    go_wp2_with (go_at_call 40; (with_reducible refine (ce _).mono ?_); intro e w2 hp; obtain ⟨rfl, hb⟩ := hp; have HB := Lib.hid (HB.out.trans (hb.mono HB.out.size)); clear hb)
    go_ret
    exact ⟨rfl, HB.out⟩)
set_option maxRecDepth 100000 in
set_option maxHeartbeats 4000000 in
theorem kind_68 {w : World} {b o : Nat} {N : Nd} {k : Int} (hk : KidAt w b o N) (hkk : N.kind = k) : Calls Tryz.prog 21 #[.agg (scs b o 68)] w (PostR w (.bool (kindB 68 k))) := by
  obtain ⟨bN, s0, s1, n0, n1, n2, n3, n4, HB⟩ := sp_start 68 hk
  rw [hkk] at n0
  have hkb : kindB 68 k = (k == 11 || (k == 12 || k == 13)) := by unfold kindB; rw [Bool.eq_iff_iff]; simp
  rw [hkb]
  have ce := fun W => isElement_any k W
  obtain ⟨qe, he⟩ : ∃ q, (k == 11 || (k == 12 || k == 13)) = q := ⟨_, rfl⟩
  rw [he] at ce ⊢
  clear hk hkk hkb bN he
  cases qe
  all_goals (
    go_enter Tryz.func21, Tryz.ntmps21
    go_wp2_with (go_at_call 39; (with_reducible refine (ce _).mono ?_); intro e w2 hp; obtain ⟨rfl, hb⟩ := hp; have HB := Lib.hid (HB.out.trans (hb.mono HB.out.size)); clear hb)
    go_ret
    exact ⟨rfl, HB.out⟩)
set_option maxRecDepth 100000 in
set_option maxHeartbeats 4000000 in
theorem kind_70 {w : World} {b o : Nat} {N : Nd} {k : Int} (hk : KidAt w b o N) (hkk : N.kind = k) : Calls Tryz.prog 21 #[.agg (scs b o 70)] w (PostR w (.bool (kindB 70 k))) := by
  obtain ⟨bN, s0, s1, n0, n1, n2, n3, n4, HB⟩ := sp_start 70 hk
  rw [hkk] at n0
  have hkb : kindB 70 k = (k == 14) := by unfold kindB; rw [Bool.eq_iff_iff]; simp
  rw [hkb]
  obtain ⟨q0, fq0⟩ : ∃ q, (k == 14) = q := ⟨_, rfl⟩
  rw [fq0]
  clear hk hkk hkb bN
  cases q0
  all_goals (
    go_enter Tryz.func21, Tryz.ntmps21
    go_wp2
    go_ret
    exact ⟨rfl, HB.out⟩)
set_option maxRecDepth 100000 in
set_option maxHeartbeats 4000000 in
theorem kind_71 {w : World} {b o : Nat} {N : Nd} {k : Int} (hk : KidAt w b o N) (hkk : N.kind = k) : Calls Tryz.prog 21 #[.agg (scs b o 71)] w (PostR w (.bool (kindB 71 k))) := by
  obtain ⟨bN, s0, s1, n0, n1, n2, n3, n4, HB⟩ := sp_start 71 hk
  rw [hkk] at n0
  have hkb : kindB 71 k = (k == 14) := by unfold kindB; rw [Bool.eq_iff_iff]; simp
  rw [hkb]
  obtain ⟨q0, fq0⟩ : ∃ q, (k == 14) = q := ⟨_, rfl⟩
  rw [fq0]
  clear hk hkk hkb bN
  cases q0
  all_goals (
    go_enter Tryz.func21, Tryz.ntmps21
    go_wp2
    go_ret
    exact ⟨rfl, HB.out⟩)
set_option maxRecDepth 100000 in
set_option maxHeartbeats 4000000 in
theorem kind_72 {w : World} {b o : Nat} {N : Nd} {k : Int} (hk : KidAt w b o N) (hkk : N.kind = k) : Calls Tryz.prog 21 #[.agg (scs b o 72)] w (PostR w (.bool (kindB 72 k))) := by
  obtain ⟨bN, s0, s1, n0, n1, n2, n3, n4, HB⟩ := sp_start 72 hk
  rw [hkk] at n0
  have hkb : kindB 72 k = (k == 14) := by unfold kindB; rw [Bool.eq_iff_iff]; simp
  rw [hkb]
  obtain ⟨q0, fq0⟩ : ∃ q, (k == 14) = q := ⟨_, rfl⟩
  rw [fq0]
  clear hk hkk hkb bN
  cases q0
  all_goals (
    go_enter Tryz.func21, Tryz.ntmps21
    go_wp2
    go_ret
    exact ⟨rfl, HB.out⟩)
def Plc (p : UInt8) : Prop := p = 80 ∨ p = 83 ∨ p = 66 ∨ p = 67 ∨ p = 65 ∨ p = 84 ∨ p = 77 ∨ p = 68 ∨ p = 70 ∨ p = 71 ∨ p = 72
theorem kind_any {p : UInt8} (hp : Plc p) {w : World} {b o : Nat} {N : Nd} {k : Int} (hk : KidAt w b o N) (hkk : N.kind = k) : Calls Tryz.prog 21 #[.agg (scs b o (p.toNat : Int))] w (PostR w (.bool (kindB p k))) := by
  rcases hp with rfl | rfl | rfl | rfl | rfl | rfl | rfl | rfl | rfl | rfl | rfl
  · exact kind_80 hk hkk
  · exact kind_83 hk hkk
  · exact kind_66 hk hkk
  · exact kind_67 hk hkk
  · exact kind_65 hk hkk
  · exact kind_84 hk hkk
  · exact kind_77 hk hkk
  · exact kind_68 hk hkk
  · exact kind_70 hk hkk
  · exact kind_71 hk hkk
  · exact kind_72 hk hkk
set_option maxRecDepth 100000 in
set_option maxHeartbeats 4000000 in
theorem isUnary_any (t : ByteArray) (w : World) : Calls Tryz.prog 47 #[.string t] w (PostR w (.bool (unL.contains t.data.toList))) := by
  rw [← tl_data]
  obtain ⟨l, hl⟩ : ∃ l, t.toList = l := ⟨_, rfl⟩
  have e : unL.contains t.toList = ((t.toList == [33]) || ((t.toList == [45]) || ((t.toList == [116, 121, 112, 101, 111, 102]) || ((t.toList == [100, 101, 108, 101, 116, 101]))))) := by unfold unL; rw [Bool.eq_iff_iff]; simp
  rw [e]
  obtain ⟨q0, f0⟩ : ∃ q, (t.toList == [33]) = q := ⟨_, rfl⟩
  rw [f0]
  obtain ⟨q1, f1⟩ : ∃ q, (t.toList == [45]) = q := ⟨_, rfl⟩
  rw [f1]
  obtain ⟨q2, f2⟩ : ∃ q, (t.toList == [116, 121, 112, 101, 111, 102]) = q := ⟨_, rfl⟩
  rw [f2]
  obtain ⟨q3, f3⟩ : ∃ q, (t.toList == [100, 101, 108, 101, 116, 101]) = q := ⟨_, rfl⟩
  rw [f3]
  clear e hl
  cases q0; cases q1; cases q2; cases q3
  all_goals (
    go_enter Tryz.func47, Tryz.ntmps47
    go_wp2
    go_ret
    exact ⟨rfl, Below.refl _ _⟩)
set_option maxRecDepth 100000 in
set_option maxHeartbeats 4000000 in
theorem isBinary_any (t : ByteArray) (w : World) : Calls Tryz.prog 48 #[.string t] w (PostR w (.bool (binL.contains t.data.toList))) := by
  rw [← tl_data]
  obtain ⟨l, hl⟩ : ∃ l, t.toList = l := ⟨_, rfl⟩
  have e : binL.contains t.toList = ((t.toList == [61, 61, 61]) || ((t.toList == [33, 61, 61]) || ((t.toList == [60]) || ((t.toList == [62]) || ((t.toList == [60, 61]) || ((t.toList == [62, 61]) || ((t.toList == [105, 110]) || ((t.toList == [43]) || ((t.toList == [45]) || ((t.toList == [42]) || ((t.toList == [47]) || ((t.toList == [37]))))))))))))) := by unfold binL; rw [Bool.eq_iff_iff]; simp
  rw [e]
  obtain ⟨q0, f0⟩ : ∃ q, (t.toList == [61, 61, 61]) = q := ⟨_, rfl⟩
  rw [f0]
  obtain ⟨q1, f1⟩ : ∃ q, (t.toList == [33, 61, 61]) = q := ⟨_, rfl⟩
  rw [f1]
  obtain ⟨q2, f2⟩ : ∃ q, (t.toList == [60]) = q := ⟨_, rfl⟩
  rw [f2]
  obtain ⟨q3, f3⟩ : ∃ q, (t.toList == [62]) = q := ⟨_, rfl⟩
  rw [f3]
  obtain ⟨q4, f4⟩ : ∃ q, (t.toList == [60, 61]) = q := ⟨_, rfl⟩
  rw [f4]
  obtain ⟨q5, f5⟩ : ∃ q, (t.toList == [62, 61]) = q := ⟨_, rfl⟩
  rw [f5]
  obtain ⟨q6, f6⟩ : ∃ q, (t.toList == [105, 110]) = q := ⟨_, rfl⟩
  rw [f6]
  obtain ⟨q7, f7⟩ : ∃ q, (t.toList == [43]) = q := ⟨_, rfl⟩
  rw [f7]
  obtain ⟨q8, f8⟩ : ∃ q, (t.toList == [45]) = q := ⟨_, rfl⟩
  rw [f8]
  obtain ⟨q9, f9⟩ : ∃ q, (t.toList == [42]) = q := ⟨_, rfl⟩
  rw [f9]
  obtain ⟨q10, f10⟩ : ∃ q, (t.toList == [47]) = q := ⟨_, rfl⟩
  rw [f10]
  obtain ⟨q11, f11⟩ : ∃ q, (t.toList == [37]) = q := ⟨_, rfl⟩
  rw [f11]
  clear e hl
  cases q0; cases q1; cases q2; cases q3; cases q4; cases q5; cases q6; cases q7; cases q8; cases q9; cases q10; cases q11
  all_goals (
    go_enter Tryz.func48, Tryz.ntmps48
    go_wp2
    go_ret
    exact ⟨rfl, Below.refl _ _⟩)
end Go.Proofs.YtinoaajohkafmaaGreat.Pr
