/-
  The walk of the law ScopePlays.
-/
import Derived.Test.YtglnihecgjfkiaaScJ
import Derived.Test.YtglnihecgjfkiaaScApart
import Derived.Deep.RegionHeld3
namespace Go.Proofs.Ytglnihecgjfkiaa.Sc
open Go Go.RowKit Go.Maps
set_option linter.unusedVariables false
set_option linter.unusedSimpArgs false

/-! ### A call of the law's read whole -/
theorem ldA (v : Value) : Instr.loadAt 31 v = Ld 31 v := (rfl)
theorem stA (p v : Value) : Instr.storeAt 31 p v = St 31 p v := (rfl)
theorem alA : Instr.alloc 31 true (.tuple #[]) = Al 31 := (rfl)
abbrev zeroA : Ac := ⟨0, 0, ⟨#[]⟩, false, zeroV⟩
theorem acs_size (a : Ac) : (acs a).size = 7 := rfl
theorem acs_one (a : Ac) : (acs a).all (·.oneCell') = true := by simp [acs, Value.oneCell']
theorem infoA : (Try.prog.info? 31).map (fun i => (i.zero, i.size)) = some (some (.agg (acs zeroA)), 7) := by kernel_rfl
theorem sizeA : (Try.prog.info? 31).map (·.size) = some 7 := by kernel_rfl
theorem run_alA (w : World) : (Al 31).run Try.prog w = .ok (ptr w.heap.size) (w.alloc (.cells (acs zeroA) 31)) := by
  cases hq : Try.prog.info? 31 with
  | none => have := infoA; rw [hq] at this; cases this
  | some i =>
    have hi := infoA
    rw [hq] at hi
    simp at hi
    unfold Al
    simp [Instr.alloc, zeroValue, typeInfo, hq, hi.1, newVar, newRow, go_sem, ptr, Value.cells]
theorem run_ldA {w : World} {b o : Nat} {a : Ac} (h : w.rangeAt b o (acs a).toList) : (Ld 31 (.pointer (some ⟨b, o, none⟩))).run Try.prog w = .ok (.agg (acs a)) w := by
  have := run_loadAt_mid (P := Try.prog) w b o 31 _ _ h Try.underlying31 rfl sizeA
  simpa [Ld] using this
theorem run_stA (w : World) (a o : Ac) : (St 31 (.pointer (some ⟨w.heap.size, 0, none⟩)) (.agg (acs a))).run Try.prog (w.alloc (.cells (acs o) 31)) = .ok () (w.alloc (.cells (acs a) 31)) := by
  have h := run_storeVar_row (P := Try.prog) (w.alloc (.cells (acs o) 31)) w.heap.size 31 31 (acs o) (acs a) (Blk.new w _ _) (by rw [acs_size]; exact sizeA) (by rw [acs_size, acs_size]) (acs_one a)
  unfold St
  simp only [Instr.storeAt, Instr.sureAddr, Sem.run_bind, Sem.run_pure, Result.andThen_ok, h, setRow_new]
theorem acs_v (a : Ac) : (acs a).toList = [.int .i64 a.way, .int .i64 a.env, .string a.name, .bool a.fx] ++ (vcs a.v).toList := rfl
theorem box_v {w : World} {b : Nat} {a : Ac} {t : TypeId} (h : Blk w b (acs a) t) : (Ld 29 (.pointer (some ⟨b, 4, none⟩))).run Try.prog w = .ok (.agg (vcs a.v)) w := by
  refine run_ldR fun j v hv => ?_
  rw [h.cell, ← Array.getElem?_toList, acs_v, List.getElem?_append_right (by simp)]
  simpa using hv
attribute [local go_sem ↓] ldV stV alV bxV bxP bdV bdP run_eqVV ldA stA alA
attribute [local irreducible] vcs pcs acs
attribute [local go_sem] run_bx run_alV run_bd0 run_bd1 run_stN run_alA run_stA

set_option maxRecDepth 100000 in
set_option maxHeartbeats 4000000 in
theorem lawPlays_out (a : Option Addr) (n c : Nat) (w : World) (h : 100 < n) : Calls Try.prog 3 #[.slice a n c] w fun e w' => e = .returned (.bool true) ∧ Below w.heap.size w w' := by
  have hal := alive_any w
  have h1 : 100 < (n : Int) := by omega
  go_enter Try.func3, Try.ntmps3
  go_wp2_with (go_at_call 6; refine hal.mono ?_; rintro e w0 ⟨rfl, hb0⟩)
  go_ret
  exact ⟨rfl, hb0⟩
/-- What holds at a round's head. -/
structure PJ (w0 : World) (s o r : Nat) (i : Nat) (S T : List Sco) (w : World) : Prop where
  j : J w0 s o r S T S [] w
  ls : Lim i S
  lt : Lim (2 * i) T
theorem PJ.next {w0 w : World} {s o r i k : Nat} {S T : List Sco} {K : KL} (hj : J w0 s o r S T S K w) (hs : Lim k S) (ht : Lim (2 * i + 2) T) (hk : k ≤ i + 1) : PJ w0 s o r (i + 1) S T w :=
  ⟨hj.less (fun p hp => by cases hp), hs.mono hk, ht.mono (by omega)⟩
theorem pj_start {w0 wa wb wc : World} {s o r : Nat} {X Y Z : Nat → Prop} (h1 : PIs w0.heap.size X wa s [⟨-1, []⟩]) (b1 : Below w0.heap.size w0 wa) (h2 : PIs wa.heap.size Y wb o [⟨-1, []⟩]) (b2 : Below wa.heap.size wa wb) (h3 : RIs wb.heap.size Z wc r [⟨-1, []⟩]) (b3 : Below wb.heap.size wb wc) : PJ w0 s o r 0 [⟨-1, []⟩] [⟨-1, []⟩] wc := by
  have s1 := b1.size
  have s2 := b2.size
  have s3 := b3.size
  refine ⟨⟨X, Y, Z, (h1.below b2).below b3, (h2.mono s1).below b3, h3.mono (by omega), fun b hx hy => ?_, fun b hx hz => ?_, fun b hy hz => ?_, (b1.trans (b2.mono s1)).trans (b3.mono (by omega)), fun p hp => by cases hp⟩, lim0, lim0⟩
  · have := (h1.low b hx).2; have := (h2.low b hy).1; omega
  · have := (h1.low b hx).2; have := (h3.low b hz).1; omega
  · have := (h2.low b hy).2; have := (h3.low b hz).1; omega
theorem plays_meas {n k : Nat} {z : Int} (hz : z = (k : Int) + 1) (h : k < n) : n - (intOf (.int .i64 z)).toNat < n - (intOf (.int .i64 (k : Int))).toNat := by
  subst hz
  show n - ((k : Int) + 1).toNat < n - ((k : Int)).toNat
  omega
/-- The rest of a round: the goal of each way. -/
def Rnd (w0 : World) (s o r n : Nat) (v : Value) (w : World) : Prop := ∃ (i : Nat) (S T : List Sco), i ≤ n ∧ v = .int .i64 i ∧ PJ w0 s o r i S T w
theorem Rnd.next {w0 w : World} {s o r n i k : Nat} {S T : List Sco} {K : KL} {z : Int} (hz : z = (i : Int) + 1) (hi : i < n) (hj : J w0 s o r S T S K w) (hs : Lim k S) (ht : Lim (2 * i + 2) T) (hk : k ≤ i + 1) : Rnd w0 s o r n (.int .i64 z) w :=
  ⟨i + 1, S, T, hi, by rw [hz]; congr 1, PJ.next hj hs ht hk⟩

set_option maxRecDepth 100000 in
set_option maxHeartbeats 8000000 in
theorem lawPlays_main (a : Option Addr) (c : Nat) (ks : List Ac) (w : World) (hn : ks.length ≤ 100) (hA : ActsAt a ks w) : Calls Try.prog 3 #[.slice a ks.length c] w fun e w' => e = .returned (.bool true) ∧ Below w.heap.size w w' := by
  have hal := alive_any w
  have HA := Lib.hid hA
  obtain ⟨n, hnn⟩ : ∃ n, ks.length = n := ⟨_, rfl⟩
  rw [hnn] at hn ⊢
  have HNN := Lib.hid hnn
  have HN := Lib.hid hn
  have h1 : decide (100 < (n : Int)) = false := by simp; omega
  have h2 : decide (100 < n) = false := by simp; omega
  clear hA hnn hn
  go_enter Try.func3, Try.ntmps3
  go_wp2_with (go_at_call 6; refine hal.mono ?_; rintro e w0 ⟨rfl, hb0⟩; refine Hid.out ?_)
  refine Lib.hid ?_
  have HB := Lib.hid hb0
  have c1 := new_any w0
  clear hal hb0
  go_wp2_with (go_at_call 7; refine c1.mono ?_; rintro e wa ⟨s, X, rfl, p1, b1⟩; refine Hid.out ?_)
  refine Lib.hid ?_
  have c2 := new_any wa
  have P1 := Lib.hid p1
  have B1 := Lib.hid b1
  clear c1 p1 b1
  go_wp2_with (go_at_call 7; refine c2.mono ?_; rintro e wb ⟨o, Y, rfl, p2, b2⟩; refine Hid.out ?_)
  refine Lib.hid ?_
  have c3 := rnew_any wb
  have P2 := Lib.hid p2
  have B2 := Lib.hid b2
  clear c2 p2 b2
  go_wp2_with (go_at_call 8; refine c3.mono ?_; rintro e wc ⟨r, Z, rfl, p3, b3⟩; refine Hid.out ?_)
  refine Lib.hid ?_
  have HP : Hid (Rnd w0 s o r n (.int .i64 (0 : Nat)) wc) := Lib.hid ⟨0, _, _, Nat.zero_le _, rfl, pj_start P1.out B1.out P2.out B2.out p3 b3⟩
  clear c3 p3 b3 P1 B1 P2 B2
  go_wp2
  go_loopw [7] (fun v wr => Rnd w0 s o r n v wr) (fun v _ => n - (intOf v).toNat)
  case atStart => exact HP.out
  case round =>
    obtain ⟨i, S, T, hi, rfl, hpj⟩ := hrel
    by_cases hlt : i < n
    · obtain ⟨act, hact⟩ : ∃ act, ks[i]? = some act := ⟨ks[i]'(by have := HNN.out; omega), List.getElem?_eq_getElem _⟩
      obtain ⟨b, off, rfl, hbl, hrg, hfine⟩ := HA.out i act hact
      have hbel := HB.out.trans (hpj.j.bel.mono HB.out.size)
      have hld : (Ld 31 (.pointer (some ⟨b, off + i * 7, none⟩))).run Try.prog wr = .ok (.agg (acs act)) wr := run_ldA fun j v hv => by rw [hbel.cell (p := ⟨b, off + i * 7 + j, none⟩) hbl]; exact hrg j v hv
      have hidx : (i : Int) < n := by omega
      have hidx2 : decide ((n : Int) ≤ i) = false := by simp; omega
      have hwr : wrap64 ((i : Int) + 1) = i + 1 := by have := HN.out; unfold wrap64; omega
      have j1 := hpj.j.new (acs act) 31
      have cl := j1.oLet 0 ⟨#[111]⟩ true fine_o hpj.lt (by have := HN.out; omega)
      have LS := Lib.hid hpj.ls
      have LT := Lib.hid hpj.lt
      have HW := Lib.hid hwr
      have HLT := Lib.hid hlt
      have HF := Lib.hid hfine
      clear hact hbl hrg hfine hbel hpj hi hlt j1 hwr
      go_wp2_with (go_at_call 9; refine cl.mono ?_; rintro e wl ⟨rfl, j2⟩; refine Hid.out ?_)
      refine Lib.hid ?_
      obtain ⟨ab, hab⟩ : ∃ ab, wr.heap.size = ab := ⟨_, rfl⟩
      rw [hab] at j2 ⊢
      have LT1 := Lib.hid (LT.out.let 0 ⟨#[111]⟩ true)
      have cm := j2.oMake 0 LT1.out (by have := HN.out; have := HLT.out; omega)
      clear cl j2 hld hab
      go_wp2_with (go_at_call 10; refine cm.mono ?_; rintro e wm ⟨rfl, j3⟩; refine Hid.out ?_)
      refine Lib.hid ?_
      have LT2 := Lib.hid (LT1.out.make 0)
      obtain ⟨T2, hT2⟩ : ∃ T2, (makeF (letF T 0 ⟨#[111]⟩ true).2 0).2 = T2 := ⟨_, rfl⟩
      rw [hT2] at j3 LT2
      have q0 : ∀ (W : World) (S' U' : List Sco), J w0 s o r S' T2 U' [(ab, acs act, 31)] W → Blk W ab (acs act) 31 := fun _ _ _ h => h.blk (by simp)
      have HQ := Lib.hid q0
      have z0 : wm.cell? ⟨ab, 0, none⟩ = some (.int .i64 act.way) := by rw [(q0 _ _ _ j3).cell]; simp [acs]
      clear cm q0 hT2
      by_cases hw0 : act.way = 0
      · rw [hw0] at z0
        have LL := LS.out.make act.env
        obtain ⟨R, S2, hR⟩ : ∃ R S2, makeF S act.env = (R, S2) := ⟨_, _, rfl⟩
        rw [hR] at LL
        replace LL : Lim (i + 1) S2 := LL
        have LL := Lib.hid LL
        have cS : ∀ (W : World) (U' : List Sco), J w0 s o r S T2 U' [(ab, acs act, 31)] W → Calls Try.prog 10 #[ptr s, .int .i64 act.env] W fun e w' => e = .returned (.int .i64 R) ∧ J w0 s o r S2 T2 U' [(ab, acs act, 31)] w' := fun W U' hj => by
          have := hj.sMake act.env LS.out (by have := HN.out; have := HLT.out; omega)
          rw [hR] at this
          exact this
        have cR : ∀ (W : World) (S' : List Sco), J w0 s o r S' T2 S [(ab, acs act, 31)] W → Calls Try.prog 11 #[ptr r, .int .i64 act.env] W fun e w' => e = .returned (.int .i64 R) ∧ J w0 s o r S' T2 S2 [(ab, acs act, 31)] w' := fun W S' hj => by
          have := hj.rMake act.env LS.out (by have := HN.out; have := HLT.out; omega)
          rw [hR] at this
          exact this
        have HSx : Hid (∀ (W : World) (S' U' : List Sco), J w0 s o r S' T2 U' [(ab, acs act, 31)] W → (W.cell? ⟨ab, 1, none⟩ = some (.int .i64 act.env))) := Lib.hid fun W S' U' h => by
          have b := HQ.out W S' U' h
          exact by rw [b.cell]; simp [acs]
        have j4 := j3.drew
        clear j3 hR hw0
        go_wp2
        go_region_held3 (fun W => W.cell? ⟨ab, 1, none⟩ = some (.int .i64 act.env))
          (first | exact HSx.out _ _ _ j4 | (go_split_ands; exact HSx.out _ _ _ (by assumption)))
          ((go_split_ands; first | (go_at_call 10; (with_reducible refine (cS _ _ (by assumption)).mono ?_); intro e w2 hp; obtain ⟨rfl, hj⟩ := hp) | (go_at_call 11; (with_reducible refine (cR _ _ (by assumption)).mono ?_); intro e w2 hp; obtain ⟨rfl, hj⟩ := hp)))
        all_goals go_split_ands
        all_goals go_wp2
        all_goals go_roundw
        all_goals first | exact Rnd.next HW.out HLT.out (by assumption) LL.out LT2.out (by omega) | exact plays_meas HW.out HLT.out
      by_cases hw1 : act.way = 1
      · rw [hw1] at z0
        clear hw0
        have LL := LS.out.let act.env act.name act.fx
        obtain ⟨R, S2, hR⟩ : ∃ R S2, letF S act.env act.name act.fx = (R, S2) := ⟨_, _, rfl⟩
        rw [hR] at LL
        replace LL : Lim (i + 1) S2 := LL
        have LL := Lib.hid LL
        have cS : ∀ (W : World) (U' : List Sco), J w0 s o r S T2 U' [(ab, acs act, 31)] W → Calls Try.prog 9 #[ptr s, .int .i64 act.env, .string act.name, .bool act.fx] W fun e w' => e = .returned (.bool R) ∧ J w0 s o r S2 T2 U' [(ab, acs act, 31)] w' := fun W U' hj => by
          have := hj.sLet act.env act.name act.fx HF.out LS.out (by have := HN.out; have := HLT.out; omega)
          rw [hR] at this
          exact this
        have cR : ∀ (W : World) (S' : List Sco), J w0 s o r S' T2 S [(ab, acs act, 31)] W → Calls Try.prog 12 #[ptr r, .int .i64 act.env, .string act.name, .bool act.fx] W fun e w' => e = .returned (.bool R) ∧ J w0 s o r S' T2 S2 [(ab, acs act, 31)] w' := fun W S' hj => by
          have := hj.rLet act.env act.name act.fx LS.out (by have := HN.out; have := HLT.out; omega)
          rw [hR] at this
          exact this
        have HSx : Hid (∀ (W : World) (S' U' : List Sco), J w0 s o r S' T2 U' [(ab, acs act, 31)] W → (W.cell? ⟨ab, 1, none⟩ = some (.int .i64 act.env) ∧ W.cell? ⟨ab, 2, none⟩ = some (.string act.name) ∧ W.cell? ⟨ab, 3, none⟩ = some (.bool act.fx))) := Lib.hid fun W S' U' h => by
          have b := HQ.out W S' U' h
          exact ⟨by rw [b.cell]; simp [acs], by rw [b.cell]; simp [acs], by rw [b.cell]; simp [acs]⟩
        have j4 := j3.drew
        clear j3 hR hw1
        go_wp2
        go_region_held3 (fun W => W.cell? ⟨ab, 1, none⟩ = some (.int .i64 act.env) ∧ W.cell? ⟨ab, 2, none⟩ = some (.string act.name) ∧ W.cell? ⟨ab, 3, none⟩ = some (.bool act.fx))
          (first | exact HSx.out _ _ _ j4 | (go_split_ands; exact HSx.out _ _ _ (by assumption)))
          ((go_split_ands; first | (go_at_call 9; (with_reducible refine (cS _ _ (by assumption)).mono ?_); intro e w2 hp; obtain ⟨rfl, hj⟩ := hp) | (go_at_call 12; (with_reducible refine (cR _ _ (by assumption)).mono ?_); intro e w2 hp; obtain ⟨rfl, hj⟩ := hp)))
        all_goals go_split_ands
        all_goals go_wp2
        all_goals go_roundw
        all_goals first | exact Rnd.next HW.out HLT.out (by assumption) LL.out LT2.out (by omega) | exact plays_meas HW.out HLT.out
      by_cases hw2 : act.way = 2
      · rw [hw2] at z0
        clear hw0
        clear hw1
        have LL := LS.out.begin act.env act.name act.v
        obtain ⟨R, S2, hR⟩ : ∃ R S2, beginF S act.env act.name act.v = (R, S2) := ⟨_, _, rfl⟩
        rw [hR] at LL
        replace LL : Lim i S2 := LL
        have LL := Lib.hid LL
        have cS : ∀ (W : World) (U' : List Sco), J w0 s o r S T2 U' [(ab, acs act, 31)] W → Calls Try.prog 13 #[ptr s, .int .i64 act.env, .string act.name, .agg (vcs act.v)] W fun e w' => e = .returned (.bool R) ∧ J w0 s o r S2 T2 U' [(ab, acs act, 31)] w' := fun W U' hj => by
          have := hj.sBegin act.env act.name act.v HF.out LS.out (by have := HN.out; have := HLT.out; omega)
          rw [hR] at this
          exact this
        have cR : ∀ (W : World) (S' : List Sco), J w0 s o r S' T2 S [(ab, acs act, 31)] W → Calls Try.prog 14 #[ptr r, .int .i64 act.env, .string act.name, .agg (vcs act.v)] W fun e w' => e = .returned (.bool R) ∧ J w0 s o r S' T2 S2 [(ab, acs act, 31)] w' := fun W S' hj => by
          have := hj.rBegin act.env act.name act.v LS.out (by have := HN.out; have := HLT.out; omega)
          rw [hR] at this
          exact this
        have HSx : Hid (∀ (W : World) (S' U' : List Sco), J w0 s o r S' T2 U' [(ab, acs act, 31)] W → (W.cell? ⟨ab, 1, none⟩ = some (.int .i64 act.env) ∧ W.cell? ⟨ab, 2, none⟩ = some (.string act.name) ∧ (Ld 29 (.pointer (some ⟨ab, 4, none⟩))).run Try.prog W = .ok (.agg (vcs act.v)) W)) := Lib.hid fun W S' U' h => by
          have b := HQ.out W S' U' h
          exact ⟨by rw [b.cell]; simp [acs], by rw [b.cell]; simp [acs], box_v b⟩
        have j4 := j3.drew
        clear j3 hR hw2
        go_wp2
        go_region_held3 (fun W => W.cell? ⟨ab, 1, none⟩ = some (.int .i64 act.env) ∧ W.cell? ⟨ab, 2, none⟩ = some (.string act.name) ∧ (Ld 29 (.pointer (some ⟨ab, 4, none⟩))).run Try.prog W = .ok (.agg (vcs act.v)) W)
          (first | exact HSx.out _ _ _ j4 | (go_split_ands; exact HSx.out _ _ _ (by assumption)))
          ((go_split_ands; first | (go_at_call 13; (with_reducible refine (cS _ _ (by assumption)).mono ?_); intro e w2 hp; obtain ⟨rfl, hj⟩ := hp) | (go_at_call 14; (with_reducible refine (cR _ _ (by assumption)).mono ?_); intro e w2 hp; obtain ⟨rfl, hj⟩ := hp)))
        all_goals go_split_ands
        all_goals go_wp2
        all_goals go_roundw
        all_goals first | exact Rnd.next HW.out HLT.out (by assumption) LL.out LT2.out (by omega) | exact plays_meas HW.out HLT.out
      by_cases hw4 : act.way = 4
      · rw [hw4] at z0
        clear hw0
        clear hw1
        clear hw2
        have LL := LS.out.set act.env act.name act.v
        obtain ⟨R, S2, hR⟩ : ∃ R S2, setF S act.env act.name act.v = (R, S2) := ⟨_, _, rfl⟩
        rw [hR] at LL
        replace LL : Lim i S2 := LL
        have LL := Lib.hid LL
        have cS : ∀ (W : World) (U' : List Sco), J w0 s o r S T2 U' [(ab, acs act, 31)] W → Calls Try.prog 17 #[ptr s, .int .i64 act.env, .string act.name, .agg (vcs act.v)] W fun e w' => e = .returned (.int .i64 R) ∧ J w0 s o r S2 T2 U' [(ab, acs act, 31)] w' := fun W U' hj => by
          have := hj.sSet act.env act.name act.v HF.out LS.out (by have := HN.out; have := HLT.out; omega)
          rw [hR] at this
          exact this
        have cR : ∀ (W : World) (S' : List Sco), J w0 s o r S' T2 S [(ab, acs act, 31)] W → Calls Try.prog 18 #[ptr r, .int .i64 act.env, .string act.name, .agg (vcs act.v)] W fun e w' => e = .returned (.int .i64 R) ∧ J w0 s o r S' T2 S2 [(ab, acs act, 31)] w' := fun W S' hj => by
          have := hj.rSet act.env act.name act.v LS.out (by have := HN.out; have := HLT.out; omega)
          rw [hR] at this
          exact this
        have HSx : Hid (∀ (W : World) (S' U' : List Sco), J w0 s o r S' T2 U' [(ab, acs act, 31)] W → (W.cell? ⟨ab, 1, none⟩ = some (.int .i64 act.env) ∧ W.cell? ⟨ab, 2, none⟩ = some (.string act.name) ∧ (Ld 29 (.pointer (some ⟨ab, 4, none⟩))).run Try.prog W = .ok (.agg (vcs act.v)) W)) := Lib.hid fun W S' U' h => by
          have b := HQ.out W S' U' h
          exact ⟨by rw [b.cell]; simp [acs], by rw [b.cell]; simp [acs], box_v b⟩
        have j4 := j3.drew
        clear j3 hR hw4
        go_wp2
        go_region_held3 (fun W => W.cell? ⟨ab, 1, none⟩ = some (.int .i64 act.env) ∧ W.cell? ⟨ab, 2, none⟩ = some (.string act.name) ∧ (Ld 29 (.pointer (some ⟨ab, 4, none⟩))).run Try.prog W = .ok (.agg (vcs act.v)) W)
          (first | exact HSx.out _ _ _ j4 | (go_split_ands; exact HSx.out _ _ _ (by assumption)))
          ((go_split_ands; first | (go_at_call 17; (with_reducible refine (cS _ _ (by assumption)).mono ?_); intro e w2 hp; obtain ⟨rfl, hj⟩ := hp) | (go_at_call 18; (with_reducible refine (cR _ _ (by assumption)).mono ?_); intro e w2 hp; obtain ⟨rfl, hj⟩ := hp)))
        all_goals go_split_ands
        all_goals go_wp2
        all_goals go_roundw
        all_goals first | exact Rnd.next HW.out HLT.out (by assumption) LL.out LT2.out (by omega) | exact plays_meas HW.out HLT.out
      by_cases hw3 : act.way = 3
      · rw [hw3] at z0
        clear hw0 hw1 hw2 hw4 hw3
        obtain ⟨R, E, hR⟩ : ∃ R E, getF S act.env act.name = (R, E) := ⟨_, _, rfl⟩
        have cS := j3.sGet act.env act.name HF.out LS.out (by have := HN.out; have := HLT.out; omega)
        rw [hR] at cS
        have b1 := HQ.out _ _ _ j3
        have z1 : wm.cell? ⟨ab, 1, none⟩ = some (.int .i64 act.env) := by rw [b1.cell]; simp [acs]
        have z2 : wm.cell? ⟨ab, 2, none⟩ = some (.string act.name) := by rw [b1.cell]; simp [acs]
        have HR := Lib.hid hR
        clear j3 b1 hR
        go_wp2_with (go_at_call 15; refine cS.mono ?_; rintro e w4 ⟨rfl, j4⟩; refine Hid.out ?_)
        refine Lib.hid ?_
        have j5 := j4.new (vcs R) 29
        have cR := j5.rGet act.env act.name LS.out (by have := HN.out; have := HLT.out; omega)
        rw [HR.out] at cR
        have b5 := j5.blk (b := ab) (cs := acs act) (t := 31) (by simp)
        have y1 : (w4.alloc (.cells (vcs R) 29)).cell? ⟨ab, 1, none⟩ = some (.int .i64 act.env) := by rw [b5.cell]; simp [acs]
        have y2 : (w4.alloc (.cells (vcs R) 29)).cell? ⟨ab, 2, none⟩ = some (.string act.name) := by rw [b5.cell]; simp [acs]
        clear j4 j5 b5 cS z1 z2
        go_wp2_with (go_at_call 16; refine cR.mono ?_; rintro e w6 ⟨rfl, j6⟩; refine Hid.out ?_)
        refine Lib.hid ?_
        have j7 := j6.new (vcs R) 29
        have m1 := run_ldV (j7.blk (b := w4.heap.size) (cs := vcs R) (t := 29) (by simp))
        have m2 := run_ldV (j7.blk (b := w6.heap.size) (cs := vcs R) (t := 29) (by simp))
        have HJ := Lib.hid j7
        clear j6 j7 cR y1 y2
        go_wp2
        go_roundw
        all_goals first | exact Rnd.next HW.out HLT.out HJ.out LS.out LT2.out (by omega) | exact plays_meas HW.out HLT.out
      · have f0 : (act.way == 0) = false := by simpa using hw0
        have f1 : (act.way == 1) = false := by simpa using hw1
        have f2 : (act.way == 2) = false := by simpa using hw2
        have f3 : (act.way == 3) = false := by simpa using hw3
        have f4 : (act.way == 4) = false := by simpa using hw4
        have HJ := Lib.hid j3
        clear hw0 hw1 hw2 hw3 hw4 j3
        go_wp2
        go_roundw
        all_goals first | exact Rnd.next HW.out HLT.out HJ.out LS.out LT2.out (by omega) | exact plays_meas HW.out HLT.out
    · obtain rfl : i = n := by omega
      have q1 : decide ((i : Int) < i) = false := by simp
      have HE := Lib.hid (HB.out.trans (hpj.j.bel.mono HB.out.size))
      clear hpj hi hlt
      go_wp2
      go_ret
      exact ⟨rfl, HE.out⟩
theorem lawPlays_walk (a : Option Addr) (c : Nat) (ks : List Ac) (w : World) (hA : ActsAt a ks w) : Calls Try.prog 3 #[.slice a ks.length c] w fun e w' => e = .returned (.bool true) ∧ Below w.heap.size w w' := by
  by_cases h : 100 < ks.length
  · exact lawPlays_out a ks.length c w h
  · exact lawPlays_main a c ks w (by omega) hA
end Go.Proofs.Ytglnihecgjfkiaa.Sc
