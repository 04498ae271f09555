/-
  The reference's SameThing at equal objects; CopyThing; Big.
-/
import Derived.Test.YtlhgiihooalanaaHpSame
namespace Go.Proofs.Ytlhgiihooalanaa.Hp
open Go Go.RowKit Go.Maps Go.Shelf Go.Proofs.Ytlhgiihooalanaa.Keys
set_option linter.unusedVariables false
set_option linter.unusedSimpArgs false
theorem tcs_1 (t : Th) : (tcs t)[1]? = some (.int .i64 t.proto.k) := rfl
theorem tcs_2 (t : Th) : (tcs t)[2]? = some (.int .i64 t.proto.n) := rfl
theorem tcs_3 (t : Th) : (tcs t)[3]? = some (.string t.proto.s) := rfl
theorem tcs_4 (t : Th) : (tcs t)[4]? = some (.bool t.ext) := rfl
theorem tcs_6 (t : Th) : (tcs t)[6]? = some (.int .i64 t.code) := rfl
theorem tcs_7 (t : Th) : (tcs t)[7]? = some (.int .i64 t.n) := rfl
theorem tcs_8 (t : Th) : (tcs t)[8]? = some (.int .i64 t.v.k) := rfl
theorem tcs_9 (t : Th) : (tcs t)[9]? = some (.int .i64 t.v.n) := rfl
theorem tcs_10 (t : Th) : (tcs t)[10]? = some (.string t.v.s) := rfl
theorem tcs_11 (t : Th) : (tcs t)[11]? = some (.int .i64 t.tg.k) := rfl
theorem tcs_12 (t : Th) : (tcs t)[12]? = some (.int .i64 t.tg.n) := rfl
theorem tcs_13 (t : Th) : (tcs t)[13]? = some (.string t.tg.s) := rfl
theorem tcs_14 (t : Th) : (tcs t)[14]? = some (.int .i64 t.hd.k) := rfl
theorem tcs_15 (t : Th) : (tcs t)[15]? = some (.int .i64 t.hd.n) := rfl
theorem tcs_16 (t : Th) : (tcs t)[16]? = some (.string t.hd.s) := rfl
theorem tcs_17 (t : Th) : (tcs t)[17]? = some (.int .i64 t.ths.k) := rfl
theorem tcs_18 (t : Th) : (tcs t)[18]? = some (.int .i64 t.ths.n) := rfl
theorem tcs_19 (t : Th) : (tcs t)[19]? = some (.string t.ths.s) := rfl
theorem tcs_21 (t : Th) : (tcs t)[21]? = some (.bool t.calls) := rfl
theorem tcs_22 (t : Th) : (tcs t)[22]? = some (.bool t.makes) := rfl
theorem tcs_23 (t : Th) : (tcs t)[23]? = some (.int .i64 t.env) := rfl
attribute [local go_sem ↓] ldE ldT bxT bxO bdO alE alT stE stT
attribute [local irreducible] ecs tcs ocs
attribute [local go_sem] run_bx run_alE run_alT run_bdO tcs_0 tcs_5 tcs_20 tcs_set5 tcs_set20 ocs_24
attribute [local go_sem] tcs_1 tcs_2 tcs_3 tcs_4 tcs_6 tcs_7 tcs_8 tcs_9 tcs_10 tcs_11 tcs_12 tcs_13 tcs_14 tcs_15 tcs_16 tcs_17 tcs_18 tcs_19 tcs_21 tcs_22 tcs_23

set_option maxRecDepth 100000 in
set_option maxHeartbeats 4000000 in
theorem sameT_any (t : Th) (p1 p2 a1 a2 : Option Addr) (c1 c2 d1 d2 : Nat) (es : List En) (vs : List Vl) (w : World) (hle : es.length ≤ 100) (hlv : vs.length ≤ 100) (he1 : EsAt w.heap.size p1 es w) (he2 : EsAt w.heap.size p2 es w) (hv1 : VsAt w.heap.size a1 vs w) (hv2 : VsAt w.heap.size a2 vs w) :
    Calls Try.prog 11 #[.agg (tcs { t with props := .slice p1 es.length c1, args := .slice a1 vs.length d1 }), .agg (tcs { t with props := .slice p2 es.length c2, args := .slice a2 vs.length d2 })] w fun e w' => e = .returned (.bool true) ∧ Below w.heap.size w w' := by
  obtain ⟨t1, ht1⟩ : ∃ t1 : Th, t1 = { t with props := .slice p1 es.length c1, args := .slice a1 vs.length d1 } := ⟨_, rfl⟩
  obtain ⟨t2, ht2⟩ : ∃ t2 : Th, t2 = { t with props := .slice p2 es.length c2, args := .slice a2 vs.length d2 } := ⟨_, rfl⟩
  rw [← ht1, ← ht2]
  obtain ⟨w2, hw2⟩ : ∃ w2, (w.alloc (.cells (tcs t1) 27)).alloc (.cells (tcs t2) 27) = w2 := ⟨_, rfl⟩
  have b2 : Below w.heap.size w w2 := by rw [← hw2]; exact ((Below.refl _ w).alloc (Nat.le_refl _) _).alloc (by simp) _
  have x2 : Blk w2 w.heap.size (tcs t1) 27 := by rw [← hw2]; exact (Blk.new w _ _).old _
  have y2 : Blk w2 (w.heap.size + 1) (tcs t2) 27 := by
    have := Blk.new (w.alloc (.cells (tcs t1) 27)) (tcs t2) 27
    rw [hw2, World.size_alloc] at this
    exact this
  have hsv := sameV_any a1 a2 d1 d2 vs w2 hlv ((hv1.below b2).mono b2.size) ((hv2.below b2).mono b2.size)
  have q0 := x2.cell 0
  have q1 := x2.cell 1
  have q2 := x2.cell 2
  have q3 := x2.cell 3
  have q4 := x2.cell 4
  have q5 := x2.cell 5
  have q6 := x2.cell 6
  have q7 := x2.cell 7
  have q8 := x2.cell 8
  have q9 := x2.cell 9
  have q10 := x2.cell 10
  have q11 := x2.cell 11
  have q12 := x2.cell 12
  have q13 := x2.cell 13
  have q14 := x2.cell 14
  have q15 := x2.cell 15
  have q16 := x2.cell 16
  have q17 := x2.cell 17
  have q18 := x2.cell 18
  have q19 := x2.cell 19
  have q20 := x2.cell 20
  have r0 := y2.cell 0
  have r1 := y2.cell 1
  have r2 := y2.cell 2
  have r3 := y2.cell 3
  have r4 := y2.cell 4
  have r5 := y2.cell 5
  have r6 := y2.cell 6
  have r7 := y2.cell 7
  have r8 := y2.cell 8
  have r9 := y2.cell 9
  have r10 := y2.cell 10
  have r11 := y2.cell 11
  have r12 := y2.cell 12
  have r13 := y2.cell 13
  have r14 := y2.cell 14
  have r15 := y2.cell 15
  have r16 := y2.cell 16
  have r17 := y2.cell 17
  have r18 := y2.cell 18
  have r19 := y2.cell 19
  have r20 := y2.cell 20
  rw [tcs_0, ht1] at q0
  rw [tcs_1, ht1] at q1
  rw [tcs_2, ht1] at q2
  rw [tcs_3, ht1] at q3
  rw [tcs_4, ht1] at q4
  rw [tcs_5, ht1] at q5
  rw [tcs_6, ht1] at q6
  rw [tcs_7, ht1] at q7
  rw [tcs_8, ht1] at q8
  rw [tcs_9, ht1] at q9
  rw [tcs_10, ht1] at q10
  rw [tcs_11, ht1] at q11
  rw [tcs_12, ht1] at q12
  rw [tcs_13, ht1] at q13
  rw [tcs_14, ht1] at q14
  rw [tcs_15, ht1] at q15
  rw [tcs_16, ht1] at q16
  rw [tcs_17, ht1] at q17
  rw [tcs_18, ht1] at q18
  rw [tcs_19, ht1] at q19
  rw [tcs_20, ht1] at q20
  rw [tcs_0, ht2] at r0
  rw [tcs_1, ht2] at r1
  rw [tcs_2, ht2] at r2
  rw [tcs_3, ht2] at r3
  rw [tcs_4, ht2] at r4
  rw [tcs_5, ht2] at r5
  rw [tcs_6, ht2] at r6
  rw [tcs_7, ht2] at r7
  rw [tcs_8, ht2] at r8
  rw [tcs_9, ht2] at r9
  rw [tcs_10, ht2] at r10
  rw [tcs_11, ht2] at r11
  rw [tcs_12, ht2] at r12
  rw [tcs_13, ht2] at r13
  rw [tcs_14, ht2] at r14
  rw [tcs_15, ht2] at r15
  rw [tcs_16, ht2] at r16
  rw [tcs_17, ht2] at r17
  rw [tcs_18, ht2] at r18
  rw [tcs_19, ht2] at r19
  rw [tcs_20, ht2] at r20
  dsimp only at q0 q1 q2 q3 q4 q5 q6 q7 q8 q9 q10 q11 q12 q13 q14 q15 q16 q17 q18 q19 q20 r0 r1 r2 r3 r4 r5 r6 r7 r8 r9 r10 r11 r12 r13 r14 r15 r16 r17 r18 r19 r20
  have n1 := run_neV t.proto.k t.proto.n t.proto.s
  have n2 := run_neV t.v.k t.v.n t.v.s
  have n3 := run_neV t.tg.k t.tg.n t.tg.s
  have n4 := run_neV t.hd.k t.hd.n t.hd.s
  have n5 := run_neV t.ths.k t.ths.n t.ths.s
  have X2 := Lib.hid x2
  have Y2 := Lib.hid y2
  have B2 := Lib.hid b2
  have HE1 := Lib.hid he1
  have HE2 := Lib.hid he2
  have HT1 := Lib.hid ht1
  have HT2 := Lib.hid ht2
  clear x2 y2 b2 he1 he2 hv1 hv2 ht1 ht2
  go_enter Try.func11, Try.ntmps11
  go_wp2_with (go_at_call 18; refine hsv.mono ?_; rintro e w3 ⟨rfl, hb3⟩; refine Hid.out ?_)
  refine Lib.hid ?_
  have x3 := X2.out.call hb3
  have y3 := Y2.out.call hb3
  have b3 := B2.out.trans (hb3.mono B2.out.size)
  have s5 := x3.cell 5
  have s21 := x3.cell 21
  have s22 := x3.cell 22
  have s23 := x3.cell 23
  have u5 := y3.cell 5
  have u21 := y3.cell 21
  have u22 := y3.cell 22
  have u23 := y3.cell 23
  rw [tcs_5, HT1.out] at s5
  rw [tcs_21, HT1.out] at s21
  rw [tcs_22, HT1.out] at s22
  rw [tcs_23, HT1.out] at s23
  rw [tcs_5, HT2.out] at u5
  rw [tcs_21, HT2.out] at u21
  rw [tcs_22, HT2.out] at u22
  rw [tcs_23, HT2.out] at u23
  dsimp only at s5 s21 s22 s23 u5 u21 u22 u23
  have X3 := Lib.hid x3
  have Y3 := Lib.hid y3
  have B3 := Lib.hid b3
  clear q0 q1 q2 q3 q4 q5 q6 q7 q8 q9 q10 q11 q12 q13 q14 q15 q16 q17 q18 q19 q20 r0 r1 r2 r3 r4 r5 r6 r7 r8 r9 r10 r11 r12 r13 r14 r15 r16 r17 r18 r19 r20 n1 n2 n3 n4 n5 hsv x3 y3 b3 hb3
  go_wp2
  clear s21 s22 s23 u21 u22 u23 s5 u5
  go_loopw [5] (fun i wr => ∃ j : Nat, j ≤ es.length ∧ i = .int .i64 j ∧ Below w3.heap.size w3 wr) (fun i _ => es.length - (intOf i).toNat)
  case atStart => exact ⟨0, Nat.zero_le _, rfl, Below.refl _ _⟩
  case round =>
    obtain ⟨j, hj, rfl, hbl⟩ := hrel
    have s5 := (X3.out.call hbl).cell 5
    have u5 := (Y3.out.call hbl).cell 5
    rw [tcs_5, HT1.out] at s5
    rw [tcs_5, HT2.out] at u5
    dsimp only at s5 u5
    have bw := B3.out.trans (hbl.mono B3.out.size)
    by_cases hlt : j < es.length
    · obtain ⟨e, he⟩ : ∃ e, es[j]? = some e := ⟨es[j], by simp [hlt]⟩
      have hlt2 : (j : Int) < es.length := by omega
      obtain ⟨b1, o1, hp1, -, hat1⟩ := (HE1.out.below bw) j e he
      obtain ⟨b2, o2, hp2, -, hat2⟩ := (HE2.out.below bw) j e he
      have l1 := run_ldE (w := wr.drew) (b := b1) hat1
      have l2 := run_ldE (w := wr.drew) (b := b2) hat2
      have hne := run_neE e
      subst hp1 hp2
      have BW := Lib.hid bw
      have HBL := Lib.hid hbl
      clear hat1 hat2 he bw hbl
      go_wp2
      go_region
      all_goals go_wp2
      all_goals go_roundw
      all_goals first
        | (case rel => exact ⟨j + 1, by omega, by go_num, HBL.out.drew⟩)
        | (case measure => exact measS rfl hlt2)
    · obtain rfl : j = es.length := by omega
      have BW := Lib.hid bw
      clear hlt hj bw hbl
      go_wp2
      go_ret
      exact ⟨rfl, BW.out⟩
end Go.Proofs.Ytlhgiihooalanaa.Hp
