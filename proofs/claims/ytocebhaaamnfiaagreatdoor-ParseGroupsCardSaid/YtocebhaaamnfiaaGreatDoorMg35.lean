/-
  parse.Parse.
-/
import Derived.Test.YtocebhaaamnfiaaGreatDoorMg34
namespace Go.Proofs.YtocebhaaamnfiaaGreatDoor.Pa
open Go Go.RowKit Go.Proofs.YtocebhaaamnfiaaGreatDoor.Lx Go.Proofs.YtocebhaaamnfiaaGreatDoor.Uni
set_option linter.unusedVariables false
set_option linter.unusedSimpArgs false
attribute [local irreducible] kcs ncs ncells
attribute [local go_sem] run_alK run_bdK0 run_bdKs run_bdKn run_bdKe run_bsK run_fdK0 run_fdK1 run_fdK2 run_fdK3 run_fdN4 run_alN run_stNg run_ldNg run_bdN0 run_bdN04 run_bdN02 run_bdN01 run_bdN024 run_bdN03 run_bdN0234 run_bsN1 run_bsN2 run_bsN3

/-- What Parse leaves. -/
def ParsePost (s : ByteArray) (w : World) (e : Ending) (w' : World) : Prop :=
  ∃ N, e = .returned (.tuple #[.agg (ncs N), .int .i64 (parseF s).2.1, .int .i64 (parseF s).2.2]) ∧ Rep (w.heap.size ≤ ·) w' (parseF s).1 N ∧ Below w.heap.size w w'
/-- The world's facts that Parse needs. -/
structure Gp (w : World) : Prop where
  fa : Fa w
  lv : w.rangeAt 1 0 lvL
  sz : 8 ≤ w.heap.size
theorem Gp.below {w w' : World} (h : Gp w) (hb : Below w.heap.size w w') : Gp w' :=
  ⟨h.fa.below hb, fun j v hj => cell_keep (h.lv j v hj) (fun hl => hb.block _ hl), Nat.le_trans h.sz hb.size⟩
theorem Gp.gx {w : World} (h : Gp w) {g : Nat} (hg : 8 ≤ g) : Gx g w := ⟨h.fa, h.lv, hg⟩
/-- The results: a node in a cell, and two numbers. -/
theorem res_NII {fn : Func} {p q r : Tmp} (h : fn.results = #[.cell p 27, .tmp q, .tmp r]) (tmps : Array Value) (w : World) (g : Nat) (t : Nd) (a b : Value) (hp : tmps.getD p undef = .pointer (some ⟨g, 0, none⟩)) (hq : tmps.getD q undef = a) (hr : tmps.getD r undef = b) {T : TypeId} (hv : Blk w g (ncs t) T) : (results fn tmps).run Tryz.prog w = .ok (.tuple #[.agg (ncs t), a, b]) w := by
  have e1 := run_loadVar_row (P := Tryz.prog) w g T 27 (ncs t) (0, 0) _ hv Tryz.underlying27 rfl (by rw [ncs_size]; exact sizeN)
  have hp' : tmps[p]?.getD undef = .pointer (some ⟨g, 0, none⟩) := by simpa using hp
  have hq' : tmps[q]?.getD undef = a := by simpa using hq
  have hr' : tmps[r]?.getD undef = b := by simpa using hr
  simp only [results, h]
  simp [Sem.run_bind, Result.andThen, hp', hq', hr', asAddr, e1]
/-! ### The parser's own block -/
def pcs (a : Option Addr) (n c : Nat) : Array Value := #[.slice a n c, .int .i64 0, .int .i64 0, .int .i64 0]
theorem alP : Instr.alloc 44 true (.tuple #[]) = Al 44 := (rfl)
theorem stP (p v : Value) : Instr.storeAt 44 p v = Lx.St 44 p v := (rfl)
theorem bdP (ps : Array (Nat × Value)) : Instr.build 44 ps = Bd 44 ps := (rfl)
theorem infoP : (Tryz.prog.info? 44).map (fun i => (i.zero, i.size)) = some (some (.agg (pcs none 0 0)), 4) := by kernel_rfl
theorem sizeP : (Tryz.prog.info? 44).map (·.size) = some 4 := by kernel_rfl
theorem run_alP (w : World) : (Al 44).run Tryz.prog w = .ok (ptr w.heap.size) (w.alloc (.cells (pcs none 0 0) 44)) := run_al infoP w
theorem run_bdP (w : World) (a : Option Addr) (n c : Nat) : (Bd 44 #[(0, .slice a n c)]).run Tryz.prog w = .ok (.agg (pcs a n c)) w := run_build w _ _ _ (by kernel_rfl)
theorem run_stP (w : World) (a : Option Addr) (n c : Nat) (o : Array Value) (ho : o.size = 4) : (Lx.St 44 (.pointer (some ⟨w.heap.size, 0, none⟩)) (.agg (pcs a n c))).run Tryz.prog (w.alloc (.cells o 44)) = .ok () (w.alloc (.cells (pcs a n c) 44)) := by
  rw [run_st_row (Blk.new w o _) (by exact sizeP) (by rw [ho]; rfl) (by simp [pcs, Value.oneCell']), setRow_new]
theorem pcs_size (a : Option Addr) (n c : Nat) : (pcs a n c).size = 4 := rfl
/-- The parser over tokens that were just made. -/
theorem at_new {w : World} {base n : Nat} {v : Value} {l : List Tok} (h : w.ownsRow base 56 4 v n (tcells l)) (hn : n = l.length) (hok : OkS ⟨l, 0, 0⟩) : ∃ a c, v = .slice a n c ∧ At w.heap.size 0 ⟨l, 0, 0⟩ (w.alloc (.cells (pcs a n c) 44)) := by
  subst hn
  have hp := hok.pos
  simp only at hp
  rcases h.2 with ⟨-, h0⟩ | ⟨g, cap, cur, rfl, -, hg, hc, hm, hs, ht⟩
  · omega
  · refine ⟨_, _, rfl, hok, ⟨some ⟨g, 0, none⟩, l.length, cap⟩, heap_alloc_new w _, g, 0, cur, rfl, ?_, ?_, ?_, hc⟩
    · have := (Array.getElem?_eq_some_iff.1 hg).1; omega
    · exact (heap_alloc_old w _ (Array.getElem?_eq_some_iff.1 hg).1).trans hg
    · intro j u hj
      have := (h.alloc (.cells #[.slice (some ⟨g, 0, none⟩) l.length cap, .int .i64 0, .int .i64 0, .int .i64 0] 44)).cells (g := g) rfl j u hj
      have e : (⟨g, 0, none⟩ : Addr).add j = ⟨g, j, none⟩ := by unfold Addr.add; split <;> simp_all
      rw [e] at this
      rw [Nat.zero_add]
      exact this

attribute [local go_sem ↓] ldK stK alK bdK bsK ldN stN alN bdN bsN alP stP bdP
attribute [local irreducible] pcs
attribute [local go_sem] run_alP run_bdP
set_option maxRecDepth 100000 in
set_option maxHeartbeats 4000000 in
theorem parse_bad (a0 : Option Addr) (n0 c0 : Nat) (s : ByteArray) (w : World) (h : Calls Tryz.prog 13 #[.slice a0 n0 c0] (w.alloc (.cells (ncs zeroN) 27)) (TokPost s (w.alloc (.cells (ncs zeroN) 27)))) (he : (lexT s).1 ≠ 0) :
    Calls Tryz.prog 9 #[.slice a0 n0 c0] w (ParsePost s w) := by
  have e1 : (((lexT s).1 : Int) != 0) = true := by simpa using he
  have e2 : parseF s = (zeroT, (((lexT s).2.1 : Nat) : Int), (((lexT s).1 : Nat) : Int)) := by unfold parseF; rw [if_neg he]
  unfold TokPost at h
  generalize (lexT s).2.1 = p at h e1 e2
  generalize (lexT s).1 = q at h e1 e2 he
  generalize (lexT s).2.2 = l at h
  have HE2 := Lib.hid e2
  clear he e2
  go_enter Tryz.func9, Tryz.ntmps9
  go_wp2_with (go_at_call 13; (with_reducible refine h.mono ?_); rintro e w1 ⟨v, rfl, hown, hb⟩; have B1 := (Blk.new w (ncs zeroN) 27).call hb; have s1 := run_stN (t := zeroN) B1; have HB := Lib.hid hb; have HB1 := Lib.hid B1; clear hown hb B1)
  refine bodyPost_ret (res_NII rfl _ _ w.heap.size zeroN _ _ rfl rfl rfl (HB1.out.row _)) rfl ⟨zeroN, by rw [HE2.out]; rfl, ?_, ?_⟩
  · rw [HE2.out]
    exact Rep.nil _ _ _ _ _
  · exact below_row (bel1.trans (HB.out.mono (by simp))) _ (Nat.le_refl _)

set_option maxRecDepth 100000 in
set_option maxHeartbeats 4000000 in
theorem parse_good (a0 : Option Addr) (n0 c0 : Nat) (s : ByteArray) (w : World) (hX : Gp w) (h : Calls Tryz.prog 13 #[.slice a0 n0 c0] (w.alloc (.cells (ncs zeroN) 27)) (TokPost s (w.alloc (.cells (ncs zeroN) 27)))) (he : (lexT s).1 = 0) :
    Calls Tryz.prog 9 #[.slice a0 n0 c0] w (ParsePost s w) := by
  have e2 : parseF s = treeF (lexT s).2.2 := by unfold parseF; rw [if_pos he]
  have hok := lexT_ok he
  unfold TokPost at h
  rw [he] at h
  generalize (lexT s).2.1 = p at h
  generalize (lexT s).2.2 = l at h e2 hok
  obtain ⟨X, hXe⟩ : ∃ X, stmtsF (lowF 100) endF (l.length + 1) ⟨l, 0, 0⟩ = X := ⟨_, rfl⟩
  have hmf := mkFn
  have HE2 := Lib.hid e2
  have HOK := Lib.hid hok
  have HX := Lib.hid hX
  have HXE := Lib.hid hXe
  clear he e2 hok hX hXe
  go_enter Tryz.func9, Tryz.ntmps9
  go_wp2_with (go_at_call 13; (with_reducible refine h.mono ?_); rintro e w1 ⟨v, rfl, hown, hb⟩; obtain ⟨a1, c1, rfl, hAt⟩ := at_new hown rfl HOK.out; refine Hid.out ?_)
  refine Lib.hid ?_
  have hB1 := (Blk.new w (ncs zeroN) 27).call hb
  have hbw : Below w.heap.size w w1 := bel1.trans (hb.mono (by simp))
  have hlt : w.heap.size < w1.heap.size := hB1.lt
  have hX1 := HX.out.below hbw
  have E0 := Env.start hAt ((hX1.below (bel1 (o := .cells (pcs a1 l.length c1) 44))).gx (g := w1.heap.size) (by have := HX.out.sz; omega))
  have c2 := stmts_end (low_ok 100 (Nat.le_refl _)) E0.at_ E0.gx (fun s' W hg ha => atEnd_any ha)
  have hfin : ∀ k : Int, PostL w1.heap.size (100 - 100) (w1.alloc (.cells (pcs a1 l.length c1) 44)) (stmtsF (lowF 100) endF (l.length + 1) ⟨l, 0, 0⟩) = PostL w1.heap.size 0 (w1.alloc (.cells (pcs a1 l.length c1) 44)) X := fun _ => by rw [HXE.out]
  have c3 : Calls Tryz.prog 15 #[.pointer (some ⟨w1.heap.size, 0, none⟩), .func (.func 16) #[.pointer (some ⟨w1.heap.size, 0, none⟩)] #[]] (w1.alloc (.cells (pcs a1 l.length c1) 44)) (PostL w1.heap.size 0 (w1.alloc (.cells (pcs a1 l.length c1) 44)) X) := by
    rw [← HXE.out]
    exact c2
  have sp := fun o ho => run_stP w1 a1 l.length c1 o ho
  have sp0 := sp (pcs none 0 0) (pcs_size _ _ _)
  have hr0 := hB1.old (.cells (pcs a1 l.length c1) 44)
  have HE0 := Lib.hid E0
  have HB1 := Lib.hid hr0
  have HBW := Lib.hid (hbw.trans ((bel1 (o := .cells (pcs a1 l.length c1) 44)).mono (Nat.le_of_lt hlt)))
  have htree : treeF l = if X.2.fault = 0 then (node 44 X.1, 0, 0) else (zeroT, X.2.pos, X.2.fault) := by
    unfold treeF
    rw [HXE.out]
  have HT := Lib.hid (HE2.out.trans htree)
  clear hown hb hAt E0 c2 hfin sp hr0 hB1 hbw hX1 htree h
  by_cases hf : X.2.fault = 0
  · have e0 : (X.2.fault == 0) = true := by rw [hf]; rfl
    have HF := Lib.hid hf
    clear hf
    go_wp2_with (first | (go_at_call 15; (with_reducible refine c3.mono ?_); intro e w2 hp; have hb2 := HB1.out.gb hp.gb (by omega); obtain ⟨S2, rfl, E2⟩ := HE0.out.callL hp 44 0 noS; have sg := run_stNk (W := w2.alloc (.cells (ncs (kidN 44 ⟨S2.a, S2.n, S2.c⟩)) 27)) (b := w2.heap.size + 1) (by simp); have E3 := (E2.alloc (.cells (ncs (kidN 44 ⟨S2.a, S2.n, S2.c⟩)) 27)).newAt (kidN 44 ⟨S2.a, S2.n, S2.c⟩) (b := w2.heap.size + 1) (by simp); have c4 := failed_any E3.at_; rw [e0] at c4; have HB2 := Lib.hid ((hb2.old (.cells (ncs (kidN 44 ⟨S2.a, S2.n, S2.c⟩)) 27)).old (.cells (ncs (kidN 44 ⟨S2.a, S2.n, S2.c⟩)) 27)); have HE3 := Lib.hid E3; clear hp E2 E3 hb2) | (go_at_call 14; (with_reducible refine (node_any _ _ _ _ _).mono ?_); rintro e wn ⟨rfl, rfl⟩) | (go_at_call 17; (with_reducible refine c4.mono ?_); intro e w4 hp; have hb4 := HB2.out.call hp.2; obtain ⟨rfl, E4⟩ := HE3.out.callR hp; have l4 := E4.ld 0 rfl; have s4 := run_stN (t := kidN 44 ⟨S2.a, S2.n, S2.c⟩) hb4; have HB4 := Lib.hid hb4; have HE4 := Lib.hid E4; clear hp E4 hb4))
    have hT := HT.out
    rw [if_pos HF.out] at hT
    refine bodyPost_ret (res_NII rfl _ _ w.heap.size _ _ _ rfl rfl rfl (HB4.out.row _)) rfl ⟨_, by rw [hT]; rfl, ?_, ?_⟩
    · rw [hT]
      refine Rep.keep (fun b hb hS => ⟨?_, setRow_other _ _ _ _ ?_⟩) _ _ (HE4.out.rp _ List.mem_cons_self)
      · have h1 := hS.1.resolve_left id
        simp at h1
        show w.heap.size ≤ b
        omega
      · have h1 := hS.1.resolve_left id
        simp at h1
        omega
    · exact below_row (GB.below HBW.out HE4.out.gb (by simp; omega) (by omega)) _ (Nat.le_refl _)
  · have e0 : (X.2.fault == 0) = false := by simpa using hf
    have HF := Lib.hid hf
    clear hf
    go_wp2_with (first | (go_at_call 15; (with_reducible refine c3.mono ?_); intro e w2 hp; have hb2 := HB1.out.gb hp.gb (by omega); obtain ⟨S2, rfl, E2⟩ := HE0.out.callL hp 44 0 noS; have sg := run_stNk (W := w2.alloc (.cells (ncs (kidN 44 ⟨S2.a, S2.n, S2.c⟩)) 27)) (b := w2.heap.size + 1) (by simp); have E3 := (E2.alloc (.cells (ncs (kidN 44 ⟨S2.a, S2.n, S2.c⟩)) 27)).newAt (kidN 44 ⟨S2.a, S2.n, S2.c⟩) (b := w2.heap.size + 1) (by simp); have c4 := failed_any E3.at_; rw [e0] at c4; have HB2 := Lib.hid ((hb2.old (.cells (ncs (kidN 44 ⟨S2.a, S2.n, S2.c⟩)) 27)).old (.cells (ncs (kidN 44 ⟨S2.a, S2.n, S2.c⟩)) 27)); have HE3 := Lib.hid E3; clear hp E2 E3 hb2) | (go_at_call 14; (with_reducible refine (node_any _ _ _ _ _).mono ?_); rintro e wn ⟨rfl, rfl⟩) | (go_at_call 17; (with_reducible refine c4.mono ?_); intro e w4 hp; have hb4 := HB2.out.call hp.2; obtain ⟨rfl, E4⟩ := HE3.out.callR hp; obtain ⟨bq, oq, cq, d0, d1, d2, d3, dz, -⟩ := E4.at_.cells; have s4 := run_stN (w := w4.drew) (t := zeroN) (hb4.drew); have k2 : (w4.drew.setRow w.heap.size (ncs zeroN)).cell? ⟨w1.heap.size, 2, none⟩ = some (.int .i64 X.2.pos) := (by rw [World.cell?_of_block (w := w4) (setRow_other w4.drew _ _ _ (by show w1.heap.size ≠ _; omega))]; exact d2); have k3 : (w4.drew.setRow w.heap.size (ncs zeroN)).cell? ⟨w1.heap.size, 3, none⟩ = some (.int .i64 X.2.fault) := (by rw [World.cell?_of_block (w := w4) (setRow_other w4.drew _ _ _ (by show w1.heap.size ≠ _; omega))]; exact d3); have HB4 := Lib.hid hb4; have HE4 := Lib.hid E4; clear hp E4 hb4))
    go_region
    all_goals go_wp2
    have hT := HT.out
    rw [if_neg HF.out] at hT
    all_goals exact bodyPost_ret (res_NII rfl _ _ w.heap.size zeroN _ _ rfl rfl rfl (HB4.out.drew.row _)) rfl ⟨zeroN, by rw [hT]; rfl, by rw [hT]; exact Rep.nil _ _ _ _ _, below_row ((GB.below HBW.out HE4.out.gb (by simp; omega) (by omega)).drew) _ (Nat.le_refl _)⟩

theorem parse_any (a0 : Option Addr) (n0 c0 : Nat) (s : ByteArray) (w : World) (hX : Gp w) (h : Calls Tryz.prog 13 #[.slice a0 n0 c0] (w.alloc (.cells (ncs zeroN) 27)) (TokPost s (w.alloc (.cells (ncs zeroN) 27)))) :
    Calls Tryz.prog 9 #[.slice a0 n0 c0] w (ParsePost s w) := by
  by_cases he : (lexT s).1 = 0
  · exact parse_good a0 n0 c0 s w hX h he
  · exact parse_bad a0 n0 c0 s w h he
end Go.Proofs.YtocebhaaamnfiaaGreatDoor.Pa
