/-
  Texts of this seat in build order: PaParse, PaSame.
-/
import Derived.Test.YtkknglmpdmhhjaaGreatDoorMg33
/-
  parse.Parse.
-/
namespace Go.Proofs.YtkknglmpdmhhjaaGreatDoor.Pa
open Go Go.RowKit Go.Proofs.YtkknglmpdmhhjaaGreatDoor.Lx Go.Proofs.YtkknglmpdmhhjaaGreatDoor.Uni
set_option linter.unusedVariables false
set_option linter.unusedSimpArgs false
attribute [local irreducible] kcs ncs ncells
attribute [local go_sem] run_alK run_bdK0 run_bdKs run_bdKn run_bdKe run_bsK run_fdK0 run_fdK1 run_fdK2 run_fdK3 run_fdN4 run_alN run_stNg run_ldNg run_bdN0 run_bdN04 run_bdN02 run_bdN01 run_bdN024 run_bdN03 run_bdN0234 run_bsN1 run_bsN2 run_bsN3

/-- What Parse leaves. -/
def ParsePost (s : ByteArray) (w : World) (e : Ending) (w' : World) : Prop :=
  ∃ N, e = .returned (.tuple #[.agg (ncs N), .int .i64 (parseF s).2.1, .int .i64 (parseF s).2.2]) ∧ Rep (w.heap.size ≤ ·) w' (parseF s).1 N ∧ Below w.heap.size w w'
/-- The world's facts that Parse needs. -/
structure Gp (w : World) : Prop where
  fa : Fa w
  lv : w.rangeAt 2 0 lvL
  sz : 8 ≤ w.heap.size
theorem Gp.below {w w' : World} (h : Gp w) (hb : Below w.heap.size w w') : Gp w' :=
  ⟨h.fa.below hb, fun j v hj => cell_keep (h.lv j v hj) (fun hl => hb.block _ hl), Nat.le_trans h.sz hb.size⟩
theorem Gp.gx {w : World} (h : Gp w) {g : Nat} (hg : 8 ≤ g) : Gx g w := ⟨h.fa, h.lv, hg⟩
/-- The results: a node in a cell, and two numbers. -/
theorem res_NII {fn : Func} {p q r : Tmp} (h : fn.results = #[.cell p 27, .tmp q, .tmp r]) (tmps : Array Value) (w : World) (g : Nat) (t : Nd) (a b : Value) (hp : tmps.getD p undef = .pointer (some ⟨g, 0, none⟩)) (hq : tmps.getD q undef = a) (hr : tmps.getD r undef = b) {T : TypeId} (hv : Blk w g (ncs t) T) : (results fn tmps).run Tryz.prog w = .ok (.tuple #[.agg (ncs t), a, b]) w := by
  have e1 := run_loadVar_row (P := Tryz.prog) w g T 27 (ncs t) (0, 0) _ hv Tryz.underlying27 rfl (by rw [ncs_size]; exact sizeN)
  have hp' : tmps[p]?.getD undef = .pointer (some ⟨g, 0, none⟩) := by simpa using hp
  have hq' : tmps[q]?.getD undef = a := by simpa using hq
  have hr' : tmps[r]?.getD undef = b := by simpa using hr
  simp only [results, h]
  simp [Sem.run_bind, Result.andThen, hp', hq', hr', asAddr, e1]
/-! ### The parser's own block -/
def pcs (a : Option Addr) (n c : Nat) : Array Value := #[.slice a n c, .int .i64 0, .int .i64 0, .int .i64 0]
theorem alP : Instr.alloc 44 true (.tuple #[]) = Al 44 := (rfl)
theorem stP (p v : Value) : Instr.storeAt 44 p v = Lx.St 44 p v := (rfl)
theorem bdP (ps : Array (Nat × Value)) : Instr.build 44 ps = Bd 44 ps := (rfl)
theorem infoP : (Tryz.prog.info? 44).map (fun i => (i.zero, i.size)) = some (some (.agg (pcs none 0 0)), 4) := by kernel_rfl
theorem sizeP : (Tryz.prog.info? 44).map (·.size) = some 4 := by kernel_rfl
theorem run_alP (w : World) : (Al 44).run Tryz.prog w = .ok (ptr w.heap.size) (w.alloc (.cells (pcs none 0 0) 44)) := run_al infoP w
theorem run_bdP (w : World) (a : Option Addr) (n c : Nat) : (Bd 44 #[(0, .slice a n c)]).run Tryz.prog w = .ok (.agg (pcs a n c)) w := run_build w _ _ _ (by kernel_rfl)
theorem run_stP (w : World) (a : Option Addr) (n c : Nat) (o : Array Value) (ho : o.size = 4) : (Lx.St 44 (.pointer (some ⟨w.heap.size, 0, none⟩)) (.agg (pcs a n c))).run Tryz.prog (w.alloc (.cells o 44)) = .ok () (w.alloc (.cells (pcs a n c) 44)) := by
  rw [run_st_row (Blk.new w o _) (by exact sizeP) (by rw [ho]; rfl) (by simp [pcs, Value.oneCell']), setRow_new]
theorem pcs_size (a : Option Addr) (n c : Nat) : (pcs a n c).size = 4 := rfl
/-- The parser over tokens that were just made. -/
theorem at_new {w : World} {base n : Nat} {v : Value} {l : List Tok} (h : w.ownsRow base 79 4 v n (tcells l)) (hn : n = l.length) (hok : OkS ⟨l, 0, 0⟩) : ∃ a c, v = .slice a n c ∧ At w.heap.size 0 ⟨l, 0, 0⟩ (w.alloc (.cells (pcs a n c) 44)) := by
  subst hn
  have hp := hok.pos
  simp only at hp
  rcases h.2 with ⟨-, h0⟩ | ⟨g, cap, cur, rfl, -, hg, hc, hm, hs, ht⟩
  · omega
  · refine ⟨_, _, rfl, hok, ⟨some ⟨g, 0, none⟩, l.length, cap⟩, heap_alloc_new w _, g, 0, cur, rfl, ?_, ?_, ?_, hc⟩
    · have := (Array.getElem?_eq_some_iff.1 hg).1; omega
    · exact (heap_alloc_old w _ (Array.getElem?_eq_some_iff.1 hg).1).trans hg
    · intro j u hj
      have := (h.alloc (.cells #[.slice (some ⟨g, 0, none⟩) l.length cap, .int .i64 0, .int .i64 0, .int .i64 0] 44)).cells (g := g) rfl j u hj
      have e : (⟨g, 0, none⟩ : Addr).add j = ⟨g, j, none⟩ := by unfold Addr.add; split <;> simp_all
      rw [e] at this
      rw [Nat.zero_add]
      exact this

attribute [local go_sem ↓] ldK stK alK bdK bsK ldN stN alN bdN bsN alP stP bdP
attribute [local irreducible] pcs
attribute [local go_sem] run_alP run_bdP
set_option maxRecDepth 100000 in
set_option maxHeartbeats 4000000 in
theorem parse_bad (a0 : Option Addr) (n0 c0 : Nat) (s : ByteArray) (w : World) (h : Calls Tryz.prog 21 #[.slice a0 n0 c0] (w.alloc (.cells (ncs zeroN) 27)) (TokPost s (w.alloc (.cells (ncs zeroN) 27)))) (he : (lexT s).1 ≠ 0) :
    Calls Tryz.prog 10 #[.slice a0 n0 c0] w (ParsePost s w) := by
  have e1 : (((lexT s).1 : Int) != 0) = true := by simpa using he
  have e2 : parseF s = (zeroT, (((lexT s).2.1 : Nat) : Int), (((lexT s).1 : Nat) : Int)) := by unfold parseF; rw [if_neg he]
  unfold TokPost at h
  generalize (lexT s).2.1 = p at h e1 e2
  generalize (lexT s).1 = q at h e1 e2 he
  generalize (lexT s).2.2 = l at h
  have HE2 := Lib.hid e2
  clear he e2
  go_enter Tryz.func10, Tryz.ntmps10
  go_wp2_with (go_at_call 21; (with_reducible refine h.mono ?_); rintro e w1 ⟨v, rfl, hown, hb⟩; have B1 := (Blk.new w (ncs zeroN) 27).call hb; have s1 := run_stN (t := zeroN) B1; have HB := Lib.hid hb; have HB1 := Lib.hid B1; clear hown hb B1)
  refine bodyPost_ret (res_NII rfl _ _ w.heap.size zeroN _ _ rfl rfl rfl (HB1.out.row _)) rfl ⟨zeroN, by rw [HE2.out]; rfl, ?_, ?_⟩
  · rw [HE2.out]
    exact Rep.nil _ _ _ _ _
  · exact below_row (bel1.trans (HB.out.mono (by simp))) _ (Nat.le_refl _)

set_option maxRecDepth 100000 in
set_option maxHeartbeats 4000000 in
theorem parse_good (a0 : Option Addr) (n0 c0 : Nat) (s : ByteArray) (w : World) (hX : Gp w) (h : Calls Tryz.prog 21 #[.slice a0 n0 c0] (w.alloc (.cells (ncs zeroN) 27)) (TokPost s (w.alloc (.cells (ncs zeroN) 27)))) (he : (lexT s).1 = 0) :
    Calls Tryz.prog 10 #[.slice a0 n0 c0] w (ParsePost s w) := by
  have e2 : parseF s = treeF (lexT s).2.2 := by unfold parseF; rw [if_pos he]
  have hok := lexT_ok he
  unfold TokPost at h
  rw [he] at h
  generalize (lexT s).2.1 = p at h
  generalize (lexT s).2.2 = l at h e2 hok
  obtain ⟨X, hXe⟩ : ∃ X, stmtsF (lowF 100) endF (l.length + 1) ⟨l, 0, 0⟩ = X := ⟨_, rfl⟩
  have hmf := mkFn
  have HE2 := Lib.hid e2
  have HOK := Lib.hid hok
  have HX := Lib.hid hX
  have HXE := Lib.hid hXe
  clear he e2 hok hX hXe
  go_enter Tryz.func10, Tryz.ntmps10
  go_wp2_with (go_at_call 21; (with_reducible refine h.mono ?_); rintro e w1 ⟨v, rfl, hown, hb⟩; obtain ⟨a1, c1, rfl, hAt⟩ := at_new hown rfl HOK.out; refine Hid.out ?_)
  refine Lib.hid ?_
  have hB1 := (Blk.new w (ncs zeroN) 27).call hb
  have hbw : Below w.heap.size w w1 := bel1.trans (hb.mono (by simp))
  have hlt : w.heap.size < w1.heap.size := hB1.lt
  have hX1 := HX.out.below hbw
  have E0 := Env.start hAt ((hX1.below (bel1 (o := .cells (pcs a1 l.length c1) 44))).gx (g := w1.heap.size) (by have := HX.out.sz; omega))
  have c2 := stmts_end (low_ok 100 (Nat.le_refl _)) E0.at_ E0.gx (fun s' W hg ha => atEnd_any ha)
  have hfin : ∀ k : Int, PostL w1.heap.size (100 - 100) (w1.alloc (.cells (pcs a1 l.length c1) 44)) (stmtsF (lowF 100) endF (l.length + 1) ⟨l, 0, 0⟩) = PostL w1.heap.size 0 (w1.alloc (.cells (pcs a1 l.length c1) 44)) X := fun _ => by rw [HXE.out]
  have c3 : Calls Tryz.prog 23 #[.pointer (some ⟨w1.heap.size, 0, none⟩), .func (.func 24) #[.pointer (some ⟨w1.heap.size, 0, none⟩)] #[]] (w1.alloc (.cells (pcs a1 l.length c1) 44)) (PostL w1.heap.size 0 (w1.alloc (.cells (pcs a1 l.length c1) 44)) X) := by
    rw [← HXE.out]
    exact c2
  have sp := fun o ho => run_stP w1 a1 l.length c1 o ho
  have sp0 := sp (pcs none 0 0) (pcs_size _ _ _)
  have hr0 := hB1.old (.cells (pcs a1 l.length c1) 44)
  have HE0 := Lib.hid E0
  have HB1 := Lib.hid hr0
  have HBW := Lib.hid (hbw.trans ((bel1 (o := .cells (pcs a1 l.length c1) 44)).mono (Nat.le_of_lt hlt)))
  have htree : treeF l = if X.2.fault = 0 then (node 44 X.1, 0, 0) else (zeroT, X.2.pos, X.2.fault) := by
    unfold treeF
    rw [HXE.out]
  have HT := Lib.hid (HE2.out.trans htree)
  clear hown hb hAt E0 c2 hfin sp hr0 hB1 hbw hX1 htree h
  by_cases hf : X.2.fault = 0
  · have e0 : (X.2.fault == 0) = true := by rw [hf]; rfl
    have HF := Lib.hid hf
    clear hf
    go_wp2_with (first | (go_at_call 23; (with_reducible refine c3.mono ?_); intro e w2 hp; have hb2 := HB1.out.gb hp.gb (by omega); obtain ⟨S2, rfl, E2⟩ := HE0.out.callL hp 44 0 noS; have sg := run_stNk (W := w2.alloc (.cells (ncs (kidN 44 ⟨S2.a, S2.n, S2.c⟩)) 27)) (b := w2.heap.size + 1) (by simp); have E3 := (E2.alloc (.cells (ncs (kidN 44 ⟨S2.a, S2.n, S2.c⟩)) 27)).newAt (kidN 44 ⟨S2.a, S2.n, S2.c⟩) (b := w2.heap.size + 1) (by simp); have c4 := failed_any E3.at_; rw [e0] at c4; have HB2 := Lib.hid ((hb2.old (.cells (ncs (kidN 44 ⟨S2.a, S2.n, S2.c⟩)) 27)).old (.cells (ncs (kidN 44 ⟨S2.a, S2.n, S2.c⟩)) 27)); have HE3 := Lib.hid E3; clear hp E2 E3 hb2) | (go_at_call 22; (with_reducible refine (node_any _ _ _ _ _).mono ?_); rintro e wn ⟨rfl, rfl⟩) | (go_at_call 25; (with_reducible refine c4.mono ?_); intro e w4 hp; have hb4 := HB2.out.call hp.2; obtain ⟨rfl, E4⟩ := HE3.out.callR hp; have l4 := E4.ld 0 rfl; have s4 := run_stN (t := kidN 44 ⟨S2.a, S2.n, S2.c⟩) hb4; have HB4 := Lib.hid hb4; have HE4 := Lib.hid E4; clear hp E4 hb4))
    have hT := HT.out
    rw [if_pos HF.out] at hT
    refine bodyPost_ret (res_NII rfl _ _ w.heap.size _ _ _ rfl rfl rfl (HB4.out.row _)) rfl ⟨_, by rw [hT]; rfl, ?_, ?_⟩
    · rw [hT]
      refine Rep.keep (fun b hb hS => ⟨?_, setRow_other _ _ _ _ ?_⟩) _ _ (HE4.out.rp _ List.mem_cons_self)
      · have h1 := hS.1.resolve_left id
        simp at h1
        show w.heap.size ≤ b
        omega
      · have h1 := hS.1.resolve_left id
        simp at h1
        omega
    · exact below_row (GB.below HBW.out HE4.out.gb (by simp; omega) (by omega)) _ (Nat.le_refl _)
  · have e0 : (X.2.fault == 0) = false := by simpa using hf
    have HF := Lib.hid hf
    clear hf
    go_wp2_with (first | (go_at_call 23; (with_reducible refine c3.mono ?_); intro e w2 hp; have hb2 := HB1.out.gb hp.gb (by omega); obtain ⟨S2, rfl, E2⟩ := HE0.out.callL hp 44 0 noS; have sg := run_stNk (W := w2.alloc (.cells (ncs (kidN 44 ⟨S2.a, S2.n, S2.c⟩)) 27)) (b := w2.heap.size + 1) (by simp); have E3 := (E2.alloc (.cells (ncs (kidN 44 ⟨S2.a, S2.n, S2.c⟩)) 27)).newAt (kidN 44 ⟨S2.a, S2.n, S2.c⟩) (b := w2.heap.size + 1) (by simp); have c4 := failed_any E3.at_; rw [e0] at c4; have HB2 := Lib.hid ((hb2.old (.cells (ncs (kidN 44 ⟨S2.a, S2.n, S2.c⟩)) 27)).old (.cells (ncs (kidN 44 ⟨S2.a, S2.n, S2.c⟩)) 27)); have HE3 := Lib.hid E3; clear hp E2 E3 hb2) | (go_at_call 22; (with_reducible refine (node_any _ _ _ _ _).mono ?_); rintro e wn ⟨rfl, rfl⟩) | (go_at_call 25; (with_reducible refine c4.mono ?_); intro e w4 hp; have hb4 := HB2.out.call hp.2; obtain ⟨rfl, E4⟩ := HE3.out.callR hp; obtain ⟨bq, oq, cq, d0, d1, d2, d3, dz, -⟩ := E4.at_.cells; have s4 := run_stN (w := w4.drew) (t := zeroN) (hb4.drew); have k2 : (w4.drew.setRow w.heap.size (ncs zeroN)).cell? ⟨w1.heap.size, 2, none⟩ = some (.int .i64 X.2.pos) := (by rw [World.cell?_of_block (w := w4) (setRow_other w4.drew _ _ _ (by show w1.heap.size ≠ _; omega))]; exact d2); have k3 : (w4.drew.setRow w.heap.size (ncs zeroN)).cell? ⟨w1.heap.size, 3, none⟩ = some (.int .i64 X.2.fault) := (by rw [World.cell?_of_block (w := w4) (setRow_other w4.drew _ _ _ (by show w1.heap.size ≠ _; omega))]; exact d3); have HB4 := Lib.hid hb4; have HE4 := Lib.hid E4; clear hp E4 hb4))
    go_region
    all_goals go_wp2
    have hT := HT.out
    rw [if_neg HF.out] at hT
    all_goals exact bodyPost_ret (res_NII rfl _ _ w.heap.size zeroN _ _ rfl rfl rfl (HB4.out.drew.row _)) rfl ⟨zeroN, by rw [hT]; rfl, by rw [hT]; exact Rep.nil _ _ _ _ _, below_row ((GB.below HBW.out HE4.out.gb (by simp; omega) (by omega)).drew) _ (Nat.le_refl _)⟩

theorem parse_any (a0 : Option Addr) (n0 c0 : Nat) (s : ByteArray) (w : World) (hX : Gp w) (h : Calls Tryz.prog 21 #[.slice a0 n0 c0] (w.alloc (.cells (ncs zeroN) 27)) (TokPost s (w.alloc (.cells (ncs zeroN) 27)))) :
    Calls Tryz.prog 10 #[.slice a0 n0 c0] w (ParsePost s w) := by
  by_cases he : (lexT s).1 = 0
  · exact parse_good a0 n0 c0 s w hX h he
  · exact parse_bad a0 n0 c0 s w h he
end Go.Proofs.YtkknglmpdmhhjaaGreatDoor.Pa

/-
  The reference's SameNode, SameNodes, SameTexts at trees in memory.
-/
namespace Go.Proofs.YtkknglmpdmhhjaaGreatDoor.Pa
open Go Go.RowKit Go.Proofs.YtkknglmpdmhhjaaGreatDoor.Lx Go.Proofs.YtkknglmpdmhhjaaGreatDoor.Uni
set_option linter.unusedVariables false
set_option linter.unusedSimpArgs false

mutual
def sameT : Tree → Tree → Bool
  | .mk k n t ns ks, .mk k' n' t' ns' ks' => k == k' && (n == n' && (eqT t t' && (sameS ns ns' && sameTs ks ks')))
def sameTs : List Tree → List Tree → Bool
  | [], [] => true
  | a :: l, b :: m => sameT a b && sameTs l m
  | _, _ => false
def sameS : List ByteArray → List ByteArray → Bool
  | [], [] => true
  | a :: l, b :: m => eqT a b && sameS l m
  | _, _ => false
end
mutual
def Tree.sz : Tree → Nat
  | .mk _ _ _ _ ks => 1 + szs ks
def szs : List Tree → Nat
  | [] => 0
  | a :: l => a.sz + szs l
end
theorem szs_at : ∀ {ts : List Tree} {i : Nat} {t : Tree}, ts[i]? = some t → t.sz ≤ szs ts
  | [], i, t, h => by simp at h
  | a :: l, 0, t, h => by
    simp at h; subst h
    unfold szs; omega
  | a :: l, i + 1, t, h => by
    simp at h
    have := szs_at h
    unfold szs; omega
theorem sameTs_len : ∀ {ts us : List Tree}, ts.length ≠ us.length → sameTs ts us = false
  | [], [], h => absurd rfl h
  | [], _ :: _, _ => by unfold sameTs; rfl
  | _ :: _, [], _ => by unfold sameTs; rfl
  | a :: l, b :: m, h => by
    unfold sameTs
    rw [sameTs_len (by simpa using h), Bool.and_false]
theorem sameS_len : ∀ {ts us : List ByteArray}, ts.length ≠ us.length → sameS ts us = false
  | [], [], h => absurd rfl h
  | [], _ :: _, _ => by unfold sameS; rfl
  | _ :: _, [], _ => by unfold sameS; rfl
  | a :: l, b :: m, h => by
    unfold sameS
    rw [sameS_len (by simpa using h), Bool.and_false]
theorem sameTs_step {ts us : List Tree} {i : Nat} {t u : Tree} (h : ts[i]? = some t) (k : us[i]? = some u) : sameTs (ts.drop i) (us.drop i) = (sameT t u && sameTs (ts.drop (i + 1)) (us.drop (i + 1))) := by
  have e1 : ts.drop i = t :: ts.drop (i + 1) := by
    obtain ⟨hl, rfl⟩ := List.getElem?_eq_some_iff.1 h
    exact List.drop_eq_getElem_cons hl
  have e2 : us.drop i = u :: us.drop (i + 1) := by
    obtain ⟨hl, rfl⟩ := List.getElem?_eq_some_iff.1 k
    exact List.drop_eq_getElem_cons hl
  rw [e1, e2]
  conv => lhs; unfold sameTs
theorem sameS_step {ts us : List ByteArray} {i : Nat} {t u : ByteArray} (h : ts[i]? = some t) (k : us[i]? = some u) : sameS (ts.drop i) (us.drop i) = (eqT t u && sameS (ts.drop (i + 1)) (us.drop (i + 1))) := by
  have e1 : ts.drop i = t :: ts.drop (i + 1) := by
    obtain ⟨hl, rfl⟩ := List.getElem?_eq_some_iff.1 h
    exact List.drop_eq_getElem_cons hl
  have e2 : us.drop i = u :: us.drop (i + 1) := by
    obtain ⟨hl, rfl⟩ := List.getElem?_eq_some_iff.1 k
    exact List.drop_eq_getElem_cons hl
  rw [e1, e2]
  conv => lhs; unfold sameS

theorem Row.n {S : Nat → Prop} {w : World} {e size n : Nat} {s : Sl} {xs : List Value} (h : Row S w e size s n xs) : s.n = n := by
  rcases h.1.2 with ⟨h1, h2⟩ | ⟨g, cap, cur, h1, -⟩
  · unfold Sl.v at h1
    simp at h1
    omega
  · unfold Sl.v at h1
    simp at h1
    exact h1.2.1
/-- The cells of a list that has some. -/
theorem Row.at {S : Nat → Prop} {w : World} {e size n : Nat} {s : Sl} {xs : List Value} (h : Row S w e size s n xs) (hn : 0 < n) : ∃ g c, s = ⟨some ⟨g, 0, none⟩, n, c⟩ ∧ n ≤ c ∧ ∀ j v, xs[j]? = some v → w.cell? ⟨g, j, none⟩ = some v := by
  have hc := fun g => World.ownsRow.cells h.1 (g := g)
  rcases h.1.2 with ⟨h1, h2⟩ | ⟨g, cap, cur, h1, h2, h3, h4, -⟩
  · omega
  · refine ⟨g, cap, ?_, h4, fun j v hj => ?_⟩
    · cases s
      unfold Sl.v at h1
      simp at h1
      obtain ⟨rfl, rfl, rfl⟩ := h1
      rfl
    · have := hc g (by rw [h1]; rfl) j v hj
      have e : (⟨g, 0, none⟩ : Addr).add j = ⟨g, j, none⟩ := by unfold Addr.add; split <;> simp_all
      rwa [e] at this
theorem ncells_at : ∀ {xs : List Nd} {i : Nat} {x : Nd} {j : Nat} {v : Value}, xs[i]? = some x → (ncs x).toList[j]? = some v → (ncells xs)[i * 5 + j]? = some v
  | [], i, x, j, v, h, _ => by simp at h
  | a :: l, 0, x, j, v, h, k => by
    simp at h; subst h
    have e : ncells (a :: l) = (ncs a).toList ++ ncells l := rfl
    rw [e, List.getElem?_append_left (by have := (List.getElem?_eq_some_iff.1 k).1; omega), Nat.zero_mul, Nat.zero_add]
    exact k
  | a :: l, i + 1, x, j, v, h, k => by
    simp at h
    have e : ncells (a :: l) = (ncs a).toList ++ ncells l := rfl
    rw [e, List.getElem?_append_right (by rw [ncs_list]; omega), ncs_list, show (i + 1) * 5 + j - 5 = i * 5 + j from by omega]
    exact ncells_at h k
theorem Reps.at {S : Nat → Prop} {w : World} : ∀ {ts : List Tree} {xs : List Nd} {i : Nat} {t : Tree}, Reps S w ts xs → ts[i]? = some t → ∃ x, xs[i]? = some x ∧ Rep S w t x
  | [], _, i, t, _, h => by simp at h
  | t1 :: ts, [], i, t, h, _ => by unfold Reps at h; exact h.elim
  | t1 :: ts, x1 :: xs, 0, t, h, k => by
    unfold Reps at h
    simp at k; subst k
    exact ⟨x1, rfl, h.1⟩
  | t1 :: ts, x1 :: xs, i + 1, t, h, k => by
    unfold Reps at h
    simp at k
    obtain ⟨x, h3, h4⟩ := Reps.at h.2 k
    exact ⟨x, h3, h4⟩
theorem run_ldNm {w : World} {b o : Nat} {t : Nd} (h : w.rangeAt b o (ncs t).toList) : (Ld 27 (.pointer (some ⟨b, o, none⟩))).run Tryz.prog w = .ok (.agg (ncs t)) w := by
  have := run_loadAt_mid (P := Tryz.prog) w b o 27 (ncs t).toList _ h Tryz.underlying27 rfl sizeN
  simpa [Ld] using this
theorem Rep.below {S : Nat → Prop} {w w' : World} {T : Tree} {N : Nd} (h : Rep S w T N) (hb : Below w.heap.size w w') : Rep S w' T N := Rep.keep (fun b hb' hS => ⟨hS, hb.block b hb'⟩) _ _ h
theorem Reps.below {S : Nat → Prop} {w w' : World} {T : List Tree} {N : List Nd} (h : Reps S w T N) (hb : Below w.heap.size w w') : Reps S w' T N := Reps.keep (fun b hb' hS => ⟨hS, hb.block b hb'⟩) _ _ h
theorem Row.below {S : Nat → Prop} {w w' : World} {e size n : Nat} {s : Sl} {xs : List Value} (h : Row S w e size s n xs) (hb : Below w.heap.size w w') : Row S w' e size s n xs := h.keep (fun b hb' hS => ⟨hS, hb.block b hb'⟩)

attribute [local go_sem ↓] ldK stK alK bdK bsK ldN stN alN bdN bsN
attribute [local irreducible] kcs ncs ncells
attribute [local go_sem] run_alN run_stNg run_ldNg run_bdN0

structure XI (w wr : World) (ns ms : List ByteArray) (i : Nat) (R : Bool) : Prop where
  bel : Below w.heap.size w wr
  le : i ≤ ns.length
  eq : R = sameS (ns.drop i) (ms.drop i)
set_option maxRecDepth 100000 in
set_option maxHeartbeats 4000000 in
theorem texts_any {S S' : Nat → Prop} {w : World} {s s2 : Sl} {ns ms : List ByteArray} (h : Row S w 9 1 s ns.length (ns.map Value.string)) (h2 : Row S' w 9 1 s2 ms.length (ms.map Value.string)) (hl : ns.length ≤ 200000) :
    Calls Tryz.prog 26 #[.slice s.a s.n s.c, .slice s2.a s2.n s2.c] w (PostR w (.bool (sameS ns ms))) := by
  have e1 := h.n
  have e2 := h2.n
  rw [e1, e2]
  by_cases hlen : ns.length = ms.length
  · have hq : ((ns.length : Int) != (ms.length : Int)) = false := by rw [hlen]; simp
    have hst : XI w w ns ms 0 (sameS ns ms) := ⟨Below.refl _ _, Nat.zero_le _, rfl⟩
    have HST := Lib.hid hst
    have HLEN := Lib.hid hlen
    obtain ⟨R, hR⟩ : ∃ R, sameS ns ms = R := ⟨_, rfl⟩
    rw [hR] at HST ⊢
    have H1 := Lib.hid h
    have H2 := Lib.hid h2
    obtain ⟨m, hm⟩ : ∃ m, ns.length = m := ⟨_, rfl⟩
    obtain ⟨m2, hm2⟩ : ∃ m2, ms.length = m2 := ⟨_, rfl⟩
    rw [hm, hm2] at hq
    rw [hm, hm2]
    have hmi : (m : Int) ≤ 200000 := by omega
    have HM := Lib.hid hm
    clear hst hR h h2 hlen e1 e2 hm hm2
    go_enter Tryz.func26, Tryz.ntmps26
    go_wp2
    go_loopw [5] (fun v wr => ∃ i : Nat, v = .int .i64 (i : Int) ∧ XI w wr ns ms i R) (fun v _ => m - (intOf v).toNat)
    case atStart => exact ⟨0, rfl, HST.out⟩
    case round =>
      obtain ⟨i, rfl, hI⟩ := hrel
      have hle := hI.le
      have hM := HM.out
      rw [hM] at hle
      by_cases hlt : i < m
      · have hii : (i : Int) < (m : Int) := by omega
        obtain ⟨x, hx⟩ : ∃ x, ns[i]? = some x := ⟨_, List.getElem?_eq_getElem (by omega)⟩
        obtain ⟨y, hy⟩ : ∃ y, ms[i]? = some y := ⟨_, List.getElem?_eq_getElem (by have := HLEN.out; omega)⟩
        obtain ⟨g1, cp1, q1, -, z1⟩ := (H1.out.below hI.bel).at (by omega)
        obtain ⟨g2, cp2, q2, -, z2⟩ := (H2.out.below hI.bel).at (by have := HLEN.out; omega)
        have k1 : wr.cell? ⟨g1, i, none⟩ = some (.string x) := z1 i _ (by simp [hx])
        have k2 : wr.cell? ⟨g2, i, none⟩ = some (.string y) := z2 i _ (by simp [hy])
        have he := hI.eq
        rw [sameS_step hx hy] at he
        subst q1 q2
        have k1d : wr.drew.cell? ⟨g1, i, none⟩ = some (.string x) := k1
        have k2d : wr.drew.cell? ⟨g2, i, none⟩ = some (.string y) := k2
        have hxy : (x.toList == y.toList) = eqT x y := by unfold eqT; rw [ByteArray.toList_eq, ByteArray.toList_eq]
        have him2 : (i : Int) < (m2 : Int) := by
          have h1 := hq
          simp at h1
          omega
        have HI := Lib.hid hI
        have HE := Lib.hid he
        cases hb : eqT x y with
        | true =>
          rw [hb] at hxy
          rw [hb, Bool.true_and] at he
          have HE := Lib.hid he
          clear hI he z1 z2 hx hy hb
          go_wp2
          go_region
          all_goals go_wp2
          all_goals (
            go_roundw
            case rel => exact ⟨i + 1, by go_num, ⟨HI.out.bel.drew, by have := HM.out; omega, HE.out⟩⟩
            case measure => simp [intOf]; omega)
        | false =>
          rw [hb] at hxy
          rw [hb, Bool.false_and] at he
          have HE := Lib.hid he
          clear hI he z1 z2 hx hy hb
          go_wp2
          go_region
          all_goals go_wp2
          all_goals go_ret
          all_goals exact ⟨by rw [HE.out]; rfl, HI.out.bel.drew⟩
      · have he := hI.eq
        rw [List.drop_eq_nil_of_le (by omega), List.drop_eq_nil_of_le (by have := HLEN.out; omega)] at he
        unfold sameS at he
        have HI := Lib.hid hI
        have HE := Lib.hid he
        clear hI he
        go_wp2
        go_ret
        exact ⟨by rw [HE.out]; rfl, HI.out.bel⟩
  · have hq : ((ns.length : Int) != (ms.length : Int)) = true := by simp; omega
    rw [sameS_len hlen]
    clear h h2 e1 e2 hlen
    go_enter Tryz.func26, Tryz.ntmps26
    go_wp2
    go_ret
    exact ⟨rfl, Below.refl _ _⟩

structure YI (w wr : World) (ns ms : List Tree) (i : Nat) (R : Bool) : Prop where
  bel : Below w.heap.size w wr
  le : i ≤ ns.length
  eq : R = sameTs (ns.drop i) (ms.drop i)
def SameC (t u : Tree) : Prop := ∀ {S S' : Nat → Prop} {N M : Nd} {w : World}, Rep S w t N → Rep S' w u M → Calls Tryz.prog 12 #[.agg (ncs N), .agg (ncs M)] w (PostR w (.bool (sameT t u)))
theorem PostR.mono {w w' : World} {v : Value} {e : Ending} (h : PostR w v e w') : e = .returned v ∧ Below w.heap.size w w' := h
set_option maxRecDepth 100000 in
set_option maxHeartbeats 4000000 in
theorem nodes_any {S S' : Nat → Prop} {w : World} {s s2 : Sl} {ns ms : List Tree} {xs ys : List Nd} (h : Row S w 27 5 s ns.length (ncells xs)) (hr : Reps S w ns xs) (h2 : Row S' w 27 5 s2 ms.length (ncells ys)) (hr2 : Reps S' w ms ys) (hl : ns.length ≤ 200000)
    (ih : ∀ (i : Nat) (t u : Tree), ns[i]? = some t → ms[i]? = some u → SameC t u) :
    Calls Tryz.prog 27 #[.slice s.a s.n s.c, .slice s2.a s2.n s2.c] w (PostR w (.bool (sameTs ns ms))) := by
  have e1 := h.n
  have e2 := h2.n
  rw [e1, e2]
  by_cases hlen : ns.length = ms.length
  · have hq : ((ns.length : Int) != (ms.length : Int)) = false := by rw [hlen]; simp
    have hst : YI w w ns ms 0 (sameTs ns ms) := ⟨Below.refl _ _, Nat.zero_le _, rfl⟩
    have HST := Lib.hid hst
    have HLEN := Lib.hid hlen
    obtain ⟨R, hR⟩ : ∃ R, sameTs ns ms = R := ⟨_, rfl⟩
    rw [hR] at HST ⊢
    have H1 := Lib.hid h
    have H2 := Lib.hid h2
    have HR1 := Lib.hid hr
    have HR2 := Lib.hid hr2
    have HIH := Lib.hid ih
    obtain ⟨m, hm⟩ : ∃ m, ns.length = m := ⟨_, rfl⟩
    obtain ⟨m2, hm2⟩ : ∃ m2, ms.length = m2 := ⟨_, rfl⟩
    rw [hm, hm2] at hq
    rw [hm, hm2]
    have hmi : (m : Int) ≤ 200000 := by omega
    have HM := Lib.hid hm
    clear hst hR h h2 hr hr2 hlen e1 e2 hm hm2 ih
    go_enter Tryz.func27, Tryz.ntmps27
    go_wp2
    go_loopw [5] (fun v wr => ∃ i : Nat, v = .int .i64 (i : Int) ∧ YI w wr ns ms i R) (fun v _ => m - (intOf v).toNat)
    case atStart => exact ⟨0, rfl, HST.out⟩
    case round =>
      obtain ⟨i, rfl, hI⟩ := hrel
      have hle := hI.le
      have hM := HM.out
      rw [hM] at hle
      by_cases hlt : i < m
      · have hii : (i : Int) < (m : Int) := by omega
        obtain ⟨t, ht⟩ : ∃ t, ns[i]? = some t := ⟨_, List.getElem?_eq_getElem (by omega)⟩
        obtain ⟨u, hu⟩ : ∃ u, ms[i]? = some u := ⟨_, List.getElem?_eq_getElem (by have := HLEN.out; omega)⟩
        obtain ⟨g1, cp1, q1, -, z1⟩ := (H1.out.below hI.bel).at (by omega)
        obtain ⟨g2, cp2, q2, -, z2⟩ := (H2.out.below hI.bel).at (by have := HLEN.out; omega)
        obtain ⟨x, hx, rx⟩ := (HR1.out.below hI.bel).at ht
        obtain ⟨y, hy, ry⟩ := (HR2.out.below hI.bel).at hu
        have l1 := run_ldNm (w := wr.drew) (b := g1) (o := i * 5) (t := x) (fun j v hj => z1 _ _ (ncells_at hx hj))
        have l2 := run_ldNm (w := wr.drew) (b := g2) (o := i * 5) (t := y) (fun j v hj => z2 _ _ (ncells_at hy hj))
        have cc := HIH.out i t u ht hu (Rep.keep (w := wr) (w' := wr.drew) (fun b hb hS => ⟨hS, rfl⟩) _ _ rx) (Rep.keep (w := wr) (w' := wr.drew) (fun b hb hS => ⟨hS, rfl⟩) _ _ ry)
        have he := hI.eq
        rw [sameTs_step ht hu] at he
        subst q1 q2
        have him2 : (i : Int) < (m2 : Int) := by
          have h1 := hq
          simp at h1
          omega
        have HI := Lib.hid hI
        have HBW := Lib.hid hI.bel
        cases hb : sameT t u with
        | true =>
          rw [hb] at cc
          rw [hb, Bool.true_and] at he
          have HE := Lib.hid he
          clear hI he z1 z2 hx hy hb rx ry ht hu
          go_wp2
          go_region_with (go_at_call 12; (with_reducible refine cc.mono ?_); intro e w2 hp; obtain ⟨rfl, hb2⟩ := hp; have HB2 := Lib.hid (HBW.out.trans (((Below.refl wr.heap.size wr).drew.trans hb2).mono HBW.out.size)); clear hb2)
          all_goals go_wp2
          all_goals (
            go_roundw
            case rel => exact ⟨i + 1, by go_num, ⟨HB2.out, by have := HM.out; omega, HE.out⟩⟩
            case measure => simp [intOf]; omega)
        | false =>
          rw [hb] at cc
          rw [hb, Bool.false_and] at he
          have HE := Lib.hid he
          clear hI he z1 z2 hx hy hb rx ry ht hu
          go_wp2
          go_region_with (go_at_call 12; (with_reducible refine cc.mono ?_); intro e w2 hp; obtain ⟨rfl, hb2⟩ := hp; have HB2 := Lib.hid (HBW.out.trans (((Below.refl wr.heap.size wr).drew.trans hb2).mono HBW.out.size)); clear hb2)
          all_goals go_wp2
          all_goals go_ret
          all_goals exact ⟨by rw [HE.out]; rfl, HB2.out⟩
      · have he := hI.eq
        rw [List.drop_eq_nil_of_le (by omega), List.drop_eq_nil_of_le (by have := HLEN.out; omega)] at he
        unfold sameTs at he
        have HI := Lib.hid hI
        have HE := Lib.hid he
        clear hI he
        go_wp2
        go_ret
        exact ⟨by rw [HE.out]; rfl, HI.out.bel⟩
  · have hq : ((ns.length : Int) != (ms.length : Int)) = true := by simp; omega
    rw [sameTs_len hlen]
    clear h h2 e1 e2 hlen ih hr hr2
    go_enter Tryz.func27, Tryz.ntmps27
    go_wp2
    go_ret
    exact ⟨rfl, Below.refl _ _⟩

/-! Lists in a tree are no longer than memory may be. -/
mutual
def Slim : Tree → Prop
  | .mk _ _ _ ns ks => ns.length ≤ 200000 ∧ ks.length ≤ 200000 ∧ Slims ks
def Slims : List Tree → Prop
  | [] => True
  | t :: ts => Slim t ∧ Slims ts
end
theorem Slims.at : ∀ {ts : List Tree} {i : Nat} {t : Tree}, Slims ts → ts[i]? = some t → Slim t
  | [], i, t, _, h => by simp at h
  | a :: l, 0, t, hs, h => by
    simp at h; subst h
    unfold Slims at hs
    exact hs.1
  | a :: l, i + 1, t, hs, h => by
    simp at h
    unfold Slims at hs
    exact Slims.at hs.2 h
set_option maxRecDepth 100000 in
set_option maxHeartbeats 4000000 in
theorem same_step {t u : Tree} (hsl : Slim t) (ih : ∀ (i : Nat) (a b : Tree), t.kids[i]? = some a → u.kids[i]? = some b → SameC a b) : SameC t u := by
  intro S S' N M w h h2
  obtain ⟨k, n, x, ns, ks⟩ := t
  obtain ⟨k', n', x', ns', ks'⟩ := u
  have hB : Below w.heap.size w ((w.alloc (.cells (ncs N) 27)).alloc (.cells (ncs M) 27)) := bl_alloc bel1
  have q1 := h.below hB
  have q2 := h2.below hB
  unfold Rep at q1 q2
  unfold Slim at hsl
  obtain ⟨rfl, rfl, rfl, a4, xs, a5, a6⟩ := q1
  obtain ⟨rfl, rfl, rfl, b4, ys, b5, b6⟩ := q2
  have bN := (Blk.new w (ncs N) 27).old (.cells (ncs M) 27)
  have bM := blk_newg (w := w.alloc (.cells (ncs N) 27)) (g := w.heap.size + 1) (cs := ncs M) (t := 27) (by simp)
  have n0 := (bN.cell 0).trans (ncs_0 N)
  have n1 := (bN.cell 1).trans (ncs_1 N)
  have n2 := (bN.cell 2).trans (ncs_2 N)
  have n3 := (bN.cell 3).trans (ncs_3 N)
  have n4 := (bN.cell 4).trans (ncs_4 N)
  have m0 := (bM.cell 0).trans (ncs_0 M)
  have m1 := (bM.cell 1).trans (ncs_1 M)
  have m2 := (bM.cell 2).trans (ncs_2 M)
  have m3 := (bM.cell 3).trans (ncs_3 M)
  have m4 := (bM.cell 4).trans (ncs_4 M)
  have ct := texts_any a4 b4 hsl.1
  have hxx : (N.text.toList == M.text.toList) = eqT N.text M.text := by unfold eqT; rw [ByteArray.toList_eq, ByteArray.toList_eq]
  have HBN := Lib.hid bN
  have HBM := Lib.hid bM
  have HA5 := Lib.hid a5
  have HA6 := Lib.hid a6
  have HB5 := Lib.hid b5
  have HB6 := Lib.hid b6
  have HIH := Lib.hid ih
  have HSL := Lib.hid hsl
  have HB := Lib.hid hB
  unfold sameT
  clear h h2 bN bM a4 a5 a6 b4 b5 b6 ih hsl hB
  cases c0 : N.kind == M.kind with
  | false =>
    go_enter Tryz.func12, Tryz.ntmps12
    go_wp2
    go_ret
    exact ⟨by simp, HB.out⟩
  | true =>
    cases c1 : N.num == M.num with
    | false =>
      go_enter Tryz.func12, Tryz.ntmps12
      go_wp2
      go_ret
      exact ⟨by simp, HB.out⟩
    | true =>
      cases c2 : eqT N.text M.text with
      | false =>
        rw [c2] at hxx
        go_enter Tryz.func12, Tryz.ntmps12
        go_wp2
        go_ret
        exact ⟨by simp, HB.out⟩
      | true =>
        rw [c2] at hxx
        cases c3 : sameS ns ns' with
        | false =>
          rw [c3] at ct
          go_enter Tryz.func12, Tryz.ntmps12
          go_wp2_with (go_at_call 26; (with_reducible refine ct.mono ?_); intro e w2 hp; obtain ⟨rfl, hb⟩ := hp; have HB2 := Lib.hid (HB.out.trans (hb.mono HB.out.size)); clear hb)
          go_ret
          exact ⟨by simp, HB2.out⟩
        | true =>
          rw [c3] at ct
          go_enter Tryz.func12, Tryz.ntmps12
          go_wp2_with (first | (go_at_call 26; (with_reducible refine ct.mono ?_); intro e w2 hp; obtain ⟨rfl, hb⟩ := hp; have u4 := ((HBN.out.call hb).cell 4).trans (ncs_4 N); have v4 := ((HBM.out.call hb).cell 4).trans (ncs_4 M); have cn := nodes_any (HA5.out.below hb) (HA6.out.below hb) (HB5.out.below hb) (HB6.out.below hb) HSL.out.2.1 HIH.out; have HB2 := Lib.hid (HB.out.trans (hb.mono HB.out.size)); clear hb) | (go_at_call 27; (with_reducible refine cn.mono ?_); intro e w3 hp; obtain ⟨rfl, hb⟩ := hp; have HB3 := Lib.hid (HB2.out.trans (hb.mono HB2.out.size)); clear hb))
          go_ret
          exact ⟨by simp, HB3.out⟩
theorem same_any : ∀ (k : Nat) {t u : Tree}, t.sz ≤ k → Slim t → SameC t u
  | 0, t, u, h, _ => by
    obtain ⟨a, b, c, d, e⟩ := t
    unfold Tree.sz at h
    omega
  | k + 1, t, u, h, hs => same_step hs fun i a b ha hb => by
    obtain ⟨p, q, r, s, ks⟩ := t
    unfold Slim at hs
    unfold Tree.sz at h
    exact same_any k (by have := szs_at ha; show a.sz ≤ k; have h2 : a.sz ≤ szs ks := this; omega) (hs.2.2.at ha)
end Go.Proofs.YtkknglmpdmhhjaaGreatDoor.Pa
