/-
  Texts of this seat in build order: PgSpot2, PrStr, PgRight.
-/
import Derived.Test.YtinoaajohkafmaaGreatMw08
import Derived.Deep.LoopGhost
import Derived.Test.YtinoaajohkafmaaGreatMw06
import Derived.Test.YtinoaajohkafmaaGreatMw12
/-
  The printer's spots: texts, numbers, names, else.
-/
namespace Go.Proofs.YtinoaajohkafmaaGreat.Pr
open Go Go.RowKit Go.Proofs.YtinoaajohkafmaaGreat.Pa Go.Proofs.YtinoaajohkafmaaGreat.Uni Go.Proofs.YtinoaajohkafmaaGreat.Vals Go.Proofs.YtinoaajohkafmaaGreat.Nums
open Go.Proofs.YtinoaajohkafmaaGreat.Lx
set_option linter.unusedVariables false
set_option linter.unusedSimpArgs false
def vvc (k n : Int) (s : ByteArray) : Array Value := #[.int .i64 k, .int .i64 n, .string s]
theorem vvc_size (k n : Int) (s : ByteArray) : (vvc k n s).size = 3 := rfl
theorem vvc_one (k n : Int) (s : ByteArray) : (vvc k n s).all (·.oneCell') = true := by simp [vvc, Value.oneCell']
theorem stV (p v : Value) : Instr.storeAt 79 p v = Lx.St 79 p v := (rfl)
theorem alV : Instr.alloc 79 true (.tuple #[]) = Al 79 := (rfl)
theorem bdV (ps : Array (Nat × Value)) : Instr.build 79 ps = Bd 79 ps := (rfl)
theorem infoV : (Tryz.prog.info? 79).map (fun i => (i.zero, i.size)) = some (some (.agg (vvc 0 0 noS)), 3) := by kernel_rfl
theorem sizeV : (Tryz.prog.info? 79).map (·.size) = some 3 := by kernel_rfl
theorem run_alV (w : World) : (Al 79).run Tryz.prog w = .ok (ptr w.heap.size) (w.alloc (.cells (vvc 0 0 noS) 79)) := run_al infoV w
theorem run_bdV3 (w : World) (n : Int) : (Bd 79 #[(0, .int .i64 3), (1, .int .i64 n)]).run Tryz.prog w = .ok (.agg (vvc 3 n noS)) w := run_build w _ _ _ (by kernel_rfl)
theorem run_bdV4 (w : World) (s : ByteArray) : (Bd 79 #[(0, .int .i64 4), (2, .string s)]).run Tryz.prog w = .ok (.agg (vvc 4 0 s)) w := run_build w _ _ _ (by kernel_rfl)
theorem run_stVg (w : World) (k n k2 n2 : Int) (s s2 : ByteArray) : (Lx.St 79 (.pointer (some ⟨w.heap.size, 0, none⟩)) (.agg (vvc k n s))).run Tryz.prog (w.alloc (.cells (vvc k2 n2 s2) 79)) = .ok () (w.alloc (.cells (vvc k n s) 79)) := by
  have h : (Lx.St 79 (.pointer (some ⟨w.heap.size, 0, none⟩)) (.agg (vvc k n s))).run Tryz.prog (w.alloc (.cells (vvc k2 n2 s2) 79)) = .ok () ((w.alloc (.cells (vvc k2 n2 s2) 79)).setRow w.heap.size (vvc k n s)) := run_st_row (Blk.new w (vvc k2 n2 s2) _) (by rw [vvc_size]; exact sizeV) (by rw [vvc_size, vvc_size]) (vvc_one _ _ _)
  rw [h, setRow_new]
theorem res_V {fn : Func} {p : Tmp} (h : fn.results = #[.cell p 79]) (tmps : Array Value) (w : World) (g : Nat) (k n : Int) (s : ByteArray) (hp : tmps.getD p undef = .pointer (some ⟨g, 0, none⟩)) {T : TypeId} (hv : Blk w g (vvc k n s) T) : (results fn tmps).run Tryz.prog w = .ok (.agg (vvc k n s)) w := by
  have e1 := run_loadVar_row (P := Tryz.prog) w g T 79 (vvc k n s) (0, 0) _ hv Tryz.underlying79 rfl (by exact sizeV)
  have hp' : tmps[p]?.getD undef = .pointer (some ⟨g, 0, none⟩) := by simpa using hp
  simp only [results, h]
  simp [Sem.run_bind, Result.andThen, hp', asAddr, e1]
set_option maxRecDepth 100000 in
theorem vRight (k n : Int) (s : ByteArray) (w : World) (hs : s.size ≤ 2000000) : Calls Tryz.prog 41 #[.agg (vvc k n s)] w (PostR w (.bool (Vals.rightF k n s))) := Vals.Right_any k n s w hs
theorem rightF_4 (s : ByteArray) : Vals.rightF 4 0 s = rtB s := by
  unfold Vals.rightF
  rw [if_pos rfl]
  show (true && Vals.rtF s) = rtB s
  rfl
theorem rightF_3 (n : Int) : Vals.rightF 3 n noS = decide (-9007199254740991 ≤ n ∧ n ≤ 9007199254740991) := by
  unfold Vals.rightF
  rw [if_neg (by decide), show (noS.toList.isEmpty) = true from by rw [tl_data]; rfl, Bool.true_and]
  unfold Vals.rnF
  simp [sf]
attribute [local go_sem ↓] ldK stK alK bdK bsK ldN stN alN bdN bsN ldS stS alS bdS stV alV bdV
attribute [local irreducible] kcs ncs ncells scs vvc
attribute [local go_sem] run_alN run_stNg run_ldNg run_bdN0 run_alV run_bdV3 run_bdV4 run_stVg
set_option maxRecDepth 100000 in
theorem valueOf_1 {w : World} {b o : Nat} {N : Nd} (hk : KidAt w b o N) (h1 : (N.kind == 1) = true) : Calls Tryz.prog 42 #[.pointer (some ⟨b, o, none⟩)] w (PostR w (.agg (vvc 3 N.num noS))) := by
  have hb := fun o => hk.kind (bl_alloc (o := o) (Below.refl w.heap.size w))
  have hn := fun o => hk.num (bl_alloc (o := o) (Below.refl w.heap.size w))
  have ht := fun o => hk.text (bl_alloc (o := o) (Below.refl w.heap.size w))
  have hB : Hid (Below w.heap.size w (w.alloc (.cells (vvc 3 N.num noS) 79))) := Lib.hid bel1
  have hBk := Blk.new w (vvc 3 N.num noS) 79
  have HK := Lib.hid hBk
  clear hk hBk
  go_enter Tryz.func42, Tryz.ntmps42
  go_wp2
  exact bodyPost_ret (res_V rfl _ _ w.heap.size _ _ _ (by rfl) HK.out) rfl ⟨rfl, hB.out⟩
set_option maxRecDepth 100000 in
theorem valueOf_0 {w : World} {b o : Nat} {N : Nd} (hk : KidAt w b o N) (h1 : (N.kind == 1) = false) : Calls Tryz.prog 42 #[.pointer (some ⟨b, o, none⟩)] w (PostR w (.agg (vvc 4 0 N.text))) := by
  have hb := fun o => hk.kind (bl_alloc (o := o) (Below.refl w.heap.size w))
  have hn := fun o => hk.num (bl_alloc (o := o) (Below.refl w.heap.size w))
  have ht := fun o => hk.text (bl_alloc (o := o) (Below.refl w.heap.size w))
  have hB : Hid (Below w.heap.size w (w.alloc (.cells (vvc 4 0 N.text) 79))) := Lib.hid bel1
  have hBk := Blk.new w (vvc 4 0 N.text) 79
  have HK := Lib.hid hBk
  clear hk hBk
  go_enter Tryz.func42, Tryz.ntmps42
  go_wp2
  exact bodyPost_ret (res_V rfl _ _ w.heap.size _ _ _ (by rfl) HK.out) rfl ⟨rfl, hB.out⟩
set_option maxRecDepth 100000 in
set_option maxHeartbeats 4000000 in
theorem fname_70 {w : World} {b o : Nat} {N : Nd} (hk : KidAt w b o N) (hs : N.text.size ≤ 1048576) : Calls Tryz.prog 44 #[.agg (scs b o 70)] w (PostR w (.bool (varB N.text))) := by
  obtain ⟨bN, s0, s1, n0, n1, n2, n3, n4, HB⟩ := sp_start 70 hk
  have HBN := Lib.hid bN
  have HK := Lib.hid hk
  have cv := fun W => isVar_any N.text W hs
  obtain ⟨q, hq⟩ : ∃ q, varB N.text = q := ⟨_, rfl⟩
  rw [hq] at cv ⊢
  clear hq
  clear hk bN hs
  cases q
  all_goals (
    go_enter Tryz.func44, Tryz.ntmps44
    go_wp2_with (first | (go_at_call 43; (with_reducible refine (cv _).mono ?_); intro e w2 hp; obtain ⟨rfl, hb⟩ := hp; have HB := Lib.hid (HB.out.trans (hb.mono HB.out.size)); clear hb))
    go_ret
    exact ⟨rfl, HB.out⟩)
set_option maxRecDepth 100000 in
set_option maxHeartbeats 4000000 in
theorem fname_65 {w : World} {b o : Nat} {N : Nd} (hk : KidAt w b o N) (hs : N.text.size ≤ 1048576) : Calls Tryz.prog 44 #[.agg (scs b o 65)] w (PostR w (.bool (emptyB N.text || varB N.text))) := by
  obtain ⟨bN, s0, s1, n0, n1, n2, n3, n4, HB⟩ := sp_start 65 hk
  have HBN := Lib.hid bN
  have HK := Lib.hid hk
  obtain ⟨z, hz⟩ : ∃ z, emptyB N.text = z := ⟨_, rfl⟩
  have fz : N.text.toList.isEmpty = z := by rw [← hz, tl_data]; rfl
  rw [hz]
  clear hz
  have cv := fun W => isVar_any N.text W hs
  obtain ⟨q, hq⟩ : ∃ q, varB N.text = q := ⟨_, rfl⟩
  rw [hq] at cv ⊢
  clear hq
  clear hk bN hs
  cases z; cases q
  all_goals (
    go_enter Tryz.func44, Tryz.ntmps44
    go_wp2_with (first | (go_at_call 43; (with_reducible refine (cv _).mono ?_); intro e w2 hp; obtain ⟨rfl, hb⟩ := hp; have HB := Lib.hid (HB.out.trans (hb.mono HB.out.size)); clear hb))
    go_ret
    exact ⟨rfl, HB.out⟩)
set_option maxRecDepth 100000 in
set_option maxHeartbeats 4000000 in
theorem fname_71 {w : World} {b o : Nat} {N : Nd} (hk : KidAt w b o N) (hs : N.text.size ≤ 1048576) : Calls Tryz.prog 44 #[.agg (scs b o 71)] w (PostR w (.bool (emptyB N.text))) := by
  obtain ⟨bN, s0, s1, n0, n1, n2, n3, n4, HB⟩ := sp_start 71 hk
  have HBN := Lib.hid bN
  have HK := Lib.hid hk
  obtain ⟨z, hz⟩ : ∃ z, emptyB N.text = z := ⟨_, rfl⟩
  have fz : N.text.toList.isEmpty = z := by rw [← hz, tl_data]; rfl
  rw [hz]
  clear hz
  clear hk bN hs
  cases z
  all_goals (
    go_enter Tryz.func44, Tryz.ntmps44
    go_wp2
    go_ret
    exact ⟨rfl, HB.out⟩)
set_option maxRecDepth 100000 in
set_option maxHeartbeats 4000000 in
theorem fname_72 {w : World} {b o : Nat} {N : Nd} (hk : KidAt w b o N) (hs : N.text.size ≤ 1048576) : Calls Tryz.prog 44 #[.agg (scs b o 72)] w (PostR w (.bool (emptyB N.text))) := by
  obtain ⟨bN, s0, s1, n0, n1, n2, n3, n4, HB⟩ := sp_start 72 hk
  have HBN := Lib.hid bN
  have HK := Lib.hid hk
  obtain ⟨z, hz⟩ : ∃ z, emptyB N.text = z := ⟨_, rfl⟩
  have fz : N.text.toList.isEmpty = z := by rw [← hz, tl_data]; rfl
  rw [hz]
  clear hz
  clear hk bN hs
  cases z
  all_goals (
    go_enter Tryz.func44, Tryz.ntmps44
    go_wp2
    go_ret
    exact ⟨rfl, HB.out⟩)
set_option maxRecDepth 100000 in
set_option maxHeartbeats 4000000 in
theorem text_2 {w : World} {b o : Nat} {N : Nd} {p : Int} (hk : KidAt w b o N) (hkk : N.kind = 2) (hs : N.text.size ≤ 1048576) : Calls Tryz.prog 22 #[.agg (scs b o p)] w (PostR w (.bool (rtB N.text))) := by
  obtain ⟨bN, s0, s1, n0, n1, n2, n3, n4, HB⟩ := sp_start p hk
  have HBN := Lib.hid bN
  have HK := Lib.hid hk
  rw [hkk] at n0
  have hb2 : (N.kind == 1) = false := by rw [hkk]; rfl
  have cw := fun W (hb : Below w.heap.size w W) => valueOf_0 (w := W) (b := b) (o := o) (N := N) ⟨kept_lt (kept_below hb) hk.lt, hk.at_.kept (kept_below hb) hk.lt⟩ hb2
  have cr := fun W => vRight 4 0 N.text W (by omega)
  rw [rightF_4] at cr
  obtain ⟨q, hq⟩ : ∃ q, rtB N.text = q := ⟨_, rfl⟩
  rw [hq] at cr ⊢
  clear hq hb2
  clear hk bN hs hkk
  cases q
  all_goals (
    go_enter Tryz.func22, Tryz.ntmps22
    go_wp2_with (first | (go_at_call 42; (with_reducible refine (cw _ HB.out).mono ?_); intro e w2 hp; obtain ⟨rfl, hb⟩ := hp; have HB := Lib.hid (HB.out.trans (hb.mono HB.out.size)); clear hb) | (go_at_call 41; (with_reducible refine (cr _).mono ?_); intro e w2 hp; obtain ⟨rfl, hb⟩ := hp; have HB := Lib.hid (HB.out.trans (hb.mono HB.out.size)); clear hb))
    go_ret
    exact ⟨rfl, HB.out⟩)
set_option maxRecDepth 100000 in
set_option maxHeartbeats 4000000 in
theorem text_12 {w : World} {b o : Nat} {N : Nd} {p : Int} (hk : KidAt w b o N) (hkk : N.kind = 12) (hs : N.text.size ≤ 1048576) : Calls Tryz.prog 22 #[.agg (scs b o p)] w (PostR w (.bool (rtB N.text))) := by
  obtain ⟨bN, s0, s1, n0, n1, n2, n3, n4, HB⟩ := sp_start p hk
  have HBN := Lib.hid bN
  have HK := Lib.hid hk
  rw [hkk] at n0
  have hb2 : (N.kind == 1) = false := by rw [hkk]; rfl
  have cw := fun W (hb : Below w.heap.size w W) => valueOf_0 (w := W) (b := b) (o := o) (N := N) ⟨kept_lt (kept_below hb) hk.lt, hk.at_.kept (kept_below hb) hk.lt⟩ hb2
  have cr := fun W => vRight 4 0 N.text W (by omega)
  rw [rightF_4] at cr
  obtain ⟨q, hq⟩ : ∃ q, rtB N.text = q := ⟨_, rfl⟩
  rw [hq] at cr ⊢
  clear hq hb2
  clear hk bN hs hkk
  cases q
  all_goals (
    go_enter Tryz.func22, Tryz.ntmps22
    go_wp2_with (first | (go_at_call 42; (with_reducible refine (cw _ HB.out).mono ?_); intro e w2 hp; obtain ⟨rfl, hb⟩ := hp; have HB := Lib.hid (HB.out.trans (hb.mono HB.out.size)); clear hb) | (go_at_call 41; (with_reducible refine (cr _).mono ?_); intro e w2 hp; obtain ⟨rfl, hb⟩ := hp; have HB := Lib.hid (HB.out.trans (hb.mono HB.out.size)); clear hb))
    go_ret
    exact ⟨rfl, HB.out⟩)
set_option maxRecDepth 100000 in
set_option maxHeartbeats 4000000 in
theorem text_13 {w : World} {b o : Nat} {N : Nd} {p : Int} (hk : KidAt w b o N) (hkk : N.kind = 13) (hs : N.text.size ≤ 1048576) : Calls Tryz.prog 22 #[.agg (scs b o p)] w (PostR w (.bool (rtB N.text))) := by
  obtain ⟨bN, s0, s1, n0, n1, n2, n3, n4, HB⟩ := sp_start p hk
  have HBN := Lib.hid bN
  have HK := Lib.hid hk
  rw [hkk] at n0
  have hb2 : (N.kind == 1) = false := by rw [hkk]; rfl
  have cw := fun W (hb : Below w.heap.size w W) => valueOf_0 (w := W) (b := b) (o := o) (N := N) ⟨kept_lt (kept_below hb) hk.lt, hk.at_.kept (kept_below hb) hk.lt⟩ hb2
  have cr := fun W => vRight 4 0 N.text W (by omega)
  rw [rightF_4] at cr
  obtain ⟨q, hq⟩ : ∃ q, rtB N.text = q := ⟨_, rfl⟩
  rw [hq] at cr ⊢
  clear hq hb2
  clear hk bN hs hkk
  cases q
  all_goals (
    go_enter Tryz.func22, Tryz.ntmps22
    go_wp2_with (first | (go_at_call 42; (with_reducible refine (cw _ HB.out).mono ?_); intro e w2 hp; obtain ⟨rfl, hb⟩ := hp; have HB := Lib.hid (HB.out.trans (hb.mono HB.out.size)); clear hb) | (go_at_call 41; (with_reducible refine (cr _).mono ?_); intro e w2 hp; obtain ⟨rfl, hb⟩ := hp; have HB := Lib.hid (HB.out.trans (hb.mono HB.out.size)); clear hb))
    go_ret
    exact ⟨rfl, HB.out⟩)
set_option maxRecDepth 100000 in
set_option maxHeartbeats 4000000 in
theorem text_8 {w : World} {b o : Nat} {N : Nd} {p : Int} (hk : KidAt w b o N) (hkk : N.kind = 8) (hs : N.text.size ≤ 1048576) : Calls Tryz.prog 22 #[.agg (scs b o p)] w (PostR w (.bool (varB N.text))) := by
  obtain ⟨bN, s0, s1, n0, n1, n2, n3, n4, HB⟩ := sp_start p hk
  have HBN := Lib.hid bN
  have HK := Lib.hid hk
  rw [hkk] at n0
  have cv := fun W => isVar_any N.text W hs
  obtain ⟨q, hq⟩ : ∃ q, varB N.text = q := ⟨_, rfl⟩
  rw [hq] at cv ⊢
  clear hq
  clear hk bN hs hkk
  cases q
  all_goals (
    go_enter Tryz.func22, Tryz.ntmps22
    go_wp2_with (first | (go_at_call 43; (with_reducible refine (cv _).mono ?_); intro e w2 hp; obtain ⟨rfl, hb⟩ := hp; have HB := Lib.hid (HB.out.trans (hb.mono HB.out.size)); clear hb))
    go_ret
    exact ⟨rfl, HB.out⟩)
set_option maxRecDepth 100000 in
set_option maxHeartbeats 4000000 in
theorem text_30 {w : World} {b o : Nat} {N : Nd} {p : Int} (hk : KidAt w b o N) (hkk : N.kind = 30) (hs : N.text.size ≤ 1048576) : Calls Tryz.prog 22 #[.agg (scs b o p)] w (PostR w (.bool (varB N.text))) := by
  obtain ⟨bN, s0, s1, n0, n1, n2, n3, n4, HB⟩ := sp_start p hk
  have HBN := Lib.hid bN
  have HK := Lib.hid hk
  rw [hkk] at n0
  have cv := fun W => isVar_any N.text W hs
  obtain ⟨q, hq⟩ : ∃ q, varB N.text = q := ⟨_, rfl⟩
  rw [hq] at cv ⊢
  clear hq
  clear hk bN hs hkk
  cases q
  all_goals (
    go_enter Tryz.func22, Tryz.ntmps22
    go_wp2_with (first | (go_at_call 43; (with_reducible refine (cv _).mono ?_); intro e w2 hp; obtain ⟨rfl, hb⟩ := hp; have HB := Lib.hid (HB.out.trans (hb.mono HB.out.size)); clear hb))
    go_ret
    exact ⟨rfl, HB.out⟩)
set_option maxRecDepth 100000 in
set_option maxHeartbeats 4000000 in
theorem text_31 {w : World} {b o : Nat} {N : Nd} {p : Int} (hk : KidAt w b o N) (hkk : N.kind = 31) (hs : N.text.size ≤ 1048576) : Calls Tryz.prog 22 #[.agg (scs b o p)] w (PostR w (.bool (varB N.text))) := by
  obtain ⟨bN, s0, s1, n0, n1, n2, n3, n4, HB⟩ := sp_start p hk
  have HBN := Lib.hid bN
  have HK := Lib.hid hk
  rw [hkk] at n0
  have cv := fun W => isVar_any N.text W hs
  obtain ⟨q, hq⟩ : ∃ q, varB N.text = q := ⟨_, rfl⟩
  rw [hq] at cv ⊢
  clear hq
  clear hk bN hs hkk
  cases q
  all_goals (
    go_enter Tryz.func22, Tryz.ntmps22
    go_wp2_with (first | (go_at_call 43; (with_reducible refine (cv _).mono ?_); intro e w2 hp; obtain ⟨rfl, hb⟩ := hp; have HB := Lib.hid (HB.out.trans (hb.mono HB.out.size)); clear hb))
    go_ret
    exact ⟨rfl, HB.out⟩)
set_option maxRecDepth 100000 in
set_option maxHeartbeats 4000000 in
theorem text_39 {w : World} {b o : Nat} {N : Nd} {p : Int} (hk : KidAt w b o N) (hkk : N.kind = 39) (hs : N.text.size ≤ 1048576) : Calls Tryz.prog 22 #[.agg (scs b o p)] w (PostR w (.bool (varB N.text))) := by
  obtain ⟨bN, s0, s1, n0, n1, n2, n3, n4, HB⟩ := sp_start p hk
  have HBN := Lib.hid bN
  have HK := Lib.hid hk
  rw [hkk] at n0
  have cv := fun W => isVar_any N.text W hs
  obtain ⟨q, hq⟩ : ∃ q, varB N.text = q := ⟨_, rfl⟩
  rw [hq] at cv ⊢
  clear hq
  clear hk bN hs hkk
  cases q
  all_goals (
    go_enter Tryz.func22, Tryz.ntmps22
    go_wp2_with (first | (go_at_call 43; (with_reducible refine (cv _).mono ?_); intro e w2 hp; obtain ⟨rfl, hb⟩ := hp; have HB := Lib.hid (HB.out.trans (hb.mono HB.out.size)); clear hb))
    go_ret
    exact ⟨rfl, HB.out⟩)
set_option maxRecDepth 100000 in
set_option maxHeartbeats 4000000 in
theorem text_14_70 {w : World} {b o : Nat} {N : Nd} (hk : KidAt w b o N) (hkk : N.kind = 14) (hs : N.text.size ≤ 1048576) : Calls Tryz.prog 22 #[.agg (scs b o 70)] w (PostR w (.bool (varB N.text))) := by
  obtain ⟨bN, s0, s1, n0, n1, n2, n3, n4, HB⟩ := sp_start 70 hk
  have HBN := Lib.hid bN
  have HK := Lib.hid hk
  rw [hkk] at n0
  have lds := run_ldS bN
  have cf := fun W (hb : Below w.heap.size w W) => fname_70 (w := W) (b := b) (o := o) (N := N) ⟨kept_lt (kept_below hb) hk.lt, hk.at_.kept (kept_below hb) hk.lt⟩ hs
  obtain ⟨q, hq⟩ : ∃ q, (varB N.text) = q := ⟨_, rfl⟩
  rw [hq] at cf ⊢
  clear hq
  clear hk bN hs hkk
  cases q
  all_goals (
    go_enter Tryz.func22, Tryz.ntmps22
    go_wp2_with (first | (go_at_call 44; (with_reducible refine (cf _ HB.out).mono ?_); intro e w2 hp; obtain ⟨rfl, hb⟩ := hp; have HB := Lib.hid (HB.out.trans (hb.mono HB.out.size)); clear hb))
    go_ret
    exact ⟨rfl, HB.out⟩)
set_option maxRecDepth 100000 in
set_option maxHeartbeats 4000000 in
theorem text_14_65 {w : World} {b o : Nat} {N : Nd} (hk : KidAt w b o N) (hkk : N.kind = 14) (hs : N.text.size ≤ 1048576) : Calls Tryz.prog 22 #[.agg (scs b o 65)] w (PostR w (.bool (emptyB N.text || varB N.text))) := by
  obtain ⟨bN, s0, s1, n0, n1, n2, n3, n4, HB⟩ := sp_start 65 hk
  have HBN := Lib.hid bN
  have HK := Lib.hid hk
  rw [hkk] at n0
  have lds := run_ldS bN
  have cf := fun W (hb : Below w.heap.size w W) => fname_65 (w := W) (b := b) (o := o) (N := N) ⟨kept_lt (kept_below hb) hk.lt, hk.at_.kept (kept_below hb) hk.lt⟩ hs
  obtain ⟨q, hq⟩ : ∃ q, (emptyB N.text || varB N.text) = q := ⟨_, rfl⟩
  rw [hq] at cf ⊢
  clear hq
  clear hk bN hs hkk
  cases q
  all_goals (
    go_enter Tryz.func22, Tryz.ntmps22
    go_wp2_with (first | (go_at_call 44; (with_reducible refine (cf _ HB.out).mono ?_); intro e w2 hp; obtain ⟨rfl, hb⟩ := hp; have HB := Lib.hid (HB.out.trans (hb.mono HB.out.size)); clear hb))
    go_ret
    exact ⟨rfl, HB.out⟩)
set_option maxRecDepth 100000 in
set_option maxHeartbeats 4000000 in
theorem text_14_71 {w : World} {b o : Nat} {N : Nd} (hk : KidAt w b o N) (hkk : N.kind = 14) (hs : N.text.size ≤ 1048576) : Calls Tryz.prog 22 #[.agg (scs b o 71)] w (PostR w (.bool (emptyB N.text))) := by
  obtain ⟨bN, s0, s1, n0, n1, n2, n3, n4, HB⟩ := sp_start 71 hk
  have HBN := Lib.hid bN
  have HK := Lib.hid hk
  rw [hkk] at n0
  have lds := run_ldS bN
  have cf := fun W (hb : Below w.heap.size w W) => fname_71 (w := W) (b := b) (o := o) (N := N) ⟨kept_lt (kept_below hb) hk.lt, hk.at_.kept (kept_below hb) hk.lt⟩ hs
  obtain ⟨q, hq⟩ : ∃ q, (emptyB N.text) = q := ⟨_, rfl⟩
  rw [hq] at cf ⊢
  clear hq
  clear hk bN hs hkk
  cases q
  all_goals (
    go_enter Tryz.func22, Tryz.ntmps22
    go_wp2_with (first | (go_at_call 44; (with_reducible refine (cf _ HB.out).mono ?_); intro e w2 hp; obtain ⟨rfl, hb⟩ := hp; have HB := Lib.hid (HB.out.trans (hb.mono HB.out.size)); clear hb))
    go_ret
    exact ⟨rfl, HB.out⟩)
set_option maxRecDepth 100000 in
set_option maxHeartbeats 4000000 in
theorem text_14_72 {w : World} {b o : Nat} {N : Nd} (hk : KidAt w b o N) (hkk : N.kind = 14) (hs : N.text.size ≤ 1048576) : Calls Tryz.prog 22 #[.agg (scs b o 72)] w (PostR w (.bool (emptyB N.text))) := by
  obtain ⟨bN, s0, s1, n0, n1, n2, n3, n4, HB⟩ := sp_start 72 hk
  have HBN := Lib.hid bN
  have HK := Lib.hid hk
  rw [hkk] at n0
  have lds := run_ldS bN
  have cf := fun W (hb : Below w.heap.size w W) => fname_72 (w := W) (b := b) (o := o) (N := N) ⟨kept_lt (kept_below hb) hk.lt, hk.at_.kept (kept_below hb) hk.lt⟩ hs
  obtain ⟨q, hq⟩ : ∃ q, (emptyB N.text) = q := ⟨_, rfl⟩
  rw [hq] at cf ⊢
  clear hq
  clear hk bN hs hkk
  cases q
  all_goals (
    go_enter Tryz.func22, Tryz.ntmps22
    go_wp2_with (first | (go_at_call 44; (with_reducible refine (cf _ HB.out).mono ?_); intro e w2 hp; obtain ⟨rfl, hb⟩ := hp; have HB := Lib.hid (HB.out.trans (hb.mono HB.out.size)); clear hb))
    go_ret
    exact ⟨rfl, HB.out⟩)
set_option maxRecDepth 100000 in
set_option maxHeartbeats 4000000 in
theorem text_15 {w : World} {b o : Nat} {N : Nd} {p : Int} (hk : KidAt w b o N) (hkk : N.kind = 15) (hs : N.text.size ≤ 1048576) : Calls Tryz.prog 22 #[.agg (scs b o p)] w (PostR w (.bool (nameB N.text && (wordF N.text.toList != 2)))) := by
  obtain ⟨bN, s0, s1, n0, n1, n2, n3, n4, HB⟩ := sp_start p hk
  have HBN := Lib.hid bN
  have HK := Lib.hid hk
  rw [hkk] at n0
  have cn := fun W => isName_any N.text W hs
  obtain ⟨q, hq⟩ : ∃ q, nameB N.text = q := ⟨_, rfl⟩
  rw [hq] at cn ⊢
  have cw := fun W => word_any N.text W
  obtain ⟨v, hv⟩ : ∃ v, wordF N.text.toList = v := ⟨_, rfl⟩
  rw [hv] at cw ⊢
  obtain ⟨u, hu⟩ : ∃ u, (v != 2) = u := ⟨_, rfl⟩
  have fu : ((v : Int) != 2) = u := by rw [← hu, Bool.eq_iff_iff]; simp; try omega
  rw [hu]
  clear hq hv hu
  clear hk bN hs hkk
  cases q; rotate_left; cases u
  all_goals (
    go_enter Tryz.func22, Tryz.ntmps22
    go_wp2_with (first | (go_at_call 45; (with_reducible refine (cn _).mono ?_); intro e w2 hp; obtain ⟨rfl, hb⟩ := hp; have HB := Lib.hid (HB.out.trans (hb.mono HB.out.size)); clear hb) | (go_at_call 46; (with_reducible refine (cw _).mono ?_); rintro e w2 ⟨rfl, rfl⟩))
    go_ret
    exact ⟨rfl, HB.out⟩)
set_option maxRecDepth 100000 in
set_option maxHeartbeats 4000000 in
theorem text_19 {w : World} {b o : Nat} {N : Nd} {p : Int} (hk : KidAt w b o N) (hkk : N.kind = 19) (hs : N.text.size ≤ 1048576) : Calls Tryz.prog 22 #[.agg (scs b o p)] w (PostR w (.bool (unL.contains N.text.data.toList))) := by
  obtain ⟨bN, s0, s1, n0, n1, n2, n3, n4, HB⟩ := sp_start p hk
  have HBN := Lib.hid bN
  have HK := Lib.hid hk
  rw [hkk] at n0
  have cu := fun W => isUnary_any N.text W
  obtain ⟨q, hq⟩ : ∃ q, unL.contains N.text.data.toList = q := ⟨_, rfl⟩
  rw [hq] at cu ⊢
  clear hq
  clear hk bN hs hkk
  cases q
  all_goals (
    go_enter Tryz.func22, Tryz.ntmps22
    go_wp2_with (first | (go_at_call 47; (with_reducible refine (cu _).mono ?_); intro e w2 hp; obtain ⟨rfl, hb⟩ := hp; have HB := Lib.hid (HB.out.trans (hb.mono HB.out.size)); clear hb))
    go_ret
    exact ⟨rfl, HB.out⟩)
set_option maxRecDepth 100000 in
set_option maxHeartbeats 4000000 in
theorem text_20 {w : World} {b o : Nat} {N : Nd} {p : Int} (hk : KidAt w b o N) (hkk : N.kind = 20) (hs : N.text.size ≤ 1048576) : Calls Tryz.prog 22 #[.agg (scs b o p)] w (PostR w (.bool (binL.contains N.text.data.toList))) := by
  obtain ⟨bN, s0, s1, n0, n1, n2, n3, n4, HB⟩ := sp_start p hk
  have HBN := Lib.hid bN
  have HK := Lib.hid hk
  rw [hkk] at n0
  have cu := fun W => isBinary_any N.text W
  obtain ⟨q, hq⟩ : ∃ q, binL.contains N.text.data.toList = q := ⟨_, rfl⟩
  rw [hq] at cu ⊢
  clear hq
  clear hk bN hs hkk
  cases q
  all_goals (
    go_enter Tryz.func22, Tryz.ntmps22
    go_wp2_with (first | (go_at_call 48; (with_reducible refine (cu _).mono ?_); intro e w2 hp; obtain ⟨rfl, hb⟩ := hp; have HB := Lib.hid (HB.out.trans (hb.mono HB.out.size)); clear hb))
    go_ret
    exact ⟨rfl, HB.out⟩)
set_option maxRecDepth 100000 in
set_option maxHeartbeats 4000000 in
theorem text_else {w : World} {b o : Nat} {N : Nd} {p : Int} (hk : KidAt w b o N) {k : Int} (hkk : N.kind = k) (hno : k ≠ 2 ∧ k ≠ 12 ∧ k ≠ 13 ∧ k ≠ 8 ∧ k ≠ 30 ∧ k ≠ 31 ∧ k ≠ 39 ∧ k ≠ 14 ∧ k ≠ 15 ∧ k ≠ 19 ∧ k ≠ 20) : Calls Tryz.prog 22 #[.agg (scs b o p)] w (PostR w (.bool (emptyB N.text))) := by
  obtain ⟨bN, s0, s1, n0, n1, n2, n3, n4, HB⟩ := sp_start p hk
  have HBN := Lib.hid bN
  have HK := Lib.hid hk
  rw [hkk] at n0
  have f2 : (k == 2) = false := by simp; omega
  have f12 : (k == 12) = false := by simp; omega
  have f13 : (k == 13) = false := by simp; omega
  have f8 : (k == 8) = false := by simp; omega
  have f30 : (k == 30) = false := by simp; omega
  have f31 : (k == 31) = false := by simp; omega
  have f39 : (k == 39) = false := by simp; omega
  have f14 : (k == 14) = false := by simp; omega
  have f15 : (k == 15) = false := by simp; omega
  have f19 : (k == 19) = false := by simp; omega
  have f20 : (k == 20) = false := by simp; omega
  obtain ⟨z, hz⟩ : ∃ z, emptyB N.text = z := ⟨_, rfl⟩
  have fz : N.text.toList.isEmpty = z := by rw [← hz, tl_data]; rfl
  rw [hz]
  clear hz
  clear hk bN hkk hno
  cases z
  all_goals (
    go_enter Tryz.func22, Tryz.ntmps22
    go_wp2
    go_ret
    exact ⟨rfl, HB.out⟩)
set_option maxRecDepth 100000 in
set_option maxHeartbeats 4000000 in
theorem num_1 {w : World} {b o : Nat} {N : Nd} {p : Int} (hk : KidAt w b o N) (hkk : N.kind = 1) : Calls Tryz.prog 24 #[.agg (scs b o p)] w (PostR w (.bool (decide (0 ≤ N.num) && decide (-9007199254740991 ≤ N.num ∧ N.num ≤ 9007199254740991)))) := by
  obtain ⟨bN, s0, s1, n0, n1, n2, n3, n4, HB⟩ := sp_start p hk
  have HBN := Lib.hid bN
  have HK := Lib.hid hk
  rw [hkk] at n0
  have hb2 : (N.kind == 1) = true := by rw [hkk]; rfl
  have cw := fun W (hb : Below w.heap.size w W) => valueOf_1 (w := W) (b := b) (o := o) (N := N) ⟨kept_lt (kept_below hb) hk.lt, hk.at_.kept (kept_below hb) hk.lt⟩ hb2
  have cr := fun W => vRight 3 N.num noS W (by decide)
  rw [rightF_3] at cr
  obtain ⟨q, hq⟩ : ∃ q, decide (-9007199254740991 ≤ N.num ∧ N.num ≤ 9007199254740991) = q := ⟨_, rfl⟩
  rw [hq] at cr ⊢
  obtain ⟨u, hu⟩ : ∃ u, decide (0 ≤ N.num) = u := ⟨_, rfl⟩
  rw [hu]
  clear hq hb2
  clear hk bN hkk
  cases u; rotate_left; cases q
  all_goals (
    go_enter Tryz.func24, Tryz.ntmps24
    go_wp2_with (first | (go_at_call 42; (with_reducible refine (cw _ HB.out).mono ?_); intro e w2 hp; obtain ⟨rfl, hb⟩ := hp; have HB := Lib.hid (HB.out.trans (hb.mono HB.out.size)); clear hb) | (go_at_call 41; (with_reducible refine (cr _).mono ?_); intro e w2 hp; obtain ⟨rfl, hb⟩ := hp; have HB := Lib.hid (HB.out.trans (hb.mono HB.out.size)); clear hb))
    go_ret
    exact ⟨rfl, HB.out⟩)
set_option maxRecDepth 100000 in
set_option maxHeartbeats 4000000 in
theorem num_38 {w : World} {b o : Nat} {N : Nd} {p : Int} (hk : KidAt w b o N) (hkk : N.kind = 38) : Calls Tryz.prog 24 #[.agg (scs b o p)] w (PostR w (.bool (decide (1 ≤ N.num) && decide (N.num ≤ 3)))) := by
  obtain ⟨bN, s0, s1, n0, n1, n2, n3, n4, HB⟩ := sp_start p hk
  have HBN := Lib.hid bN
  have HK := Lib.hid hk
  rw [hkk] at n0
  obtain ⟨u, hu⟩ : ∃ u, decide (1 ≤ N.num) = u := ⟨_, rfl⟩
  obtain ⟨q, hq⟩ : ∃ q, decide (N.num ≤ 3) = q := ⟨_, rfl⟩
  rw [hu, hq]
  clear hk bN hkk
  cases u; rotate_left; cases q
  all_goals (
    go_enter Tryz.func24, Tryz.ntmps24
    go_wp2
    go_ret
    exact ⟨rfl, HB.out⟩)
set_option maxRecDepth 100000 in
set_option maxHeartbeats 4000000 in
theorem num_else {w : World} {b o : Nat} {N : Nd} {p : Int} (hk : KidAt w b o N) {k : Int} (hkk : N.kind = k) (h1 : k ≠ 1) (h2 : k ≠ 38) : Calls Tryz.prog 24 #[.agg (scs b o p)] w (PostR w (.bool (N.num == 0))) := by
  obtain ⟨bN, s0, s1, n0, n1, n2, n3, n4, HB⟩ := sp_start p hk
  have HBN := Lib.hid bN
  have HK := Lib.hid hk
  rw [hkk] at n0
  have f1 : (k == 1) = false := by simp; omega
  have f2 : (k == 38) = false := by simp; omega
  obtain ⟨u, hu⟩ : ∃ u, (N.num == 0) = u := ⟨_, rfl⟩
  rw [hu]
  clear hk bN hkk h1 h2
  cases u
  all_goals (
    go_enter Tryz.func24, Tryz.ntmps24
    go_wp2
    go_ret
    exact ⟨rfl, HB.out⟩)
end Go.Proofs.YtinoaajohkafmaaGreat.Pr

/-
  Trees that may be have no text of more than 2^20 bytes.
-/
namespace Go.Proofs.YtinoaajohkafmaaGreat.Pr
open Go.Proofs.YtinoaajohkafmaaGreat.Pa Go.Proofs.YtinoaajohkafmaaGreat.Uni
open Go.Proofs.YtinoaajohkafmaaGreat.Lx
set_option linter.unusedVariables false
set_option linter.unusedSimpArgs false
end Go.Proofs.YtinoaajohkafmaaGreat.Pr

/-
  The printer's Right.
-/
namespace Go.Proofs.YtinoaajohkafmaaGreat.Pr
open Go Go.RowKit Go.Proofs.YtinoaajohkafmaaGreat.Pa Go.Proofs.YtinoaajohkafmaaGreat.Uni
open Go.Proofs.YtinoaajohkafmaaGreat.Lx
set_option linter.unusedVariables false
set_option linter.unusedSimpArgs false
theorem place14 {p : UInt8} (hp : Plc p) (h : kindB p 14 = true) : p = 65 ∨ p = 70 ∨ p = 71 ∨ p = 72 := by
  rcases hp with rfl | rfl | rfl | rfl | rfl | rfl | rfl | rfl | rfl | rfl | rfl <;> first | (exact absurd h (by decide)) | simp
theorem text_any {p : UInt8} (hp : Plc p) {w : World} {b o : Nat} {N : Nd} {k : Int} {tx : ByteArray} (hk : KidAt w b o N) (hkk : N.kind = k) (htx : N.text = tx) (hs : tx.size ≤ 1048576) (hb : kindB p k = true) : Calls Tryz.prog 22 #[.agg (scs b o (p.toNat : Int))] w (PostR w (.bool (textB p k tx))) := by
  subst htx
  by_cases h2 : k = 2
  · subst h2; exact text_2 hk hkk hs
  by_cases h12 : k = 12
  · subst h12; exact text_12 hk hkk hs
  by_cases h13 : k = 13
  · subst h13; exact text_13 hk hkk hs
  by_cases h8 : k = 8
  · subst h8; exact text_8 hk hkk hs
  by_cases h30 : k = 30
  · subst h30; exact text_30 hk hkk hs
  by_cases h31 : k = 31
  · subst h31; exact text_31 hk hkk hs
  by_cases h39 : k = 39
  · subst h39; exact text_39 hk hkk hs
  by_cases h14 : k = 14
  · subst h14
    rcases place14 hp hb with rfl | rfl | rfl | rfl
    · exact text_14_65 hk hkk hs
    · exact text_14_70 hk hkk hs
    · exact text_14_71 hk hkk hs
    · exact text_14_72 hk hkk hs
  by_cases h15 : k = 15
  · subst h15
    have e : textB p 15 N.text = (nameB N.text && (wordF N.text.toList != 2)) := by
      unfold textB propB
      rw [if_neg (by decide), if_neg (by decide), if_neg (by decide), if_pos rfl, tl_data]
      rcases (by unfold wordF; split; exact .inr (.inl rfl); split; exact .inr (.inr rfl); exact .inl rfl : wordF N.text.data.toList = 0 ∨ wordF N.text.data.toList = 1 ∨ wordF N.text.data.toList = 2) with h | h | h <;> rw [h] <;> rfl
    rw [e]
    exact text_15 hk hkk hs
  by_cases h19 : k = 19
  · subst h19; exact text_19 hk hkk hs
  by_cases h20 : k = 20
  · subst h20; exact text_20 hk hkk hs
  have e : textB p k N.text = emptyB N.text := by
    unfold textB
    rw [if_neg (by omega), if_neg (by omega), if_neg h14, if_neg h15, if_neg h19, if_neg h20]
  rw [e]
  exact text_else hk hkk ⟨h2, h12, h13, h8, h30, h31, h39, h14, h15, h19, h20⟩
theorem names_any {p : UInt8} {w : World} {b o : Nat} {N : Nd} {k n : Int} {tx : ByteArray} {ns : List ByteArray} {ks : List Tree} (h : TAt w b o (.mk k n tx ns ks) N) (hs : ∀ x ∈ ns, x.size ≤ 1048576) : Calls Tryz.prog 23 #[.agg (scs b o (p.toNat : Int))] w (PostR w (.bool (namesB p k ns))) := by
  unfold namesB
  by_cases h1 : k ≠ 14 ∨ p = 71
  · rw [if_pos h1]
    refine names_none h ?_
    rcases h1 with h1 | h1
    · exact .inl h1
    · right; rw [h1]; rfl
  · rw [if_neg h1]
    have h14 : k = 14 := by
      by_cases h : k = 14
      · exact h
      · exact absurd (.inl h) h1
    have h71 : p ≠ 71 := fun h => h1 (.inr h)
    subst h14
    by_cases h2 : p = 72 ∧ ns.length ≠ 1
    · rw [if_pos h2]
      obtain ⟨rfl, h3⟩ := h2
      exact names_set h h3
    · rw [if_neg h2]
      by_cases h72 : p = 72
      · subst h72
        have h3 : ns.length = 1 := by
          by_cases h : ns.length = 1
          · exact h
          · exact absurd ⟨rfl, h⟩ h2
        exact names_one h hs h3
      · refine names_all h hs ⟨fun e => h71 ?_, fun e => h72 ?_⟩
        · apply UInt8.toNat_inj.1; exact_mod_cast e
        · apply UInt8.toNat_inj.1; exact_mod_cast e
theorem num_anyP {p : UInt8} {w : World} {b o : Nat} {N : Nd} {k n : Int} (hk : KidAt w b o N) (hkk : N.kind = k) (hn : N.num = n) : Calls Tryz.prog 24 #[.agg (scs b o (p.toNat : Int))] w (PostR w (.bool (numB k n))) := by
  subst hn
  by_cases h1 : k = 1
  · subst h1
    have e : numB 1 N.num = (decide (0 ≤ N.num) && decide (-9007199254740991 ≤ N.num ∧ N.num ≤ 9007199254740991)) := by
      unfold numB
      rw [if_pos rfl, Bool.eq_iff_iff]
      simp
      omega
    rw [e]
    exact num_1 hk hkk
  by_cases h38 : k = 38
  · subst h38
    have e : numB 38 N.num = (decide (1 ≤ N.num) && decide (N.num ≤ 3)) := by
      unfold numB
      rw [if_neg (by decide), if_pos rfl, Bool.eq_iff_iff]
      simp
    rw [e]
    exact num_38 hk hkk
  have e : numB k N.num = (N.num == 0) := by
    unfold numB
    rw [if_neg h1, if_neg h38]
    rfl
  rw [e]
  exact num_else hk hkk h1 h38
def Bnd (K : Nat) : Nat → Tree → Prop
  | 0, _ => False
  | d + 1, .mk _ _ _ _ ks => ks.length ≤ K ∧ ∀ t ∈ ks, Bnd K d t
structure Ent where
  s : Spt
  t : Tree
  N : Nd
  d : Nat
structure Good (K D : Nat) (wB : World) (q : Nat) (e : Ent) : Prop where
  pl : Plc e.s.p
  at_ : TAt wB e.s.b e.s.o e.t e.N
  bnd : Bnd K e.d e.t
  str : Str e.t
  le : e.d ≤ D
  ix : q ≤ K * (D - e.d)
def Stk (K D : Nat) (wB : World) (st : List Ent) : Prop := ∀ (q : Nat) (e : Ent), st[q]? = some e → Good K D wB q e
def szE (st : List Ent) : Nat := (st.map fun e => e.t.sz).sum
def allE (st : List Ent) : Bool := st.all fun e => okT e.s.p e.t
theorem Stk.head {K D : Nat} {wB : World} {st : List Ent} {e : Ent} (h : Stk K D wB (st ++ [e])) : Stk K D wB st ∧ Good K D wB st.length e := by
  refine ⟨fun q x hx => h q x ?_, h st.length e (by simp)⟩
  rw [List.getElem?_append_left (List.getElem?_eq_some_iff.1 hx).1]
  exact hx
theorem okKs_len : ∀ {ps : By} {ts : List Tree}, ps.length ≠ ts.length → okKs ps ts = false
  | [], [], h => absurd rfl h
  | [], _ :: _, _ => by unfold okKs; rfl
  | _ :: _, [], _ => by unfold okKs; rfl
  | p :: ps, t :: ts, h => by
    unfold okKs
    rw [okKs_len (by simpa using h), Bool.and_false]
theorem push_all {K D : Nat} {wB : World} {d b2 o2 : Nat} : ∀ (i : Nat) (ps : By) (ts : List Tree), ps.length = ts.length → (∀ c ∈ ps, Plc c) → (∀ j t, ts[j]? = some t → ∃ x, TAt wB b2 (o2 + (i + j) * 5) t x) → (∀ t ∈ ts, Bnd K d t ∧ Str t) →
    ∃ es : List Ent, es.map (fun e => e.s) = newS b2 o2 i ps ∧ allE es = okKs ps ts ∧ szE es = szs ts ∧ es.length = ts.length ∧ ∀ (q : Nat) (e : Ent), es[q]? = some e → Plc e.s.p ∧ TAt wB e.s.b e.s.o e.t e.N ∧ Bnd K e.d e.t ∧ Str e.t ∧ e.d = d
  | i, [], [], _, _, _, _ => ⟨[], rfl, by unfold okKs; rfl, rfl, rfl, fun q e h => by simp at h⟩
  | i, c :: ps, t :: ts, hl, hp, ha, hb => by
    obtain ⟨es, h1, h2, h3, h4, h5⟩ := push_all (K := K) (D := D) (wB := wB) (d := d) (b2 := b2) (o2 := o2) (i + 1) ps ts (by simpa using hl) (fun x hx => hp x (by simp [hx])) (fun j x hx => by
      obtain ⟨y, hy⟩ := ha (j + 1) x (by simpa using hx)
      exact ⟨y, by rw [show i + 1 + j = i + (j + 1) from by omega]; exact hy⟩) (fun x hx => hb x (by simp [hx]))
    obtain ⟨x, hx⟩ := ha 0 t rfl
    refine ⟨⟨⟨b2, o2 + i * 5, c⟩, t, x, d⟩ :: es, ?_, ?_, ?_, ?_, ?_⟩
    · rw [List.map_cons, h1]; rfl
    · unfold okKs
      rw [← h2]
      rfl
    · unfold szs
      rw [← h3]
      rfl
    · simp [h4]
    · intro q e he
      cases q with
      | zero =>
        simp at he
        subst he
        exact ⟨hp c (by simp), by simpa using hx, (hb t (by simp)).1, (hb t (by simp)).2, rfl⟩
      | succ q => exact h5 q e (by simpa using he)
  | i, [], t :: ts, hl, _, _, _ => by simp at hl
  | i, c :: ps, [], hl, _, _, _ => by simp at hl
end Go.Proofs.YtinoaajohkafmaaGreat.Pr
