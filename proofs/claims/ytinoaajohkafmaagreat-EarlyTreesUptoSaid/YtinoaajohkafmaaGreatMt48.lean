/-
  Texts of this seat in build order: RlOk, RlEx, EyAlive, EyBnd, PwBig, EyLawT.
-/
import Derived.Test.YtinoaajohkafmaaGreatMt47
import Derived.Test.YtinoaajohkafmaaGreatMt29
import Derived.Test.YtinoaajohkafmaaGreatMt30
import Derived.Lib.SlBytesRow
import Derived.Lib.ConvBytes
import Derived.Lib.SlBytesConst
import Derived.Test.YtinoaajohkafmaaGreatMt07
import Derived.Test.YtinoaajohkafmaaGreatMt18
import Derived.Test.YtinoaajohkafmaaGreatMt21
import Derived.Deep.RegionHeld3
/-
  The reference's Parse at a text of names and signs.
-/
namespace Go.Proofs.YtinoaajohkafmaaGreat.Rl
open Go Go.RowKit Go.Proofs.YtinoaajohkafmaaGreat.Uni Go.Proofs.YtinoaajohkafmaaGreat.Lx
set_option linter.unusedVariables false
set_option linter.unusedSimpArgs false
theorem okl_cons {t : Tok} {l : List Tok} (h : Pa.okL l) : Pa.okL (t :: l) := by
  cases l with
  | nil => exact h.elim
  | cons u r => exact h
theorem ext_first {s : ByteArray} {q e : Nat} (hqe : q < e) : B (s.extract q e) 0 = B s q := by
  have h : (s.extract q e).data.toList = (s.data.toList.drop q).take (e - q) := by simp [ByteArray.data_extract]
  unfold B
  rw [h, List.getElem?_take_of_lt (by omega), List.getElem?_drop]
  rfl
theorem rtk_facts {s : ByteArray} {p : Nat} {L : List Tok} (h : RTk s p L) : Pa.okL L ∧ (∀ t ∈ L, t.num = 0) ∧ Rp.WordsOk L := by
  induction h with
  | fin p hq =>
    refine ⟨.inl rfl, by simp, ?_⟩
    intro t ht hk
    rw [List.mem_singleton.1 ht] at hk
    exact absurd hk (by simp)
  | name p q e k x l h1 h2 h3 h4 h5 h6 h7 _ ih =>
    refine ⟨okl_cons ih.1, ?_, ?_⟩
    · intro t ht
      rcases List.mem_cons.1 ht with rfl | ht
      · rfl
      · exact ih.2.1 t ht
    · intro t ht hk
      rcases List.mem_cons.1 ht with rfl | ht
      · intro hx
        have hon := name_on h2 h3 h4
        have hf := ext_first (s := s) hon.1
        rw [h5] at hf
        simp only at hx
        rw [hx] at hf
        rw [← hf] at h3
        exact absurd h3 (by decide)
      · exact ih.2.2 t ht hk
  | sign p q i l h1 h2 h3 h4 h5 h6 h7 h8 h9 _ ih =>
    refine ⟨okl_cons ih.1, ?_, ?_⟩
    · intro t ht
      rcases List.mem_cons.1 ht with rfl | ht
      · rfl
      · exact ih.2.1 t ht
    · intro t ht hk
      rcases List.mem_cons.1 ht with rfl | ht
      · exact absurd hk (by simp)
      · exact ih.2.2 t ht hk
theorem rtk_ok {s : ByteArray} {L : List Tok} (h : RTk s 0 L) (hn : L.length ≤ 100000) : Pa.OkS ⟨L, 0, 0⟩ ∧ Rp.WordsOk L := by
  obtain ⟨h1, h2, h3⟩ := rtk_facts h
  exact ⟨⟨h1, fun hf => absurd rfl hf, fun t ht => by rw [h2 t ht]; omega, hn⟩, h3⟩
theorem rparse_plain {s : ByteArray} {L : List Tok} (hL : RTk s 0 L) (hn : L.length ≤ 100000) (hs : s.size ≤ 65536) (hpl : Plain s) (ha : ∀ j, j < s.size → B s j < 128) (a0 : Option Addr) (c0 : Nat) (w : World) (hcv : (convert 33 9 (.slice a0 s.size c0)).run Tryz.prog (w.alloc (.cells (Pa.ncs Pa.zeroN) 25)) = .ok (.string s) (w.alloc (.cells (Pa.ncs Pa.zeroN) 25))) :
    Calls Tryz.prog 12 #[.slice a0 s.size c0] w (Rp.RPost (Pa.treeF L) w) := by
  have h := Rp.parse_any (q := 0) (p := 0) (l := L) a0 s.size c0 w (tokens_plain hL (by omega) hs hpl ha a0 c0 _ hcv) (fun _ => rtk_ok hL hn)
  rw [if_pos rfl] at h
  exact h
end Go.Proofs.YtinoaajohkafmaaGreat.Rl

/-
  The reference's Parse at the example's two texts.
-/
namespace Go.Proofs.YtinoaajohkafmaaGreat.Rl
open Go Go.RowKit Go.Proofs.YtinoaajohkafmaaGreat.Uni Go.Proofs.YtinoaajohkafmaaGreat.Lx
set_option linter.unusedVariables false
set_option linter.unusedSimpArgs false
def retS : ByteArray := ⟨#[114, 101, 116, 117, 114, 110, 59]⟩
def aS : ByteArray := ⟨#[97, 59]⟩
def retL : List Tok := [⟨2, 0, 0, ⟨#[114, 101, 116, 117, 114, 110]⟩⟩, ⟨5, 6, 0, ⟨#[59]⟩⟩, ⟨0, 7, 0, ⟨#[]⟩⟩]
def aL : List Tok := [⟨1, 0, 0, ⟨#[97]⟩⟩, ⟨5, 1, 0, ⟨#[59]⟩⟩, ⟨0, 2, 0, ⟨#[]⟩⟩]
theorem ret_rtk : RTk retS 0 retL :=
  .name 0 0 6 1 ⟨#[114, 101, 116, 117, 114, 110]⟩ _ (by decide +kernel) (by decide) (by decide +kernel) (by decide +kernel) (by decide +kernel) (by decide +kernel) (by decide)
    (.sign 6 6 12 _ (by decide +kernel) (by decide) (by decide +kernel) (by decide +kernel) (by decide +kernel) (by decide +kernel) (by decide) (by decide +kernel) (by decide +kernel)
      (.fin 7 (by decide +kernel)))
theorem a_rtk : RTk aS 0 aL :=
  .name 0 0 1 0 ⟨#[97]⟩ _ (by decide +kernel) (by decide) (by decide +kernel) (by decide +kernel) (by decide +kernel) (by decide +kernel) (by decide)
    (.sign 1 1 12 _ (by decide +kernel) (by decide) (by decide +kernel) (by decide +kernel) (by decide +kernel) (by decide +kernel) (by decide) (by decide +kernel) (by decide +kernel)
      (.fin 2 (by decide +kernel)))
theorem plain_small {s : ByteArray} (h : ∀ j, j < s.size → B s j ≠ 47) : Plain s := fun j => by
  by_cases hj : j < s.size
  · exact h j hj
  · have : B s j = 0 := by
      unfold B
      have hl : s.data.toList.length = s.size := rfl
      rw [List.getElem?_eq_none (by omega)]
      rfl
    omega
theorem ret_plain : Plain retS := plain_small (by decide +kernel)
theorem a_plain : Plain aS := plain_small (by decide +kernel)
theorem ret_ascii : ∀ j, j < retS.size → B retS j < 128 := by decide +kernel
theorem a_ascii : ∀ j, j < aS.size → B aS j < 128 := by decide +kernel
open Pa in
theorem ret_tree : treeF retL = (node 44 [node 36 []], 0, 0) := by kernel_rfl
open Pa in
theorem a_tree : treeF aL = (node 44 [node 33 [.mk 8 0 ⟨#[97]⟩ [] []]], 0, 0) := by kernel_rfl
end Go.Proofs.YtinoaajohkafmaaGreat.Rl

/-
  The example of the document.
-/
namespace Go.Proofs.YtinoaajohkafmaaGreat.Ey
open Go Go.RowKit Go.Maps Go.Proofs.YtinoaajohkafmaaGreat.Pa Go.Proofs.YtinoaajohkafmaaGreat.Pr
open Go.Proofs.YtinoaajohkafmaaGreat.Rl (retS aS retL aL)
open Go.Proofs.YtinoaajohkafmaaGreat.Lx
set_option linter.unusedVariables false
set_option linter.unusedSimpArgs false
attribute [local go_sem ↓] ldK stK alK bdK bsK ldN stN alN bdN bsN
attribute [local irreducible] kcs ncs ncells
attribute [local go_sem] run_alN run_stNg run_ldNg run_bdN0
theorem rp_new {s : ByteArray} {L : List Tok} {T : Tree} {n : Nat} {C : Array Value} {g : Nat × Nat} (hn : s.size = n) (hC : ∀ i, i < s.size → C[i]? = some (.int .u8 (s.data.toList.getD i 0).toNat)) (hL : Rl.RTk s 0 L) (hl : L.length ≤ 100000) (hs : s.size ≤ 65536) (hpl : Rl.Plain s) (ha : ∀ j, j < s.size → Uni.B s j < 128) (hT : treeF L = (T, 0, 0)) (cap : Nat) (w : World) :
    Calls Tryz.prog 12 #[.slice (some ⟨w.heap.size, 0, none⟩) n cap] (w.alloc (.cells C 5 g)) fun e w' => ∃ N, e = .returned (.tuple #[.agg (ncs N), .int .i64 0, .int .i64 0]) ∧ Pr.Rd w' T N ∧ Below w.heap.size w w' := by
  subst hn
  have h := Rl.rparse_plain hL hl hs hpl ha (some ⟨w.heap.size, 0, none⟩) cap (w.alloc (.cells C 5 g)) (Lib.run_convert_whole (P := Tryz.prog) _ 33 5 9 Tryz.underlying33 Tryz.underlying5 Tryz.underlying9 _ 0 s (fun i hi => by
    rw [Nat.zero_add]
    have hg : (w.alloc (.cells C 5 g)).heap[w.heap.size]? = some (.cells C 5 g) := heap_alloc_new w _
    have hc : (w.alloc (.cells C 5 g)).cell? ⟨w.heap.size, i, none⟩ = some (.int .u8 (s.data.toList.getD i 0).toNat) := by
      simp only [World.cell?, hg]
      exact hC i hi
    rw [World.cell?_alloc_past _ _ _ (World.block_lt_of_cell? _ _ hc), hc]
    rw [List.getD_eq_getElem?_getD, List.getElem?_eq_getElem hi]
    rfl) cap)
  rw [hT] at h
  refine h.mono ?_
  rintro e w' ⟨N, h1, h2, h3⟩
  have hb : Below w.heap.size w (w.alloc (.cells C 5 g)) := bel1
  exact ⟨N, h1, rep_rd _ _ h2, hb.trans (h3.mono hb.size)⟩
def retT : Tree := node 44 [node 36 []]
def aT : Tree := node 44 [node 33 [.mk 8 0 ⟨#[97]⟩ [] []]]
theorem ret_check : checkN retT = 2 := by decide +kernel
theorem a_check : checkN aT = 0 := by decide +kernel
theorem ret_bd : Bd 12 13 retT := by unfold retT node; simp [Bd]
theorem a_bd : Bd 12 13 aT := by unfold aT node; simp [Bd]
theorem ret_str : Str retT := by unfold retT node; simp [Str, Strs]; decide
theorem a_str : Str aT := by unfold aT node; simp [Str, Strs]; decide
theorem num_any (n : Int) (w : World) : Calls Tryz.prog 9 #[.int .i64 n] w fun e w' => e = .returned (.int .i64 n) ∧ w' = w := by
  go_enter Tryz.func9, Tryz.ntmps9
  go_wp2
  go_ret
  exact ⟨rfl, rfl⟩
abbrev retC : Array Value := #[.int .u8 114, .int .u8 101, .int .u8 116, .int .u8 117, .int .u8 114, .int .u8 110, .int .u8 59]
abbrev aC : Array Value := #[.int .u8 97, .int .u8 59]
theorem ret_cells : ∀ i, i < retS.size → retC[i]? = some (.int .u8 (retS.data.toList.getD i 0).toNat) := fun i hi => by
  have hi2 : i < 7 := hi
  rcases (by omega : i = 0 ∨ i = 1 ∨ i = 2 ∨ i = 3 ∨ i = 4 ∨ i = 5 ∨ i = 6) with rfl | rfl | rfl | rfl | rfl | rfl | rfl <;> rfl
theorem a_cells : ∀ i, i < aS.size → aC[i]? = some (.int .u8 (aS.data.toList.getD i 0).toNat) := fun i hi => by
  have hi2 : i < 2 := hi
  rcases (by omega : i = 0 ∨ i = 1) with rfl | rfl <;> rfl
set_option maxRecDepth 100000 in
set_option maxHeartbeats 4000000 in
theorem alive_any (w : World) : Calls Tryz.prog 7 #[] w (PostR w (.bool true)) := by
  have h1 := rp_new (n := 7) (g := (7, 8)) (C := retC) rfl ret_cells Rl.ret_rtk (by decide) (by decide) Rl.ret_plain Rl.ret_ascii Rl.ret_tree 7 w
  have h2 := fun w => rp_new (n := 2) (g := (2, 3)) (C := aC) rfl a_cells Rl.a_rtk (by decide) (by decide) Rl.a_plain Rl.a_ascii Rl.a_tree 2 w
  have hk := Lib.run_convert_bytes_const (P := Tryz.prog) w 33 5 retC 7 7 Tryz.underlying33 Tryz.underlying5
  have hk2 : retC.size = 7 := rfl
  rw [hk2] at hk
  have H2 := Lib.hid h2
  clear hk2 h2
  go_enter Tryz.func7, Tryz.ntmps7
  go_wp2_with (go_at_call 12; (with_reducible refine h1.mono ?_); rintro e w1 ⟨N, rfl, hr, hb1⟩; refine Hid.out ?_)
  refine Lib.hid ?_
  have bN := Blk.new w1 (ncs N) 25
  have hbx : Below w1.heap.size w1 (w1.alloc (.cells (ncs N) 25)) := bel1
  have hk := Lib.run_convert_bytes_const (P := Tryz.prog) (w1.alloc (.cells (ncs N) 25)) 33 5 aC 2 2 Tryz.underlying33 Tryz.underlying5
  have hk2 : aC.size = 2 := rfl
  rw [hk2] at hk
  have h3 := H2.out (w1.alloc (.cells (ncs N) 25))
  have e1 : (w1.alloc (.cells (ncs N) 25)).heap.size = w1.heap.size + 1 := by simp
  rw [e1] at hk h3
  have HE1 := Lib.hid e1
  have HR := Lib.hid hr
  have HB1 := Lib.hid hb1
  have HBX := Lib.hid hbx
  have HBN := Lib.hid bN
  clear hr hb1 hbx hk2 H2 bN e1
  go_wp2_with (go_at_call 12; (with_reducible refine h3.mono ?_); rintro e w2 ⟨M, rfl, hr, hb1⟩; refine Hid.out ?_)
  refine Lib.hid ?_
  rw [← HE1.out] at hb1
  have bM := Blk.new w2 (ncs M) 25
  have hb2 : Below w1.heap.size w1 w2 := HBX.out.trans (hb1.mono HBX.out.size)
  have hbx : Below w2.heap.size w2 (w2.alloc (.cells (ncs M) 25)) := bel1
  have bN2 := HBN.out.call (hb1.trans (hbx.mono hb1.size))
  have hb3 := hb2.trans (hbx.mono hb2.size)
  have l1 := run_ldN bN2
  have cN : Calls Tryz.prog 10 #[.agg (ncs N)] (w2.alloc (.cells (ncs M) 25)) (PostR (w2.alloc (.cells (ncs M) 25)) (.int .i64 2)) := by
    have := check_any (t := retT) (HR.out.below hb3) ret_str ret_bd (by decide) (by decide)
    rw [ret_check] at this
    exact this
  have HSx : Hid (∀ W, Below (w2.alloc (.cells (ncs M) 25)).heap.size (w2.alloc (.cells (ncs M) 25)) W → (Calls Tryz.prog 10 #[.agg (ncs M)] W (PostR W (.int .i64 0)) ∧ (Ld 25 (.pointer (some ⟨w2.heap.size, 0, none⟩))).run Tryz.prog W = .ok (.agg (ncs M)) W)) := Lib.hid fun W hb => ⟨by
    have := check_any (t := aT) (hr.below (hbx.trans (hb.mono hbx.size))) a_str a_bd (by decide) (by decide)
    rw [a_check] at this
    exact this, run_ldN (bM.call hb)⟩
  have HB3 := Lib.hid (HB1.out.trans (hb3.mono HB1.out.size))
  clear hr hb1 hbx bM bN2 hb2 hb3 HR HBX HBN HB1 h3 hk h1
  go_wp2_with (first | (go_at_call 10; (with_reducible refine cN.mono ?_); intro e w3 hp; obtain ⟨rfl, hb⟩ := hp; have l2 := (HSx.out _ hb).2; have cM := (HSx.out _ hb).1; have HB4 := Lib.hid hb; clear hb cN) | (go_at_call 10; (with_reducible refine cM.mono ?_); intro e w4 hp; obtain ⟨rfl, hb⟩ := hp; have HB5 := Lib.hid (HB4.out.trans (hb.mono HB4.out.size)); clear hb) | (go_at_call 9; (with_reducible refine (num_any _ _).mono ?_); rintro e w5 ⟨rfl, hw⟩; subst w5))
  go_ret
  exact ⟨rfl, HB3.out.trans (HB5.out.mono HB3.out.size)⟩
end Go.Proofs.YtinoaajohkafmaaGreat.Ey

/-
  How much a tree holds.
-/
namespace Go.Proofs.YtinoaajohkafmaaGreat.Pw
open Go.Proofs.YtinoaajohkafmaaGreat.Pr
open Go.Proofs.YtinoaajohkafmaaGreat.Pa Go.Proofs.YtinoaajohkafmaaGreat.Uni
open Go.Proofs.YtinoaajohkafmaaGreat.Lx
set_option linter.unusedVariables false
set_option linter.unusedSimpArgs false
mutual
def wei : Tree → Nat
  | .mk _ _ t ns ks => 1 + t.size + (ns.map fun x => x.size + 1).sum + weis ks
def weis : List Tree → Nat
  | [] => 0
  | t :: ts => wei t + weis ts
end
theorem name_wei {ns : List ByteArray} {x : ByteArray} (h : x ∈ ns) : x.size ≤ (ns.map fun x => x.size + 1).sum := by
  induction ns with
  | nil => cases h
  | cons a r ih =>
    simp only [List.map_cons, List.sum_cons]
    rcases List.mem_cons.1 h with rfl | h
    · omega
    · have := ih h
      omega
mutual
theorem str_wei : ∀ t : Tree, wei t ≤ 1048576 → Str t
  | .mk k n t ns ks, h => by
    unfold wei at h
    unfold Str
    exact ⟨by omega, fun x hx => by have := name_wei hx; omega, strs_wei ks (by omega)⟩
theorem strs_wei : ∀ ts : List Tree, weis ts ≤ 1048576 → Strs ts
  | [], _ => by unfold Strs; trivial
  | t :: ts, h => by
    unfold weis at h
    unfold Strs
    exact ⟨str_wei t (by omega), strs_wei ts (by omega)⟩
end
end Go.Proofs.YtinoaajohkafmaaGreat.Pw

/-
  Big: is a tree too great?
-/
namespace Go.Proofs.YtinoaajohkafmaaGreat.Pw
open Go.Proofs.YtinoaajohkafmaaGreat.Pr
open Go Go.RowKit Go.Proofs.YtinoaajohkafmaaGreat.Pa Go.Proofs.YtinoaajohkafmaaGreat.Uni
open Go.Proofs.YtinoaajohkafmaaGreat.Lx
set_option linter.unusedVariables false
set_option linter.unusedSimpArgs false
attribute [local go_sem ↓] ldK stK alK bdK bsK ldN stN alN bdN bsN
attribute [local irreducible] kcs ncs ncells
attribute [local go_sem] run_alN run_stNg run_ldNg run_bdN0
def bigF : Nat → Tree → Bool
  | 0, _ => true
  | r + 1, .mk _ _ t ns ks => decide (12 < ks.length) || (decide (12 < ns.length) || (decide (100 < t.size) || ks.any (bigF r)))
theorem any_step {f : Tree → Bool} {ts : List Tree} {i : Nat} {t : Tree} (h : ts[i]? = some t) : (ts.drop i).any f = (f t || (ts.drop (i + 1)).any f) := by
  obtain ⟨hl, rfl⟩ := List.getElem?_eq_some_iff.1 h
  rw [List.drop_eq_getElem_cons hl]
  rfl
set_option maxRecDepth 100000 in
set_option maxHeartbeats 4000000 in
theorem big_any : ∀ (r : Nat), r ≤ 13 → ∀ (t : Tree) {N : Nd} {w : World} {D : Int}, D = 13 - (r : Int) → Pr.Rd w t N → Calls Tryz.prog 8 #[.agg (ncs N), .int .i64 D] w (PostR w (.bool (bigF r t))) := by
  intro r
  induction r with
  | zero =>
    intro _ t N w D hD hr
    obtain ⟨k, n, tx, ns, ks⟩ := t
    obtain ⟨bN, n0, n1, n2, n3, n4, HB, e1, e2, e3, e4, e5⟩ := nd_start hr
    have hq : decide ((12 : Int) < D) = true := by simp; omega
    clear hD hr bN
    show Calls _ _ _ w (PostR w (.bool true))
    go_enter Tryz.func8, Tryz.ntmps8
    go_wp2
    go_ret
    exact ⟨rfl, HB.out⟩
  | succ r ih =>
    intro hr13 t N w D hD hr
    obtain ⟨k, n, tx, ns, ks⟩ := t
    obtain ⟨bN, n0, n1, n2, n3, n4, HB, e1, e2, e3, e4, e5⟩ := nd_start hr
    rw [e3] at n2
    have hq : decide ((12 : Int) < D) = false := by simp; omega
    have ih2 := fun (t : Tree) (x : Nd) (W : World) (h : Pr.Rd W t x) => ih (by omega) t (D := D + 1) (by omega) h
    have hDb : -2 ≤ D ∧ D ≤ 12 := by omega
    obtain ⟨hD1, hD2⟩ := hDb
    unfold bigF
    unfold Pr.Rd at hr
    obtain ⟨-, -, -, -, xs, hl, hr⟩ := hr
    obtain ⟨m, hm⟩ : ∃ m, ks.length = m := ⟨_, rfl⟩
    obtain ⟨m2, hm2⟩ : ∃ m2, ns.length = m2 := ⟨_, rfl⟩
    obtain ⟨a4, c4, hk4⟩ : ∃ a c, N.kids = ⟨a, m, c⟩ := ⟨_, _, by rw [← hm, ← e5]⟩
    obtain ⟨a3, c3, hk3⟩ : ∃ a c, N.names = ⟨a, m2, c⟩ := ⟨_, _, by rw [← hm2, ← e4]⟩
    rw [hk4] at n4
    rw [hk3] at n3
    simp only at n3 n4
    have f1 : decide ((12 : Int) < (m : Int)) = decide (12 < ks.length) := by rw [hm]; simp; omega
    have f2 : decide ((12 : Int) < (m2 : Int)) = decide (12 < ns.length) := by rw [hm2]; simp; omega
    have f3 : decide ((100 : Int) < (tx.size : Int)) = decide (100 < tx.size) := by simp; omega
    obtain ⟨q1, h1⟩ : ∃ q, decide (12 < ks.length) = q := ⟨_, rfl⟩
    obtain ⟨q2, h2⟩ : ∃ q, decide (12 < ns.length) = q := ⟨_, rfl⟩
    obtain ⟨q3, h3⟩ : ∃ q, decide (100 < tx.size) = q := ⟨_, rfl⟩
    rw [h1] at f1
    rw [h2] at f2
    rw [h3] at f3
    rw [h1, h2, h3]
    have HBN := Lib.hid bN
    have HL := Lib.hid hl
    have HR := Lib.hid hr
    have HM := Lib.hid hm
    have HK := Lib.hid hk4
    have HIH := Lib.hid ih2
    have HH1 := Lib.hid h1
    clear hD hl hr hm hm2 hk4 hk3 ih ih2 h1 h2 h3 e1 e2 e3 e4 e5 bN hr13
    cases q1 with
    | true =>
      go_enter Tryz.func8, Tryz.ntmps8
      go_wp2
      go_ret
      exact ⟨rfl, HB.out⟩
    | false =>
    cases q2 with
    | true =>
      go_enter Tryz.func8, Tryz.ntmps8
      go_wp2
      go_ret
      exact ⟨rfl, HB.out⟩
    | false =>
    cases q3 with
    | true =>
      go_enter Tryz.func8, Tryz.ntmps8
      go_wp2
      go_ret
      exact ⟨rfl, HB.out⟩
    | false =>
      simp only [Bool.false_or]
      obtain ⟨R, hR⟩ : ∃ R, ks.any (bigF r) = R := ⟨_, rfl⟩
      have hR0 : R = (ks.drop 0).any (bigF r) := hR.symm
      rw [hR]
      have HR0 := Lib.hid hR0
      have hm12 : (m : Int) ≤ 12 := by have := HM.out; have := HH1.out; simp at this; omega
      clear hR hR0
      go_enter Tryz.func8, Tryz.ntmps8
      go_wp2
      go_loopw [5] (fun u wr => ∃ (i : Nat), u = .int .i64 (i : Int) ∧ i ≤ m ∧ BI w wr N ∧ Hid (R = (ks.drop i).any (bigF r))) (fun u _ => m - (intOf u).toNat)
      case atStart => exact ⟨0, rfl, Nat.zero_le _, ⟨HB.out, HBN.out⟩, HR0⟩
      case round =>
        obtain ⟨i, rfl, hle, hI, hE⟩ := hrel
        have m4 := (hI.box.cell 4).trans (ncs_4 N)
        rw [HK.out] at m4
        simp only at m4
        have m4d : wr.drew.cell? ⟨w.heap.size, 4, none⟩ = some (.slice a4 m c4) := m4
        by_cases hlt : i < m
        · have hii : (i : Int) < (m : Int) := by omega
          obtain ⟨t, ht⟩ : ∃ t, ks[i]? = some t := ⟨_, List.getElem?_eq_getElem (by have := HM.out; omega)⟩
          obtain ⟨x, hx, rx⟩ := HR.out.at ht
          obtain ⟨bb, oo, hq, hlt2, hnd⟩ := HL.out.2.2.2 i x hx
          rw [HK.out] at hq
          simp only at hq
          subst hq
          have l1 := (hnd.kept (kept_below hI.bel) hlt2).ld
          have l1d : (Ld 25 (.pointer (some ⟨bb, oo + i * 5, none⟩))).run Tryz.prog wr.drew = .ok (.agg (ncs x)) wr.drew := NdAt.ld (w := wr.drew) (hnd.kept (kept_below hI.bel) hlt2)
          have cc := HIH.out t x wr (rx.below hI.bel)
          have ccd := HIH.out t x wr.drew (rx.below hI.bel.drew)
          have he := hE.out
          rw [any_step ht] at he
          have HI := Lib.hid hI
          obtain ⟨q, hr⟩ : ∃ q, bigF r t = q := ⟨_, rfl⟩
          rw [hr] at cc ccd he
          clear hx rx ht hnd hr hlt2 hE
          cases q with
          | true =>
            have HE := Lib.hid he
            clear hI he
            go_wp2_with (go_at_call 8; first | ((with_reducible refine cc.mono ?_); intro e w2 hp; obtain ⟨rfl, hb⟩ := hp; have HI2 := Lib.hid (HI.out.call hb); clear hb) | ((with_reducible refine ccd.mono ?_); intro e w2 hp; obtain ⟨rfl, hb⟩ := hp; have HI2 := Lib.hid (HI.out.call ((Below.refl _ _).drew.trans hb)); clear hb))
            go_ret
            exact ⟨by rw [HE.out]; rfl, HI2.out.bel⟩
          | false =>
            rw [Bool.false_or] at he
            have HE := Lib.hid he
            clear hI he
            go_wp2_with (go_at_call 8; first | ((with_reducible refine cc.mono ?_); intro e w2 hp; obtain ⟨rfl, hb⟩ := hp; have HI2 := Lib.hid (HI.out.call hb); clear hb) | ((with_reducible refine ccd.mono ?_); intro e w2 hp; obtain ⟨rfl, hb⟩ := hp; have HI2 := Lib.hid (HI.out.call ((Below.refl _ _).drew.trans hb)); clear hb))
            go_roundw
            case rel => exact ⟨i + 1, by go_num, by omega, HI2.out, HE⟩
            case measure => simp [intOf]; omega
        · have he := hE.out
          rw [List.drop_eq_nil_of_le (by have := HM.out; omega)] at he
          have he2 : R = false := by rw [he]; rfl
          have HE := Lib.hid he2
          have HI := Lib.hid hI
          clear hI he he2 hE
          go_wp2
          go_ret
          exact ⟨by rw [HE.out]; rfl, HI.out.bel⟩
end Go.Proofs.YtinoaajohkafmaaGreat.Pw

/-
  EarlyTrees: the walk.
-/
namespace Go.Proofs.YtinoaajohkafmaaGreat.Ey
open Go Go.RowKit Go.Maps Go.Proofs.YtinoaajohkafmaaGreat.Pa Go.Proofs.YtinoaajohkafmaaGreat.Pr
open Go.Proofs.YtinoaajohkafmaaGreat.Pw (bigF big_any wei str_wei)
open Go.Proofs.YtinoaajohkafmaaGreat.Lx
set_option linter.unusedVariables false
set_option linter.unusedSimpArgs false
attribute [local go_sem ↓] ldK stK alK bdK bsK ldN stN alN bdN bsN
attribute [local irreducible] kcs ncs ncells
attribute [local go_sem] run_alN run_stNg run_ldNg run_bdN0
theorem big_bd : ∀ (r : Nat) (t : Tree), bigF r t = false → Bd 12 r t
  | 0, t, h => by unfold Pw.bigF at h; cases h
  | r + 1, .mk k n t ns ks, h => by
    unfold Pw.bigF at h
    simp only [Bool.or_eq_false_iff, decide_eq_false_iff_not] at h
    unfold Bd
    refine ⟨by omega, by omega, fun u hu => big_bd r u ?_⟩
    have := List.any_eq_false.1 h.2.2.2 u hu
    simpa using this
theorem bel_tr {w w1 w2 : World} (h : Below w.heap.size w w1) (h2 : Below w1.heap.size w1 w2) : Below w.heap.size w w2 := h.trans (h2.mono h.size)
set_option maxRecDepth 100000 in
set_option maxHeartbeats 4000000 in
theorem trees_big {t : Tree} {N : Nd} {w : World} (hr : Pr.Rd w t N) (hbig : bigF 13 t = true) : Calls Tryz.prog 3 #[.agg (ncs N)] w (PostR w (.bool true)) := by
  have hbx : Below w.heap.size w (w.alloc (.cells (ncs N) 25)) := bel1
  have hal := alive_any (w.alloc (.cells (ncs N) 25))
  have bN := Blk.new w (ncs N) 25
  have cB : ∀ W, Below w.heap.size w W → Calls Tryz.prog 8 #[.agg (ncs N), .int .i64 0] W (PostR W (.bool true)) := fun W hb => by
    have := big_any 13 (by decide) t (D := 0) (by decide) (hr.below hb)
    rw [hbig] at this
    exact this
  have HBX := Lib.hid hbx
  have HBN := Lib.hid bN
  have HCB := Lib.hid cB
  clear hr hbig hbx bN cB
  go_enter Tryz.func3, Tryz.ntmps3
  go_wp2_with (first | (go_at_call 7; (with_reducible refine hal.mono ?_); rintro e w1 ⟨rfl, hb1⟩; have l1 := run_ldN (HBN.out.call hb1); have hb2 := HBX.out.trans (hb1.mono HBX.out.size); have cb := HCB.out _ hb2; have HB2 := Lib.hid hb2; clear hb1 hb2) | (go_at_call 8; (with_reducible refine cb.mono ?_); intro e w3 hp; obtain ⟨rfl, hb⟩ := hp; have HB3 := Lib.hid (HB2.out.trans (hb.mono HB2.out.size)); clear hb))
  go_ret
  exact ⟨rfl, HB3.out⟩
set_option maxRecDepth 100000 in
set_option maxHeartbeats 4000000 in
theorem trees_small {t : Tree} {N : Nd} {w : World} (hr : Pr.Rd w t N) (hz : wei t ≤ 1048576) (hbig : bigF 13 t = false) : Calls Tryz.prog 3 #[.agg (ncs N)] w (PostR w (.bool true)) := by
  have hbx : Below w.heap.size w (w.alloc (.cells (ncs N) 25)) := bel1
  have hal := alive_any (w.alloc (.cells (ncs N) 25))
  have bN := Blk.new w (ncs N) 25
  have cB : ∀ W, Below w.heap.size w W → Calls Tryz.prog 8 #[.agg (ncs N), .int .i64 0] W (PostR W (.bool false)) := fun W hb => by
    have := big_any 13 (by decide) t (D := 0) (by decide) (hr.below hb)
    rw [hbig] at this
    exact this
  have hbd := big_bd 13 t hbig
  have hst := str_wei t (by omega)
  obtain ⟨R, hR⟩ : ∃ R, earlyN t = R := ⟨_, rfl⟩
  have c1 : ∀ W, Below w.heap.size w W → Calls Tryz.prog 10 #[.agg (ncs N)] W (PostR W (.int .i64 R)) := fun W hb => by
    have := check_any (hr.below hb) hst hbd (by decide) (by decide)
    rw [check_early, hR] at this
    exact this
  have c2 : ∀ W, Below w.heap.size w W → Calls Tryz.prog 11 #[.agg (ncs N)] W (PostR W (.int .i64 R)) := fun W hb => by
    have := rearly_any (hr.below hb) hst hbd (by decide)
    rw [hR] at this
    exact this
  have HBX := Lib.hid hbx
  have HBN := Lib.hid bN
  have HCB := Lib.hid cB
  have H1 := Lib.hid c1
  have H2 := Lib.hid c2
  clear hr hbig hbx bN cB hbd hst hR c1 c2 hz
  go_enter Tryz.func3, Tryz.ntmps3
  go_wp2_with (first | (go_at_call 7; (with_reducible refine hal.mono ?_); rintro e w1 ⟨rfl, hb1⟩; have bN1 := HBN.out.call hb1; have l1 := run_ldN bN1; have hb2 := HBX.out.trans (hb1.mono HBX.out.size); have cb := HCB.out _ hb2; have HB2 := Lib.hid hb2; have HBN1 := Lib.hid bN1; clear hb1 hb2 bN1) | (go_at_call 8; (with_reducible refine cb.mono ?_); intro e w3 hp; obtain ⟨rfl, hb⟩ := hp; refine Hid.out ?_))
  refine Lib.hid ?_
  have hb3 := HB2.out.trans (hb.mono HB2.out.size)
  have bN3 := HBN1.out.call hb
  have d1 : ∀ W, Below w3.heap.size w3 W → Calls Tryz.prog 10 #[.agg (ncs N)] W (PostR W (.int .i64 R)) := fun W h => H1.out W (hb3.trans (h.mono hb3.size))
  have d2 : ∀ W, Below w3.heap.size w3 W → Calls Tryz.prog 11 #[.agg (ncs N)] W (PostR W (.int .i64 R)) := fun W h => H2.out W (hb3.trans (h.mono hb3.size))
  have d3 : ∀ W, Below w3.heap.size w3 W → Calls Tryz.prog 9 #[.int .i64 R] W (PostR W (.int .i64 R)) := fun W h => (num_any R W).mono fun e w' ⟨h1, h2⟩ => ⟨h1, by rw [h2]; exact Below.refl _ _⟩
  have HSx : Hid (∀ W, Below w3.heap.size w3 W → (Below w3.heap.size w3 W ∧ (Ld 25 (.pointer (some ⟨w.heap.size, 0, none⟩))).run Tryz.prog W = .ok (.agg (ncs N)) W)) := Lib.hid fun W hb => ⟨hb, run_ldN (bN3.call hb)⟩
  have l3 := run_ldN bN3
  have HB3 := Lib.hid hb3
  clear hb hb3 bN3 l1 cb
  go_wp2
  go_region_held3 (fun W => Below w3.heap.size w3 W ∧ (Ld 25 (.pointer (some ⟨w.heap.size, 0, none⟩))).run Tryz.prog W = .ok (.agg (ncs N)) W)
    (first | exact HSx.out _ (Below.refl _ _).drew | (go_split_ands; exact HSx.out _ (bel_tr (by assumption) (by assumption))))
    ((go_split_ands; first | (go_at_call 10; (with_reducible refine (d1 _ (by assumption)).mono ?_); intro e w4 hp; obtain ⟨rfl, hb⟩ := hp) | (go_at_call 11; (with_reducible refine (d2 _ (by assumption)).mono ?_); intro e w4 hp; obtain ⟨rfl, hb⟩ := hp) | (go_at_call 9; (with_reducible refine (d3 _ (by assumption)).mono ?_); intro e w4 hp; obtain ⟨rfl, hb⟩ := hp)))
  go_split_ands
  go_wp2
  go_ret
  exact ⟨by simp, HB3.out.trans (Below.mono (by assumption) HB3.out.size)⟩
theorem lawTrees_walk (t : Tree) (N : Nd) (w : World) (hr : Pr.Rd w t N) (hz : wei t ≤ 1048576) : Calls Tryz.prog 3 #[.agg (ncs N)] w (PostR w (.bool true)) := by
  cases h : bigF 13 t with
  | true => exact trees_big hr h
  | false => exact trees_small hr hz h
end Go.Proofs.YtinoaajohkafmaaGreat.Ey
