/-
  Texts of this seat in build order: RlEx, EyAlive, EyBnd, PwBig, EyLex, EyTx, EyLawT.
-/
import Derived.Test.YtinoaajohkafmaaGreatMw31
import Derived.Test.YtinoaajohkafmaaGreatMw15
import Derived.Lib.SlBytesRow
import Derived.Lib.ConvBytes
import Derived.Lib.SlBytesConst
import Derived.Test.YtinoaajohkafmaaGreatMw05
import Derived.Test.YtinoaajohkafmaaGreatMw13
import Derived.Deep.RegionHeld3
/-
  The reference's Parse at the example's two texts.
-/
namespace Go.Proofs.YtinoaajohkafmaaGreat.Rl
open Go Go.RowKit Go.Proofs.YtinoaajohkafmaaGreat.Uni Go.Proofs.YtinoaajohkafmaaGreat.Lx
set_option linter.unusedVariables false
set_option linter.unusedSimpArgs false
def retS : ByteArray := ⟨#[114, 101, 116, 117, 114, 110, 59]⟩
def aS : ByteArray := ⟨#[97, 59]⟩
def retL : List Tok := [⟨2, 0, 0, ⟨#[114, 101, 116, 117, 114, 110]⟩⟩, ⟨5, 6, 0, ⟨#[59]⟩⟩, ⟨0, 7, 0, ⟨#[]⟩⟩]
def aL : List Tok := [⟨1, 0, 0, ⟨#[97]⟩⟩, ⟨5, 1, 0, ⟨#[59]⟩⟩, ⟨0, 2, 0, ⟨#[]⟩⟩]
theorem ret_rtk : RTk retS 0 retL :=
  .name 0 0 6 1 ⟨#[114, 101, 116, 117, 114, 110]⟩ _ (by decide +kernel) (by decide) (by decide +kernel) (by decide +kernel) (by decide +kernel) (by decide +kernel) (by decide)
    (.sign 6 6 12 _ (by decide +kernel) (by decide) (by decide +kernel) (by decide +kernel) (by decide +kernel) (by decide +kernel) (by decide) (by decide +kernel) (by decide +kernel)
      (.fin 7 (by decide +kernel)))
theorem a_rtk : RTk aS 0 aL :=
  .name 0 0 1 0 ⟨#[97]⟩ _ (by decide +kernel) (by decide) (by decide +kernel) (by decide +kernel) (by decide +kernel) (by decide +kernel) (by decide)
    (.sign 1 1 12 _ (by decide +kernel) (by decide) (by decide +kernel) (by decide +kernel) (by decide +kernel) (by decide +kernel) (by decide) (by decide +kernel) (by decide +kernel)
      (.fin 2 (by decide +kernel)))
theorem plain_small {s : ByteArray} (h : ∀ j, j < s.size → B s j ≠ 47) : Plain s := fun j => by
  by_cases hj : j < s.size
  · exact h j hj
  · have : B s j = 0 := by
      unfold B
      have hl : s.data.toList.length = s.size := rfl
      rw [List.getElem?_eq_none (by omega)]
      rfl
    omega
theorem ret_plain : Plain retS := plain_small (by decide +kernel)
theorem a_plain : Plain aS := plain_small (by decide +kernel)
theorem ret_ascii : ∀ j, j < retS.size → B retS j < 128 := by decide +kernel
theorem a_ascii : ∀ j, j < aS.size → B aS j < 128 := by decide +kernel
open Pa in
theorem ret_tree : treeF retL = (node 44 [node 36 []], 0, 0) := by kernel_rfl
open Pa in
theorem a_tree : treeF aL = (node 44 [node 33 [.mk 8 0 ⟨#[97]⟩ [] []]], 0, 0) := by kernel_rfl
end Go.Proofs.YtinoaajohkafmaaGreat.Rl

/-
  The example of the document.
-/
namespace Go.Proofs.YtinoaajohkafmaaGreat.Ey
open Go Go.RowKit Go.Maps Go.Proofs.YtinoaajohkafmaaGreat.Pa Go.Proofs.YtinoaajohkafmaaGreat.Pr
open Go.Proofs.YtinoaajohkafmaaGreat.Rl (retS aS retL aL)
open Go.Proofs.YtinoaajohkafmaaGreat.Lx
set_option linter.unusedVariables false
set_option linter.unusedSimpArgs false
attribute [local go_sem ↓] ldK stK alK bdK bsK ldN stN alN bdN bsN
attribute [local irreducible] kcs ncs ncells
attribute [local go_sem] run_alN run_stNg run_ldNg run_bdN0
theorem rp_new {s : ByteArray} {L : List Tok} {T : Tree} {n : Nat} {C : Array Value} {g : Nat × Nat} (hn : s.size = n) (hC : ∀ i, i < s.size → C[i]? = some (.int .u8 (s.data.toList.getD i 0).toNat)) (hL : Rl.RTk s 0 L) (hl : L.length ≤ 100000) (hs : s.size ≤ 65536) (hpl : Rl.Plain s) (ha : ∀ j, j < s.size → Uni.B s j < 128) (hT : treeF L = (T, 0, 0)) (cap : Nat) (w : World) :
    Calls Tryz.prog 12 #[.slice (some ⟨w.heap.size, 0, none⟩) n cap] (w.alloc (.cells C 5 g)) fun e w' => ∃ N, e = .returned (.tuple #[.agg (ncs N), .int .i64 0, .int .i64 0]) ∧ Pr.Rd w' T N ∧ Below w.heap.size w w' := by
  subst hn
  have h := Rl.rparse_plain hL hl hs hpl ha (some ⟨w.heap.size, 0, none⟩) cap (w.alloc (.cells C 5 g)) (Lib.run_convert_whole (P := Tryz.prog) _ 33 5 9 Tryz.underlying33 Tryz.underlying5 Tryz.underlying9 _ 0 s (fun i hi => by
    rw [Nat.zero_add]
    have hg : (w.alloc (.cells C 5 g)).heap[w.heap.size]? = some (.cells C 5 g) := heap_alloc_new w _
    have hc : (w.alloc (.cells C 5 g)).cell? ⟨w.heap.size, i, none⟩ = some (.int .u8 (s.data.toList.getD i 0).toNat) := by
      simp only [World.cell?, hg]
      exact hC i hi
    rw [World.cell?_alloc_past _ _ _ (World.block_lt_of_cell? _ _ hc), hc]
    rw [List.getD_eq_getElem?_getD, List.getElem?_eq_getElem hi]
    rfl) cap)
  rw [hT] at h
  refine h.mono ?_
  rintro e w' ⟨N, h1, h2, h3⟩
  have hb : Below w.heap.size w (w.alloc (.cells C 5 g)) := bel1
  exact ⟨N, h1, rep_rd _ _ h2, hb.trans (h3.mono hb.size)⟩
def retT : Tree := node 44 [node 36 []]
def aT : Tree := node 44 [node 33 [.mk 8 0 ⟨#[97]⟩ [] []]]
theorem ret_check : checkN retT = 2 := by decide +kernel
theorem a_check : checkN aT = 0 := by decide +kernel
theorem ret_bd : Bd 12 13 retT := by unfold retT node; simp [Bd]
theorem a_bd : Bd 12 13 aT := by unfold aT node; simp [Bd]
theorem ret_str : Str retT := by unfold retT node; simp [Str, Strs]; decide
theorem a_str : Str aT := by unfold aT node; simp [Str, Strs]; decide
theorem num_any (n : Int) (w : World) : Calls Tryz.prog 9 #[.int .i64 n] w fun e w' => e = .returned (.int .i64 n) ∧ w' = w := by
  go_enter Tryz.func9, Tryz.ntmps9
  go_wp2
  go_ret
  exact ⟨rfl, rfl⟩
abbrev retC : Array Value := #[.int .u8 114, .int .u8 101, .int .u8 116, .int .u8 117, .int .u8 114, .int .u8 110, .int .u8 59]
abbrev aC : Array Value := #[.int .u8 97, .int .u8 59]
theorem ret_cells : ∀ i, i < retS.size → retC[i]? = some (.int .u8 (retS.data.toList.getD i 0).toNat) := fun i hi => by
  have hi2 : i < 7 := hi
  rcases (by omega : i = 0 ∨ i = 1 ∨ i = 2 ∨ i = 3 ∨ i = 4 ∨ i = 5 ∨ i = 6) with rfl | rfl | rfl | rfl | rfl | rfl | rfl <;> rfl
theorem a_cells : ∀ i, i < aS.size → aC[i]? = some (.int .u8 (aS.data.toList.getD i 0).toNat) := fun i hi => by
  have hi2 : i < 2 := hi
  rcases (by omega : i = 0 ∨ i = 1) with rfl | rfl <;> rfl
set_option maxRecDepth 100000 in
set_option maxHeartbeats 4000000 in
theorem alive_any (w : World) : Calls Tryz.prog 7 #[] w (PostR w (.bool true)) := by
  have h1 := rp_new (n := 7) (g := (7, 8)) (C := retC) rfl ret_cells Rl.ret_rtk (by decide) (by decide) Rl.ret_plain Rl.ret_ascii Rl.ret_tree 7 w
  have h2 := fun w => rp_new (n := 2) (g := (2, 3)) (C := aC) rfl a_cells Rl.a_rtk (by decide) (by decide) Rl.a_plain Rl.a_ascii Rl.a_tree 2 w
  have hk := Lib.run_convert_bytes_const (P := Tryz.prog) w 33 5 retC 7 7 Tryz.underlying33 Tryz.underlying5
  have hk2 : retC.size = 7 := rfl
  rw [hk2] at hk
  have H2 := Lib.hid h2
  clear hk2 h2
  go_enter Tryz.func7, Tryz.ntmps7
  go_wp2_with (go_at_call 12; (with_reducible refine h1.mono ?_); rintro e w1 ⟨N, rfl, hr, hb1⟩; refine Hid.out ?_)
  refine Lib.hid ?_
  have bN := Blk.new w1 (ncs N) 25
  have hbx : Below w1.heap.size w1 (w1.alloc (.cells (ncs N) 25)) := bel1
  have hk := Lib.run_convert_bytes_const (P := Tryz.prog) (w1.alloc (.cells (ncs N) 25)) 33 5 aC 2 2 Tryz.underlying33 Tryz.underlying5
  have hk2 : aC.size = 2 := rfl
  rw [hk2] at hk
  have h3 := H2.out (w1.alloc (.cells (ncs N) 25))
  have e1 : (w1.alloc (.cells (ncs N) 25)).heap.size = w1.heap.size + 1 := by simp
  rw [e1] at hk h3
  have HE1 := Lib.hid e1
  have HR := Lib.hid hr
  have HB1 := Lib.hid hb1
  have HBX := Lib.hid hbx
  have HBN := Lib.hid bN
  clear hr hb1 hbx hk2 H2 bN e1
  go_wp2_with (go_at_call 12; (with_reducible refine h3.mono ?_); rintro e w2 ⟨M, rfl, hr, hb1⟩; refine Hid.out ?_)
  refine Lib.hid ?_
  rw [← HE1.out] at hb1
  have bM := Blk.new w2 (ncs M) 25
  have hb2 : Below w1.heap.size w1 w2 := HBX.out.trans (hb1.mono HBX.out.size)
  have hbx : Below w2.heap.size w2 (w2.alloc (.cells (ncs M) 25)) := bel1
  have bN2 := HBN.out.call (hb1.trans (hbx.mono hb1.size))
  have hb3 := hb2.trans (hbx.mono hb2.size)
  have l1 := run_ldN bN2
  have cN : Calls Tryz.prog 10 #[.agg (ncs N)] (w2.alloc (.cells (ncs M) 25)) (PostR (w2.alloc (.cells (ncs M) 25)) (.int .i64 2)) := by
    have := check_any (t := retT) (HR.out.below hb3) ret_str ret_bd (by decide) (by decide)
    rw [ret_check] at this
    exact this
  have HSx : Hid (∀ W, Below (w2.alloc (.cells (ncs M) 25)).heap.size (w2.alloc (.cells (ncs M) 25)) W → (Calls Tryz.prog 10 #[.agg (ncs M)] W (PostR W (.int .i64 0)) ∧ (Ld 25 (.pointer (some ⟨w2.heap.size, 0, none⟩))).run Tryz.prog W = .ok (.agg (ncs M)) W)) := Lib.hid fun W hb => ⟨by
    have := check_any (t := aT) (hr.below (hbx.trans (hb.mono hbx.size))) a_str a_bd (by decide) (by decide)
    rw [a_check] at this
    exact this, run_ldN (bM.call hb)⟩
  have HB3 := Lib.hid (HB1.out.trans (hb3.mono HB1.out.size))
  clear hr hb1 hbx bM bN2 hb2 hb3 HR HBX HBN HB1 h3 hk h1
  go_wp2_with (first | (go_at_call 10; (with_reducible refine cN.mono ?_); intro e w3 hp; obtain ⟨rfl, hb⟩ := hp; have l2 := (HSx.out _ hb).2; have cM := (HSx.out _ hb).1; have HB4 := Lib.hid hb; clear hb cN) | (go_at_call 10; (with_reducible refine cM.mono ?_); intro e w4 hp; obtain ⟨rfl, hb⟩ := hp; have HB5 := Lib.hid (HB4.out.trans (hb.mono HB4.out.size)); clear hb) | (go_at_call 9; (with_reducible refine (num_any _ _).mono ?_); rintro e w5 ⟨rfl, hw⟩; subst w5))
  go_ret
  exact ⟨rfl, HB3.out.trans (HB5.out.mono HB3.out.size)⟩
end Go.Proofs.YtinoaajohkafmaaGreat.Ey

/-
  How much a tree holds.
-/
namespace Go.Proofs.YtinoaajohkafmaaGreat.Pw
open Go.Proofs.YtinoaajohkafmaaGreat.Pr
open Go.Proofs.YtinoaajohkafmaaGreat.Pa Go.Proofs.YtinoaajohkafmaaGreat.Uni
open Go.Proofs.YtinoaajohkafmaaGreat.Lx
set_option linter.unusedVariables false
set_option linter.unusedSimpArgs false
mutual
def wei : Tree → Nat
  | .mk _ _ t ns ks => 1 + t.size + (ns.map fun x => x.size + 1).sum + weis ks
def weis : List Tree → Nat
  | [] => 0
  | t :: ts => wei t + weis ts
end
theorem name_wei {ns : List ByteArray} {x : ByteArray} (h : x ∈ ns) : x.size ≤ (ns.map fun x => x.size + 1).sum := by
  induction ns with
  | nil => cases h
  | cons a r ih =>
    simp only [List.map_cons, List.sum_cons]
    rcases List.mem_cons.1 h with rfl | h
    · omega
    · have := ih h
      omega
mutual
theorem str_wei : ∀ t : Tree, wei t ≤ 1048576 → Str t
  | .mk k n t ns ks, h => by
    unfold wei at h
    unfold Str
    exact ⟨by omega, fun x hx => by have := name_wei hx; omega, strs_wei ks (by omega)⟩
theorem strs_wei : ∀ ts : List Tree, weis ts ≤ 1048576 → Strs ts
  | [], _ => by unfold Strs; trivial
  | t :: ts, h => by
    unfold weis at h
    unfold Strs
    exact ⟨str_wei t (by omega), strs_wei ts (by omega)⟩
end
end Go.Proofs.YtinoaajohkafmaaGreat.Pw

/-
  Big: is a tree too great?
-/
namespace Go.Proofs.YtinoaajohkafmaaGreat.Pw
open Go.Proofs.YtinoaajohkafmaaGreat.Pr
open Go Go.RowKit Go.Proofs.YtinoaajohkafmaaGreat.Pa Go.Proofs.YtinoaajohkafmaaGreat.Uni
open Go.Proofs.YtinoaajohkafmaaGreat.Lx
set_option linter.unusedVariables false
set_option linter.unusedSimpArgs false
attribute [local go_sem ↓] ldK stK alK bdK bsK ldN stN alN bdN bsN
attribute [local irreducible] kcs ncs ncells
attribute [local go_sem] run_alN run_stNg run_ldNg run_bdN0
def bigF : Nat → Tree → Bool
  | 0, _ => true
  | r + 1, .mk _ _ t ns ks => decide (12 < ks.length) || (decide (12 < ns.length) || (decide (100 < t.size) || ks.any (bigF r)))
theorem any_step {f : Tree → Bool} {ts : List Tree} {i : Nat} {t : Tree} (h : ts[i]? = some t) : (ts.drop i).any f = (f t || (ts.drop (i + 1)).any f) := by
  obtain ⟨hl, rfl⟩ := List.getElem?_eq_some_iff.1 h
  rw [List.drop_eq_getElem_cons hl]
  rfl
end Go.Proofs.YtinoaajohkafmaaGreat.Pw

/-
  The reference's lexer as a function, at texts of names, signs and the number one.
-/
namespace Go.Proofs.YtinoaajohkafmaaGreat.Ey
open Go Go.RowKit Go.Maps Go.Proofs.YtinoaajohkafmaaGreat.Pa Go.Proofs.YtinoaajohkafmaaGreat.Pr
open Go.Proofs.YtinoaajohkafmaaGreat.Rl (RTk goF restB sgn)
open Go.Proofs.YtinoaajohkafmaaGreat.Lx
open Go.Proofs.YtinoaajohkafmaaGreat.Uni (B)
set_option linter.unusedVariables false
set_option linter.unusedSimpArgs false
def signO (s : ByteArray) (q : Nat) : Nat → Nat → Option Nat
  | 0, _ => none
  | k + 1, i => if restB s q (sgn i) = true then some i else signO s q k (i + 1)
theorem signO_some {s : ByteArray} {q : Nat} : ∀ {k i j : Nat}, signO s q k i = some j → i ≤ j ∧ j < i + k ∧ restB s q (sgn j) = true ∧ ∀ m, i ≤ m → m < j → restB s q (sgn m) = false
  | 0, i, j, h => by simp [signO] at h
  | k + 1, i, j, h => by
    unfold signO at h
    split at h
    · rename_i hr
      obtain rfl := Option.some.inj h
      exact ⟨Nat.le_refl _, by omega, hr, fun m h1 h2 => by omega⟩
    · rename_i hr
      obtain ⟨h1, h2, h3, h4⟩ := signO_some h
      refine ⟨by omega, by omega, h3, fun m h5 h6 => ?_⟩
      by_cases e : m = i
      · subst e; simpa using hr
      · exact h4 m (by omega) h6
def lexO (s : ByteArray) : Nat → Nat → Option (List Tok)
  | 0, _ => none
  | n + 1, p =>
    let q := goF whiteN s (s.size - p) p
    if q = s.size then some [⟨0, s.size, 0, ⟨#[]⟩⟩]
    else if q < s.size then
      if leadN (B s q) = true then
        let e := goF contN s (s.size - q) q
        if wordF (s.extract q e).toList = 2 then none else (lexO s n e).map (⟨1 + (wordF (s.extract q e).toList : Int), q, 0, s.extract q e⟩ :: ·)
      else if digitN (B s q) = true then
        if B s q = 49 ∧ q + 1 < s.size ∧ leadN (B s (q + 1)) = false ∧ digitN (B s (q + 1)) = false then (lexO s n (q + 1)).map (⟨3, q, 1, ⟨#[]⟩⟩ :: ·) else none
      else if B s q = 34 ∨ B s q = 39 then none
      else match signO s q 26 0 with
        | some i => (lexO s n (q + (sgn i).size)).map (⟨5, q, 0, sgn i⟩ :: ·)
        | none => none
    else none
theorem lexO_rtk {s : ByteArray} : ∀ (n p : Nat) (L : List Tok), lexO s n p = some L → RTk s p L
  | 0, p, L, h => by simp [lexO] at h
  | n + 1, p, L, h => by
    unfold lexO at h
    simp only at h
    split at h
    · rename_i hq
      obtain rfl := Option.some.inj h
      exact .fin p hq
    · split at h
      · rename_i hq
        split at h
        · rename_i hl
          split at h
          · cases h
          · rename_i hk
            obtain ⟨l, h1, rfl⟩ := Option.map_eq_some_iff.1 h
            exact .name p _ _ _ _ l rfl hq hl rfl rfl rfl hk (lexO_rtk n _ l h1)
        · rename_i hl
          have hl : leadN (B s (goF whiteN s (s.size - p) p)) = false := by simpa using hl
          split at h
          · split at h
            · rename_i hc
              obtain ⟨l, h1, rfl⟩ := Option.map_eq_some_iff.1 h
              exact .one p _ l rfl hc.2.1 hc.1 hc.2.2.1 hc.2.2.2 (lexO_rtk n _ l h1)
            · cases h
          · rename_i hd
            have hd : digitN (B s (goF whiteN s (s.size - p) p)) = false := by simpa using hd
            split at h
            · cases h
            · rename_i hn
              split at h
              · rename_i i hi
                obtain ⟨l, h1, rfl⟩ := Option.map_eq_some_iff.1 h
                obtain ⟨-, a2, a3, a4⟩ := signO_some hi
                exact .sign p _ i l rfl hq hl hd (fun e => hn (.inl e)) (fun e => hn (.inr e)) (by omega) (fun j hj => a4 j (Nat.zero_le _) hj) a3 (lexO_rtk n _ l h1)
              · cases h
      · cases h
structure Txt (s : ByteArray) (n : Nat) (r : Int) : Prop where
  lex : (lexO s n 0).isSome = true
  len : ((lexO s n 0).getD []).length ≤ 100000
  size : s.size ≤ 65536
  ascii : ∀ j, j < s.size → B s j < 128
  plain : ∀ j, j < s.size → B s j ≠ 47
  ok : (treeF ((lexO s n 0).getD [])).2 = (0, 0)
  big : Pw.bigF 13 (treeF ((lexO s n 0).getD [])).1 = false
  wei : Pw.wei (treeF ((lexO s n 0).getD [])).1 ≤ 1048576
  chk : checkN (treeF ((lexO s n 0).getD [])).1 = r
set_option maxRecDepth 100000 in
theorem rp_txt {s : ByteArray} {n : Nat} {r : Int} (h : Txt s n r) (cap : Nat) (w : World) :
    Calls Tryz.prog 12 #[.slice (some ⟨w.heap.size, 0, none⟩) s.size cap] (Lib.bytesWorld w 5 s) fun e w' => ∃ N, e = .returned (.tuple #[.agg (ncs N), .int .i64 0, .int .i64 0]) ∧ Pr.Rd w' (treeF ((lexO s n 0).getD [])).1 N ∧ Below w.heap.size w w' := by
  obtain ⟨L, hL⟩ := Option.isSome_iff_exists.1 h.lex
  have hlen := h.len
  have hok := h.ok
  rw [hL] at hlen hok ⊢
  simp only [Option.getD_some] at hlen hok ⊢
  have hp := Rl.rparse_plain (lexO_rtk n 0 L hL) hlen h.size (Rl.plain_small h.plain) h.ascii (some ⟨w.heap.size, 0, none⟩) cap (Lib.bytesWorld w 5 s) (Lib.run_convert_whole (P := Tryz.prog) _ 33 5 9 Tryz.underlying33 Tryz.underlying5 Tryz.underlying9 _ 0 s (fun i hi => by
    rw [Nat.zero_add]
    have hc := Lib.bytesWorld_cell w 5 s i hi
    rw [World.cell?_alloc_past _ _ _ (World.block_lt_of_cell? _ _ hc), hc]
    rw [List.getD_eq_getElem?_getD, List.getElem?_eq_getElem hi]
    rfl) cap)
  refine hp.mono ?_
  rintro e w' ⟨N, h1, h2, h3⟩
  rw [hok] at h1
  rw [Lib.bytesWorld_size] at h3
  have hb : Below w.heap.size w (Lib.bytesWorld w 5 s) := ⟨by simp [Lib.bytesWorld, World.freeze]; rfl, by simp [Lib.bytesWorld, World.freeze], by simp [Lib.bytesWorld, World.freeze]; rfl, by rw [Lib.bytesWorld_size]; omega, fun k hk => Lib.bytesWorld_at_old w _ s k hk⟩
  exact ⟨N, h1, rep_rd _ _ h2, hb.trans (h3.mono (by omega))⟩
end Go.Proofs.YtinoaajohkafmaaGreat.Ey

/-
  The twenty texts: each is read, and what a check says of its tree.
-/
namespace Go.Proofs.YtinoaajohkafmaaGreat.Ey
open Go Go.RowKit Go.Proofs.YtinoaajohkafmaaGreat.Pa Go.Proofs.YtinoaajohkafmaaGreat.Pr
open Go.Proofs.YtinoaajohkafmaaGreat.Lx
set_option linter.unusedVariables false
set_option linter.unusedSimpArgs false
def tx0 : ByteArray := ⟨#[114, 101, 116, 117, 114, 110, 59]⟩
theorem tx0_ok : Txt tx0 80 2 := ⟨by decide +kernel, by decide +kernel, by decide +kernel, by decide +kernel, by decide +kernel, by decide +kernel, by decide +kernel, by decide +kernel, by decide +kernel⟩
def tx1 : ByteArray := ⟨#[102, 117, 110, 99, 116, 105, 111, 110, 32, 102, 40, 41, 32, 123, 32, 114, 101, 116, 117, 114, 110, 59, 32, 125]⟩
theorem tx1_ok : Txt tx1 80 0 := ⟨by decide +kernel, by decide +kernel, by decide +kernel, by decide +kernel, by decide +kernel, by decide +kernel, by decide +kernel, by decide +kernel, by decide +kernel⟩
def tx2 : ByteArray := ⟨#[98, 114, 101, 97, 107, 59]⟩
theorem tx2_ok : Txt tx2 80 2 := ⟨by decide +kernel, by decide +kernel, by decide +kernel, by decide +kernel, by decide +kernel, by decide +kernel, by decide +kernel, by decide +kernel, by decide +kernel⟩
def tx3 : ByteArray := ⟨#[119, 104, 105, 108, 101, 32, 40, 49, 41, 32, 98, 114, 101, 97, 107, 59]⟩
theorem tx3_ok : Txt tx3 80 0 := ⟨by decide +kernel, by decide +kernel, by decide +kernel, by decide +kernel, by decide +kernel, by decide +kernel, by decide +kernel, by decide +kernel, by decide +kernel⟩
def tx4 : ByteArray := ⟨#[119, 104, 105, 108, 101, 32, 40, 49, 41, 32, 123, 32, 102, 117, 110, 99, 116, 105, 111, 110, 32, 102, 40, 41, 32, 123, 32, 98, 114, 101, 97, 107, 59, 32, 125, 32, 125]⟩
theorem tx4_ok : Txt tx4 80 2 := ⟨by decide +kernel, by decide +kernel, by decide +kernel, by decide +kernel, by decide +kernel, by decide +kernel, by decide +kernel, by decide +kernel, by decide +kernel⟩
def tx5 : ByteArray := ⟨#[119, 104, 105, 108, 101, 32, 40, 49, 41, 32, 123, 32, 105, 102, 32, 40, 49, 41, 32, 99, 111, 110, 116, 105, 110, 117, 101, 59, 32, 125]⟩
theorem tx5_ok : Txt tx5 80 0 := ⟨by decide +kernel, by decide +kernel, by decide +kernel, by decide +kernel, by decide +kernel, by decide +kernel, by decide +kernel, by decide +kernel, by decide +kernel⟩
def tx6 : ByteArray := ⟨#[108, 101, 116, 32, 97, 59, 32, 108, 101, 116, 32, 97, 59]⟩
theorem tx6_ok : Txt tx6 80 2 := ⟨by decide +kernel, by decide +kernel, by decide +kernel, by decide +kernel, by decide +kernel, by decide +kernel, by decide +kernel, by decide +kernel, by decide +kernel⟩
def tx7 : ByteArray := ⟨#[108, 101, 116, 32, 97, 59, 32, 123, 32, 108, 101, 116, 32, 97, 59, 32, 125]⟩
theorem tx7_ok : Txt tx7 80 0 := ⟨by decide +kernel, by decide +kernel, by decide +kernel, by decide +kernel, by decide +kernel, by decide +kernel, by decide +kernel, by decide +kernel, by decide +kernel⟩
def tx8 : ByteArray := ⟨#[99, 111, 110, 115, 116, 32, 97, 32, 61, 32, 49, 59, 32, 102, 117, 110, 99, 116, 105, 111, 110, 32, 97, 40, 41, 32, 123, 32, 125]⟩
theorem tx8_ok : Txt tx8 80 2 := ⟨by decide +kernel, by decide +kernel, by decide +kernel, by decide +kernel, by decide +kernel, by decide +kernel, by decide +kernel, by decide +kernel, by decide +kernel⟩
def tx9 : ByteArray := ⟨#[102, 117, 110, 99, 116, 105, 111, 110, 32, 102, 40, 97, 44, 32, 97, 41, 32, 123, 32, 125]⟩
theorem tx9_ok : Txt tx9 80 2 := ⟨by decide +kernel, by decide +kernel, by decide +kernel, by decide +kernel, by decide +kernel, by decide +kernel, by decide +kernel, by decide +kernel, by decide +kernel⟩
def tx10 : ByteArray := ⟨#[102, 117, 110, 99, 116, 105, 111, 110, 32, 102, 40, 97, 41, 32, 123, 32, 108, 101, 116, 32, 97, 59, 32, 125]⟩
theorem tx10_ok : Txt tx10 80 2 := ⟨by decide +kernel, by decide +kernel, by decide +kernel, by decide +kernel, by decide +kernel, by decide +kernel, by decide +kernel, by decide +kernel, by decide +kernel⟩
def tx11 : ByteArray := ⟨#[102, 117, 110, 99, 116, 105, 111, 110, 32, 102, 40, 97, 41, 32, 123, 32, 123, 32, 108, 101, 116, 32, 97, 59, 32, 125, 32, 125]⟩
theorem tx11_ok : Txt tx11 80 0 := ⟨by decide +kernel, by decide +kernel, by decide +kernel, by decide +kernel, by decide +kernel, by decide +kernel, by decide +kernel, by decide +kernel, by decide +kernel⟩
def tx12 : ByteArray := ⟨#[116, 114, 121, 32, 123, 32, 125, 32, 99, 97, 116, 99, 104, 32, 40, 97, 41, 32, 123, 32, 108, 101, 116, 32, 97, 59, 32, 125]⟩
theorem tx12_ok : Txt tx12 80 0 := ⟨by decide +kernel, by decide +kernel, by decide +kernel, by decide +kernel, by decide +kernel, by decide +kernel, by decide +kernel, by decide +kernel, by decide +kernel⟩
def tx13 : ByteArray := ⟨#[105, 102, 32, 40, 49, 41, 32, 108, 101, 116, 32, 97, 59]⟩
theorem tx13_ok : Txt tx13 80 2 := ⟨by decide +kernel, by decide +kernel, by decide +kernel, by decide +kernel, by decide +kernel, by decide +kernel, by decide +kernel, by decide +kernel, by decide +kernel⟩
def tx14 : ByteArray := ⟨#[119, 104, 105, 108, 101, 32, 40, 49, 41, 32, 99, 111, 110, 115, 116, 32, 97, 32, 61, 32, 49, 59]⟩
theorem tx14_ok : Txt tx14 80 2 := ⟨by decide +kernel, by decide +kernel, by decide +kernel, by decide +kernel, by decide +kernel, by decide +kernel, by decide +kernel, by decide +kernel, by decide +kernel⟩
def tx15 : ByteArray := ⟨#[105, 102, 32, 40, 49, 41, 32, 59, 32, 101, 108, 115, 101, 32, 102, 117, 110, 99, 116, 105, 111, 110, 32, 102, 40, 41, 32, 123, 32, 125]⟩
theorem tx15_ok : Txt tx15 80 2 := ⟨by decide +kernel, by decide +kernel, by decide +kernel, by decide +kernel, by decide +kernel, by decide +kernel, by decide +kernel, by decide +kernel, by decide +kernel⟩
def tx16 : ByteArray := ⟨#[40, 123, 115, 101, 116, 32, 120, 40, 97, 41, 32, 123, 32, 108, 101, 116, 32, 97, 59, 32, 125, 125, 41, 59]⟩
theorem tx16_ok : Txt tx16 80 2 := ⟨by decide +kernel, by decide +kernel, by decide +kernel, by decide +kernel, by decide +kernel, by decide +kernel, by decide +kernel, by decide +kernel, by decide +kernel⟩
def tx17 : ByteArray := ⟨#[40, 123, 103, 101, 116, 32, 120, 40, 41, 32, 123, 32, 114, 101, 116, 117, 114, 110, 32, 49, 59, 32, 125, 125, 41, 59]⟩
theorem tx17_ok : Txt tx17 80 0 := ⟨by decide +kernel, by decide +kernel, by decide +kernel, by decide +kernel, by decide +kernel, by decide +kernel, by decide +kernel, by decide +kernel, by decide +kernel⟩
def tx18 : ByteArray := ⟨#[123, 32, 114, 101, 116, 117, 114, 110, 59, 32, 125]⟩
theorem tx18_ok : Txt tx18 80 2 := ⟨by decide +kernel, by decide +kernel, by decide +kernel, by decide +kernel, by decide +kernel, by decide +kernel, by decide +kernel, by decide +kernel, by decide +kernel⟩
def tx19 : ByteArray := ⟨#[108, 101, 116, 32, 97, 59, 32, 102, 117, 110, 99, 116, 105, 111, 110, 32, 102, 40, 41, 32, 123, 32, 108, 101, 116, 32, 97, 59, 32, 125]⟩
theorem tx19_ok : Txt tx19 80 0 := ⟨by decide +kernel, by decide +kernel, by decide +kernel, by decide +kernel, by decide +kernel, by decide +kernel, by decide +kernel, by decide +kernel, by decide +kernel⟩
end Go.Proofs.YtinoaajohkafmaaGreat.Ey

/-
  EarlyTrees: the walk.
-/
namespace Go.Proofs.YtinoaajohkafmaaGreat.Ey
open Go Go.RowKit Go.Maps Go.Proofs.YtinoaajohkafmaaGreat.Pa Go.Proofs.YtinoaajohkafmaaGreat.Pr
open Go.Proofs.YtinoaajohkafmaaGreat.Pw (bigF wei str_wei)
open Go.Proofs.YtinoaajohkafmaaGreat.Lx
set_option linter.unusedVariables false
set_option linter.unusedSimpArgs false
attribute [local go_sem ↓] ldK stK alK bdK bsK ldN stN alN bdN bsN
attribute [local irreducible] kcs ncs ncells
attribute [local go_sem] run_alN run_stNg run_ldNg run_bdN0
theorem big_bd : ∀ (r : Nat) (t : Tree), bigF r t = false → Bd 12 r t
  | 0, t, h => by unfold Pw.bigF at h; cases h
  | r + 1, .mk k n t ns ks, h => by
    unfold Pw.bigF at h
    simp only [Bool.or_eq_false_iff, decide_eq_false_iff_not] at h
    unfold Bd
    refine ⟨by omega, by omega, fun u hu => big_bd r u ?_⟩
    have := List.any_eq_false.1 h.2.2.2 u hu
    simpa using this
theorem bel_tr {w w1 w2 : World} (h : Below w.heap.size w w1) (h2 : Below w1.heap.size w1 w2) : Below w.heap.size w w2 := h.trans (h2.mono h.size)
end Go.Proofs.YtinoaajohkafmaaGreat.Ey
