/-
  Texts of this seat in build order: MwAsk, MoNew, MoTrap.
-/
import Derived.Test.YtblbeinnfbohbaaMz10
import Derived.Test.YtblbeinnfbohbaaMz07
import Derived.Test.YtblbeinnfbohbaaMz09
/-
  What is asked and seen, read and built in memory; small functions of the worlds.
-/
namespace Go.Proofs.Ytblbeinnfbohbaa.Mw
open Go Go.RowKit Go.Maps Go.Shelf Go.Proofs.Ytblbeinnfbohbaa.Keys Go.Proofs.Ytblbeinnfbohbaa.Hp Go.Proofs.Ytblbeinnfbohbaa.Mo
open Go.Proofs.Ytblbeinnfbohbaa.Des (Vl Ds zeroV zeroD dcs dcs_size dcs_one accF rigF appF eqV)
open Go.Proofs.Ytblbeinnfbohbaa.Arrs (En ecs)
set_option linter.unusedVariables false
set_option linter.unusedSimpArgs false

/-! ### Asks -/
theorem acs_size (a : Aq) (l : Value) : (acs a l).size = 27 := rfl
theorem ldA (v : Value) : Instr.loadAt 162 v = Ld 162 v := (rfl)
theorem stA (p v : Value) : Instr.storeAt 162 p v = St 162 p v := (rfl)
theorem bxA (v : Value) : Instr.box 162 v = Bx 162 v := (rfl)
theorem bdA (ps : Array (Nat × Value)) : Instr.build 162 ps = Bd 162 ps := (rfl)
theorem ldKy (v : Value) : Instr.loadAt 91 v = Ld 91 v := (rfl)
theorem bxKy (v : Value) : Instr.box 91 v = Bx 91 v := (rfl)
theorem bdKy (ps : Array (Nat × Value)) : Instr.build 91 ps = Bd 91 ps := (rfl)
theorem sizeA : (Try.prog.info? 162).map (·.size) = some 27 := by kernel_rfl
theorem sizeK : (Try.prog.info? 91).map (·.size) = some 2 := by kernel_rfl
theorem run_ldAq {w : World} {b : Nat} {a : Aq} {l : Value} {T : TypeId} (h : Blk w b (acs a l) T) : (Ld 162 (.pointer (some ⟨b, 0, none⟩))).run Try.prog w = .ok (.agg (acs a l)) w := by
  have := run_loadAt_mid (P := Try.prog) w b 0 162 (acs a l).toList _ (h.range (r := []) (by simp)) Try.underlying162 rfl sizeA
  simpa [Ld] using this
/-- A part of a block. -/
theorem range_mid {w : World} {b : Nat} {cs : Array Value} {t : TypeId} (h : Blk w b cs t) (p l r : List Value) (e : cs.toList = p ++ (l ++ r)) : w.rangeAt b p.length l := fun j v hv => by
  have hj : j < l.length := (List.getElem?_eq_some_iff.1 hv).1
  rw [h.cell, ← Array.getElem?_toList, e, List.getElem?_append_right (by omega), List.getElem?_append_left (by omega), show p.length + j - p.length = j by omega]
  exact hv
theorem run_ldKm {w : World} {b o : Nat} {k : KV} (h : w.rangeAt b o (kcs k).toList) : (Ld 91 (.pointer (some ⟨b, o, none⟩))).run Try.prog w = .ok (.agg (kcs k)) w := by
  have := run_loadAt_mid (P := Try.prog) w b o 91 (kcs k).toList _ h Try.underlying91 rfl sizeK
  simpa [Ld] using this
theorem run_ldVm {w : World} {b o : Nat} {v : Vl} (h : w.rangeAt b o (vcs v).toList) : (Ld 32 (.pointer (some ⟨b, o, none⟩))).run Try.prog w = .ok (.agg (vcs v)) w := by
  have := run_loadAt_mid (P := Try.prog) w b o 32 (vcs v).toList _ h Try.underlying32 rfl sizeV
  simpa [Ld] using this
theorem run_ldDm {w : World} {b o : Nat} {d : Ds} (h : w.rangeAt b o (dcs d).toList) : (Ld 34 (.pointer (some ⟨b, o, none⟩))).run Try.prog w = .ok (.agg (dcs d)) w := run_ldMid h
section

variable {w : World} {b : Nat} {a : Aq} {l : Value} {T : TypeId}

theorem ask_k (h : Blk w b (acs a l) T) : (Ld 91 (.pointer (some ⟨b, 0, none⟩))).run Try.prog w = .ok (.agg (kcs a.k)) w := run_ldKm (range_mid h [] (kcs a.k).toList _ rfl)
theorem ask_v (h : Blk w b (acs a l) T) : (Ld 32 (.pointer (some ⟨b, 2, none⟩))).run Try.prog w = .ok (.agg (vcs a.v)) w := run_ldVm (range_mid h (kcs a.k).toList (vcs a.v).toList _ rfl)
theorem ask_r (h : Blk w b (acs a l) T) : (Ld 32 (.pointer (some ⟨b, 5, none⟩))).run Try.prog w = .ok (.agg (vcs a.r)) w := run_ldVm (range_mid h ((kcs a.k).toList ++ (vcs a.v).toList) (vcs a.r).toList _ rfl)
theorem ask_d (h : Blk w b (acs a l) T) : (Ld 34 (.pointer (some ⟨b, 8, none⟩))).run Try.prog w = .ok (.agg (dcs a.d)) w := run_ldDm (range_mid h ((kcs a.k).toList ++ ((vcs a.v).toList ++ (vcs a.r).toList)) (dcs a.d).toList [l] rfl)
theorem ask_l (h : Blk w b (acs a l) T) : w.cell? ⟨b, 26, none⟩ = some l := h.cell 26
theorem ask_rk (h : Blk w b (acs a l) T) : w.cell? ⟨b, 5, none⟩ = some (.int .i64 a.r.k) := h.cell 5
end

theorem run_bdA0 (w : World) : (Bd 162 #[]).run Try.prog w = .ok (.agg (acs zeroQ nilS)) w := run_build w _ _ _ (by kernel_rfl)
theorem run_bdAk (w : World) (k : KV) : (Bd 162 #[(0, .agg (kcs k))]).run Try.prog w = .ok (.agg (acs { zeroQ with k := k } nilS)) w := run_build w _ _ _ (by kernel_rfl)
theorem run_bdAkr (w : World) (k : KV) (r : Vl) : (Bd 162 #[(0, .agg (kcs k)), (2, .agg (vcs r))]).run Try.prog w = .ok (.agg (acs { zeroQ with k := k, r := r } nilS)) w := run_build w _ _ _ (by kernel_rfl)
theorem run_bdAkvr (w : World) (k : KV) (v r : Vl) : (Bd 162 #[(0, .agg (kcs k)), (1, .agg (vcs v)), (2, .agg (vcs r))]).run Try.prog w = .ok (.agg (acs { zeroQ with k := k, v := v, r := r } nilS)) w := run_build w _ _ _ (by kernel_rfl)
theorem run_bdAr (w : World) (r : Vl) : (Bd 162 #[(2, .agg (vcs r))]).run Try.prog w = .ok (.agg (acs { zeroQ with r := r } nilS)) w := run_build w _ _ _ (by kernel_rfl)
theorem run_bdArl (w : World) (r : Vl) (a : Option Addr) (n c : Nat) : (Bd 162 #[(2, .agg (vcs r)), (4, .slice a n c)]).run Try.prog w = .ok (.agg (acs { zeroQ with r := r } (.slice a n c))) w := run_build w _ _ _ (by kernel_rfl)
theorem run_bdAkd (w : World) (k : KV) (d : Ds) : (Bd 162 #[(0, .agg (kcs k)), (3, .agg (dcs d))]).run Try.prog w = .ok (.agg (acs { zeroQ with k := k, d := d } nilS)) w := run_build w _ _ _ (by kernel_rfl)
theorem run_bdKs (w : World) (s : ByteArray) : (Bd 91 #[(0, .string s)]).run Try.prog w = .ok (.agg (kcs (s, 0))) w := run_build w _ _ _ (by kernel_rfl)
/-! ### Replies built -/
theorem run_bdRd (w : World) (v : Vl) : (Bd 37 #[(1, .agg (vcs v))]).run Try.prog w = .ok (.agg (rcs ((done v).mem nilS))) w := run_build w _ _ _ (by kernel_rfl)
theorem run_bdRk (w : World) (b : Bool) : (Bd 37 #[(2, .bool b)]).run Try.prog w = .ok (.agg (rcs ((ans b).mem nilS))) w := run_build w _ _ _ (by kernel_rfl)
theorem run_bdRf (w : World) (f : Int) : (Bd 37 #[(0, .int .i64 f)]).run Try.prog w = .ok (.agg (rcs ((flowR f).mem nilS))) w := run_build w _ _ _ (by kernel_rfl)
theorem run_bdRt' (w : World) (v : Vl) : (Bd 37 #[(0, .int .i64 1), (1, .agg (vcs v))]).run Try.prog w = .ok (.agg (rcs ((thrown v).mem nilS))) w := run_build w _ _ _ (by kernel_rfl)
theorem run_bdRz (w : World) : (Bd 37 #[]).run Try.prog w = .ok (.agg (rcs (zeroRr.mem nilS))) w := run_build w _ _ _ (by kernel_rfl)
theorem run_bdRo (w : World) (h : Bool) (d : Ds) : (Bd 37 #[(3, .bool h), (4, .agg (dcs d))]).run Try.prog w = .ok (.agg (rcs (({ zeroRr with has := h, d := d } : Rr).mem nilS))) w := run_build w _ _ _ (by kernel_rfl)
theorem run_bdRs (w : World) (a : Option Addr) (n c : Nat) : (Bd 37 #[(5, .slice a n c)]).run Try.prog w = .ok (.agg (rcs (zeroRr.mem (.slice a n c)))) w := run_build w _ _ _ (by kernel_rfl)
section

variable {w : World} {b : Nat} {r : Rp} {T : TypeId}

theorem rep_v (h : Blk w b (rcs r) T) : (Ld 32 (.pointer (some ⟨b, 1, none⟩))).run Try.prog w = .ok (.agg (vcs r.v)) w := run_ldVm (range_mid h [.int .i64 r.flow] (vcs r.v).toList _ rfl)
theorem rep_d (h : Blk w b (rcs r) T) : (Ld 34 (.pointer (some ⟨b, 6, none⟩))).run Try.prog w = .ok (.agg (dcs r.d)) w := run_ldDm (range_mid h [.int .i64 r.flow, .int .i64 r.v.k, .int .i64 r.v.n, .string r.v.s, .bool r.ok, .bool r.has] (dcs r.d).toList [r.keys] rfl)
theorem rep_f (h : Blk w b (rcs r) T) : w.cell? ⟨b, 0, none⟩ = some (.int .i64 r.flow) := h.cell 0
theorem rep_vk (h : Blk w b (rcs r) T) : w.cell? ⟨b, 1, none⟩ = some (.int .i64 r.v.k) := h.cell 1
theorem rep_vn (h : Blk w b (rcs r) T) : w.cell? ⟨b, 2, none⟩ = some (.int .i64 r.v.n) := h.cell 2
theorem rep_ok (h : Blk w b (rcs r) T) : w.cell? ⟨b, 4, none⟩ = some (.bool r.ok) := h.cell 4
theorem rep_has (h : Blk w b (rcs r) T) : w.cell? ⟨b, 5, none⟩ = some (.bool r.has) := h.cell 5
theorem rep_keys (h : Blk w b (rcs r) T) : w.cell? ⟨b, 24, none⟩ = some r.keys := h.cell 24
end
/-! ### Locals: blocks that are not the world's -/
/-- A local lies in a block. -/
structure Lo (B : List Nat) (w0 w : World) (b : Nat) (cs : Array Value) (t : TypeId) : Prop where
  blk : Blk w b cs t
  out : b ∉ B
  low : w0.heap.size ≤ b
section

variable {B B' : List Nat} {w0 w w' : World} {b : Nat} {cs : Array Value} {t : TypeId}

theorem Lo.nx (h : Lo B w0 w b cs t) (k : Nx B w B' w') : Lo B' w0 w' b cs t := ⟨k.blk h.blk h.out, k.out h.blk.lt h.out, h.low⟩
theorem Lo.call (h : Lo B w0 w b cs t) (k : Below w.heap.size w w') : Lo B w0 w' b cs t := ⟨h.blk.call k, h.out, h.low⟩
theorem Lo.old (h : Lo B w0 w b cs t) (o : Obj) : Lo B w0 (w.alloc o) b cs t := ⟨h.blk.old o, h.out, h.low⟩
theorem Lo.drew (h : Lo B w0 w b cs t) : Lo B w0 w.drew b cs t := ⟨h.blk, h.out, h.low⟩
theorem Lo.row (h : Lo B w0 w b cs t) (ds : Array Value) : Lo B w0 (w.setRow b ds) b ds t := ⟨h.blk.row ds, h.out, h.low⟩
theorem Lo.row_other {c : Nat} (h : Lo B w0 w b cs t) (ds : Array Value) (hne : b ≠ c) : Lo B w0 (w.setRow c ds) b cs t := ⟨h.blk.row_other ds hne, h.out, h.low⟩
end

theorem Nx.row {B B' : List Nat} {w w' : World} (h : Nx B w B' w') {b : Nat} (cs : Array Value) (hb : w.heap.size ≤ b) : Nx B w B' (w'.setRow b cs) :=
  ⟨⟨h.kp.fr.trans ⟨rfl, rfl, rfl, by rw [size_setRow]; exact Nat.le_refl _⟩, fun k hk hn => (setRow_other w' b k cs (by omega)).trans (h.kp.same k hk hn)⟩, h.sub⟩
section

variable {X : Cx} {c : Nat} {M : Wm} {w w' : World} {A : Aw}

theorem WIs.lo (h : WIs X c M w A) {w0 : World} (hw : w0.heap.size ≤ w.heap.size) (cs : Array Value) (t : TypeId) : Lo (M.bl X.wb) w0 (w.alloc (.cells cs t)) w.heap.size cs t := ⟨Blk.new w cs t, h.new (Nat.le_refl _), hw⟩
theorem WIs.rowL (h : WIs X c M w A) {w0 : World} {b : Nat} {cs : Array Value} {t : TypeId} (hl : Lo (M.bl X.wb) w0 w b cs t) (ds : Array Value) (h0 : X.W0.heap.size ≤ w0.heap.size) : WIs X c M (w.setRow b ds) A := h.row ds hl.out (Nat.le_trans h0 hl.low)
end
/-! ### Small functions -/
section

attribute [local go_sem ↓] ldR stR alR bxR bdR bdD bdE ldD stD alD

attribute [local irreducible] rcs dcs ecs
set_option maxRecDepth 10000
attribute [local go_sem] run_bx run_alR run_stRg run_bdRk

end

end Go.Proofs.Ytblbeinnfbohbaa.Mw

/-
  New: a world without objects.
-/
namespace Go.Proofs.Ytblbeinnfbohbaa.Mo
open Go Go.RowKit Go.Maps Go.Shelf Go.Proofs.Ytblbeinnfbohbaa.Keys Go.Proofs.Ytblbeinnfbohbaa.Hp Go.Proofs.Ytblbeinnfbohbaa.Rg
open Go.Proofs.Ytblbeinnfbohbaa.Des (Vl Ds zeroV zeroD dcs dcs_size dcs_one)
open Go.Proofs.Ytblbeinnfbohbaa.Arrs (En ecs ecs_0 ecs_1 ecs_10 ecs_size ecs_list ecs_one ecs_one')
set_option linter.unusedVariables false
set_option linter.unusedSimpArgs false
theorem bdW (ps : Array (Nat × Value)) : Instr.build 50 ps = Bd 50 ps := (rfl)
theorem bxW (v : Value) : Instr.box 50 v = Bx 50 v := (rfl)
theorem run_bdW (w : World) (hb : Nat) (f d : Int) : (Bd 50 #[(0, .pointer (some ⟨hb, 0, none⟩)), (2, .int .i64 f), (3, .int .i64 d)]).run Try.prog w = .ok (.agg (wcs hb .nilIface f d 0 0 nilS)) w := run_build w _ _ _ (by kernel_rfl)
theorem maxz (x : Int) : (if x < 0 then 0 else x) = max x 0 := by omega
theorem minz (x : Int) : (if 1000 < x then 1000 else x) = min x 1000 := by omega
attribute [local go_sem ↓] bdW bxW

attribute [local irreducible] wcs

attribute [local go_sem] run_bx run_bdW

structure NewI (F R D : Int) (N : Nat) (w1 : World) (L : Array Bool) (x0 x1 x2 x3 x4 x5 x6 x7 x8 x9 x10 x11 x12 x13 x14 : Value) (W : World) : Prop where
  k1 : x1 = ptr N
  m1 : Below w1.heap.size w1 W
  h0 : L.getD 0 false = true → x3 = .pointer (some ⟨N, 1, none⟩)
  h1 : L.getD 1 false = true → x4 = .int .i64 R
  h2 : L.getD 2 false = true → ∃ g, x5 = ptr g ∧ w1.heap.size ≤ g ∧ Blk W g (hp R nilS 0) 75
  h3 : L.getD 3 false = true → x6 = .pointer (some ⟨N, 0, none⟩)
  h4 : L.getD 4 false = true → x7 = .int .i64 F
  h5 : L.getD 5 false = true → x8 = .int .i64 (max F 0)
  h6 : L.getD 6 false = true → x9 = .pointer (some ⟨N, 2, none⟩)
  h7 : L.getD 7 false = true → x10 = .int .i64 D
  h8 : L.getD 8 false = true → x11 = .int .i64 (max D 0)
  h9 : L.getD 9 false = true → x12 = .int .i64 (min (max D 0) 1000)
  h10 : L.getD 10 false = true → ∃ g, x5 = ptr g ∧ x13 = .agg (wcs g .nilIface (max F 0) (min (max D 0) 1000) 0 0 nilS)
  h11 : L.getD 11 false = true → ∃ b g, x14 = ptr b ∧ x5 = ptr g ∧ w1.heap.size ≤ b ∧ Blk W b (wcs g .nilIface (max F 0) (min (max D 0) 1000) 0 0 nilS) 50
  h12 : L.getD 12 false = true → x2 = x14
/-- A world that is new. -/
def NewPost (w : World) (F R D : Int) (e : Ending) (w' : World) : Prop := ∃ wb hb, e = .returned (ptr wb) ∧ Blk w' wb (wcs hb .nilIface (max F 0) (min (max D 0) 1000) 0 0 nilS) 50 ∧ Blk w' hb (hp R nilS 0) 75 ∧ w.heap.size ≤ wb ∧ w.heap.size ≤ hb ∧ Below w.heap.size w w'
set_option maxRecDepth 100000 in
set_option maxHeartbeats 4000000 in
theorem newW_any (F R D : Int) (w : World) : Calls Try.prog 5 #[.agg #[.int .i64 F, .int .i64 R, .int .i64 D]] w (NewPost w F R D) := by
  obtain ⟨w1, hw1⟩ : ∃ w1, w.alloc (.cells #[.int .i64 F, .int .i64 R, .int .i64 D] 28) = w1 := ⟨_, rfl⟩
  have k1 : w1.heap.size = w.heap.size + 1 := by rw [← hw1]; simp
  have b1 : Below w.heap.size w w1 := by rw [← hw1]; exact (Below.refl _ w).alloc (Nat.le_refl _) _
  have hbl : Blk w1.drew w.heap.size #[.int .i64 F, .int .i64 R, .int .i64 D] 28 := by rw [← hw1]; exact Blk.new w _ _
  have hlt : w.heap.size < w1.drew.heap.size := by show w.heap.size < w1.heap.size; omega
  go_enter Try.func5, Try.ntmps5
  go_wp2
  refine region_inv (by kernel_rfl) (fun L a W => ∃ x0 x1 x2 x3 x4 x5 x6 x7 x8 x9 x10 x11 x12 x13 x14 : Value, a = { tmps := #[x0, x1, x2, x3, x4, x5, x6, x7, x8, x9, x10, x11, x12, x13, x14], defers := [] } ∧ NewI F R D w.heap.size w1.drew L x0 x1 x2 x3 x4 x5 x6 x7 x8 x9 x10 x11 x12 x13 x14 W) (by kernel_rfl) ?start ?step ?done
  case start => exact ⟨_, _, _, _, _, _, _, _, _, _, _, _, _, _, _, rfl, ⟨rfl, Below.refl _ _, fun h => by simp [Array.getD_eq_getD_getElem?] at h, fun h => by simp [Array.getD_eq_getD_getElem?] at h, fun h => by simp [Array.getD_eq_getD_getElem?] at h, fun h => by simp [Array.getD_eq_getD_getElem?] at h, fun h => by simp [Array.getD_eq_getD_getElem?] at h, fun h => by simp [Array.getD_eq_getD_getElem?] at h, fun h => by simp [Array.getD_eq_getD_getElem?] at h, fun h => by simp [Array.getD_eq_getD_getElem?] at h, fun h => by simp [Array.getD_eq_getD_getElem?] at h, fun h => by simp [Array.getD_eq_getD_getElem?] at h, fun h => by simp [Array.getD_eq_getD_getElem?] at h, fun h => by simp [Array.getD_eq_getD_getElem?] at h, fun h => by simp [Array.getD_eq_getD_getElem?] at h⟩⟩
  case step =>
    intro i L a W hi hdep hL hs hcl hI
    have hi2 : i < 13 := by simpa using hi
    obtain ⟨x0, x1, x2, x3, x4, x5, x6, x7, x8, x9, x10, x11, x12, x13, x14, rfl, H⟩ := hI
    have ol : ∀ j, i ≠ j → (L.setIfInBounds i true).getD j false = true → L.getD j false = true := fun j hj h => by rwa [getD_set hj] at h
    rcases (by omega : i = 0 ∨ i = 1 ∨ i = 2 ∨ i = 3 ∨ i = 4 ∨ i = 5 ∨ i = 6 ∨ i = 7 ∨ i = 8 ∨ i = 9 ∨ i = 10 ∨ i = 11 ∨ i = 12) with rfl | rfl | rfl | rfl | rfl | rfl | rfl | rfl | rfl | rfl | rfl | rfl | rfl
    · clear hi hi2
      have e := H.k1
      subst e
      exact step_run (i := 0) (w' := W) (v := .pointer (some ⟨w.heap.size, 1, none⟩)) rfl rfl (by simp [execOp, Act.eval, go_sem]) ⟨_, _, _, _, _, _, _, _, _, _, _, _, _, _, _, rfl, ⟨(H.k1), (H.m1), (fun _ => rfl), (fun h => H.h1 (ol 1 (by decide) h)), (fun h => H.h2 (ol 2 (by decide) h)), (fun h => H.h3 (ol 3 (by decide) h)), (fun h => H.h4 (ol 4 (by decide) h)), (fun h => H.h5 (ol 5 (by decide) h)), (fun h => H.h6 (ol 6 (by decide) h)), (fun h => H.h7 (ol 7 (by decide) h)), (fun h => H.h8 (ol 8 (by decide) h)), (fun h => H.h9 (ol 9 (by decide) h)), (fun h => H.h10 (ol 10 (by decide) h)), (fun h => H.h11 (ol 11 (by decide) h)), (fun h => H.h12 (ol 12 (by decide) h))⟩⟩
    · clear hi hi2
      have e := H.h0 (hdep 0 (memOf (by kernel_rfl)))
      subst e
      have c := ((hbl.below H.m1 hlt).cell 1).trans (show _ = some (.int .i64 R) from rfl)
      exact step_run (i := 1) (w' := W) (v := .int .i64 R) rfl rfl (by simp [execOp, Act.eval, go_sem, c]) ⟨_, _, _, _, _, _, _, _, _, _, _, _, _, _, _, rfl, ⟨(H.k1), (H.m1), (fun h => H.h0 (ol 0 (by decide) h)), (fun _ => rfl), (fun h => H.h2 (ol 2 (by decide) h)), (fun h => H.h3 (ol 3 (by decide) h)), (fun h => H.h4 (ol 4 (by decide) h)), (fun h => H.h5 (ol 5 (by decide) h)), (fun h => H.h6 (ol 6 (by decide) h)), (fun h => H.h7 (ol 7 (by decide) h)), (fun h => H.h8 (ol 8 (by decide) h)), (fun h => H.h9 (ol 9 (by decide) h)), (fun h => H.h10 (ol 10 (by decide) h)), (fun h => H.h11 (ol 11 (by decide) h)), (fun h => H.h12 (ol 12 (by decide) h))⟩⟩
    · clear hi hi2
      have e := H.h1 (hdep 1 (memOf (by kernel_rfl)))
      subst e
      refine step_call (i := 2) (f := 12) (args := #[.int .i64 R]) rfl rfl (by simp [execOp, Act.eval, go_sem]) (new_any R W) ?_
      rintro e W2 ⟨rfl, rfl⟩
      have hb : Below W.heap.size W (W.alloc (.cells (hp R nilS 0) 75)) := (Below.refl _ W).alloc (Nat.le_refl _) _
      exact ⟨_, rfl, ⟨_, _, _, _, _, _, _, _, _, _, _, _, _, _, _, rfl, ⟨(H.k1), (H.m1.trans (hb.mono H.m1.size)), (fun h => H.h0 (ol 0 (by decide) h)), (fun h => H.h1 (ol 1 (by decide) h)), (fun _ => ⟨_, rfl, H.m1.size, Blk.new W _ _⟩), (fun h => H.h3 (ol 3 (by decide) h)), (fun h => H.h4 (ol 4 (by decide) h)), (fun h => H.h5 (ol 5 (by decide) h)), (fun h => H.h6 (ol 6 (by decide) h)), (fun h => H.h7 (ol 7 (by decide) h)), (fun h => H.h8 (ol 8 (by decide) h)), (fun h => H.h9 (ol 9 (by decide) h)), (fun h => (not_yet hL (hcl 10 (by simp) (ol 10 (by decide) h) 2 (memOf (by kernel_rfl)))).elim), (fun h => (not_yet hL (hcl 10 (by simp) (hcl 11 (by simp) (ol 11 (by decide) h) 10 (memOf (by kernel_rfl))) 2 (memOf (by kernel_rfl)))).elim), (fun h => H.h12 (ol 12 (by decide) h))⟩⟩⟩
    · clear hi hi2
      have e := H.k1
      subst e
      exact step_run (i := 3) (w' := W) (v := .pointer (some ⟨w.heap.size, 0, none⟩)) rfl rfl (by simp [execOp, Act.eval, go_sem]) ⟨_, _, _, _, _, _, _, _, _, _, _, _, _, _, _, rfl, ⟨(H.k1), (H.m1), (fun h => H.h0 (ol 0 (by decide) h)), (fun h => H.h1 (ol 1 (by decide) h)), (fun h => H.h2 (ol 2 (by decide) h)), (fun _ => rfl), (fun h => H.h4 (ol 4 (by decide) h)), (fun h => H.h5 (ol 5 (by decide) h)), (fun h => H.h6 (ol 6 (by decide) h)), (fun h => H.h7 (ol 7 (by decide) h)), (fun h => H.h8 (ol 8 (by decide) h)), (fun h => H.h9 (ol 9 (by decide) h)), (fun h => H.h10 (ol 10 (by decide) h)), (fun h => H.h11 (ol 11 (by decide) h)), (fun h => H.h12 (ol 12 (by decide) h))⟩⟩
    · clear hi hi2
      have e := H.h3 (hdep 3 (memOf (by kernel_rfl)))
      subst e
      have c := ((hbl.below H.m1 hlt).cell 0).trans (show _ = some (.int .i64 F) from rfl)
      exact step_run (i := 4) (w' := W) (v := .int .i64 F) rfl rfl (by simp [execOp, Act.eval, go_sem, c]) ⟨_, _, _, _, _, _, _, _, _, _, _, _, _, _, _, rfl, ⟨(H.k1), (H.m1), (fun h => H.h0 (ol 0 (by decide) h)), (fun h => H.h1 (ol 1 (by decide) h)), (fun h => H.h2 (ol 2 (by decide) h)), (fun h => H.h3 (ol 3 (by decide) h)), (fun _ => rfl), (fun h => H.h5 (ol 5 (by decide) h)), (fun h => H.h6 (ol 6 (by decide) h)), (fun h => H.h7 (ol 7 (by decide) h)), (fun h => H.h8 (ol 8 (by decide) h)), (fun h => H.h9 (ol 9 (by decide) h)), (fun h => H.h10 (ol 10 (by decide) h)), (fun h => H.h11 (ol 11 (by decide) h)), (fun h => H.h12 (ol 12 (by decide) h))⟩⟩
    · clear hi hi2
      have e := H.h4 (hdep 4 (memOf (by kernel_rfl)))
      subst e
      exact step_run (i := 5) (w' := W) (v := .int .i64 (max F 0)) rfl rfl (by simp [execOp, Act.eval, go_sem, maxz]) ⟨_, _, _, _, _, _, _, _, _, _, _, _, _, _, _, rfl, ⟨(H.k1), (H.m1), (fun h => H.h0 (ol 0 (by decide) h)), (fun h => H.h1 (ol 1 (by decide) h)), (fun h => H.h2 (ol 2 (by decide) h)), (fun h => H.h3 (ol 3 (by decide) h)), (fun h => H.h4 (ol 4 (by decide) h)), (fun _ => rfl), (fun h => H.h6 (ol 6 (by decide) h)), (fun h => H.h7 (ol 7 (by decide) h)), (fun h => H.h8 (ol 8 (by decide) h)), (fun h => H.h9 (ol 9 (by decide) h)), (fun h => H.h10 (ol 10 (by decide) h)), (fun h => H.h11 (ol 11 (by decide) h)), (fun h => H.h12 (ol 12 (by decide) h))⟩⟩
    · clear hi hi2
      have e := H.k1
      subst e
      exact step_run (i := 6) (w' := W) (v := .pointer (some ⟨w.heap.size, 2, none⟩)) rfl rfl (by simp [execOp, Act.eval, go_sem]) ⟨_, _, _, _, _, _, _, _, _, _, _, _, _, _, _, rfl, ⟨(H.k1), (H.m1), (fun h => H.h0 (ol 0 (by decide) h)), (fun h => H.h1 (ol 1 (by decide) h)), (fun h => H.h2 (ol 2 (by decide) h)), (fun h => H.h3 (ol 3 (by decide) h)), (fun h => H.h4 (ol 4 (by decide) h)), (fun h => H.h5 (ol 5 (by decide) h)), (fun _ => rfl), (fun h => H.h7 (ol 7 (by decide) h)), (fun h => H.h8 (ol 8 (by decide) h)), (fun h => H.h9 (ol 9 (by decide) h)), (fun h => H.h10 (ol 10 (by decide) h)), (fun h => H.h11 (ol 11 (by decide) h)), (fun h => H.h12 (ol 12 (by decide) h))⟩⟩
    · clear hi hi2
      have e := H.h6 (hdep 6 (memOf (by kernel_rfl)))
      subst e
      have c := ((hbl.below H.m1 hlt).cell 2).trans (show _ = some (.int .i64 D) from rfl)
      exact step_run (i := 7) (w' := W) (v := .int .i64 D) rfl rfl (by simp [execOp, Act.eval, go_sem, c]) ⟨_, _, _, _, _, _, _, _, _, _, _, _, _, _, _, rfl, ⟨(H.k1), (H.m1), (fun h => H.h0 (ol 0 (by decide) h)), (fun h => H.h1 (ol 1 (by decide) h)), (fun h => H.h2 (ol 2 (by decide) h)), (fun h => H.h3 (ol 3 (by decide) h)), (fun h => H.h4 (ol 4 (by decide) h)), (fun h => H.h5 (ol 5 (by decide) h)), (fun h => H.h6 (ol 6 (by decide) h)), (fun _ => rfl), (fun h => H.h8 (ol 8 (by decide) h)), (fun h => H.h9 (ol 9 (by decide) h)), (fun h => H.h10 (ol 10 (by decide) h)), (fun h => H.h11 (ol 11 (by decide) h)), (fun h => H.h12 (ol 12 (by decide) h))⟩⟩
    · clear hi hi2
      have e := H.h7 (hdep 7 (memOf (by kernel_rfl)))
      subst e
      exact step_run (i := 8) (w' := W) (v := .int .i64 (max D 0)) rfl rfl (by simp [execOp, Act.eval, go_sem, maxz]) ⟨_, _, _, _, _, _, _, _, _, _, _, _, _, _, _, rfl, ⟨(H.k1), (H.m1), (fun h => H.h0 (ol 0 (by decide) h)), (fun h => H.h1 (ol 1 (by decide) h)), (fun h => H.h2 (ol 2 (by decide) h)), (fun h => H.h3 (ol 3 (by decide) h)), (fun h => H.h4 (ol 4 (by decide) h)), (fun h => H.h5 (ol 5 (by decide) h)), (fun h => H.h6 (ol 6 (by decide) h)), (fun h => H.h7 (ol 7 (by decide) h)), (fun _ => rfl), (fun h => H.h9 (ol 9 (by decide) h)), (fun h => H.h10 (ol 10 (by decide) h)), (fun h => H.h11 (ol 11 (by decide) h)), (fun h => H.h12 (ol 12 (by decide) h))⟩⟩
    · clear hi hi2
      have e := H.h8 (hdep 8 (memOf (by kernel_rfl)))
      subst e
      exact step_run (i := 9) (w' := W) (v := .int .i64 (min (max D 0) 1000)) rfl rfl (by simp [execOp, Act.eval, go_sem, minz]) ⟨_, _, _, _, _, _, _, _, _, _, _, _, _, _, _, rfl, ⟨(H.k1), (H.m1), (fun h => H.h0 (ol 0 (by decide) h)), (fun h => H.h1 (ol 1 (by decide) h)), (fun h => H.h2 (ol 2 (by decide) h)), (fun h => H.h3 (ol 3 (by decide) h)), (fun h => H.h4 (ol 4 (by decide) h)), (fun h => H.h5 (ol 5 (by decide) h)), (fun h => H.h6 (ol 6 (by decide) h)), (fun h => H.h7 (ol 7 (by decide) h)), (fun h => H.h8 (ol 8 (by decide) h)), (fun _ => rfl), (fun h => H.h10 (ol 10 (by decide) h)), (fun h => H.h11 (ol 11 (by decide) h)), (fun h => H.h12 (ol 12 (by decide) h))⟩⟩
    · clear hi hi2
      have e5 := H.h2 (hdep 2 (memOf (by kernel_rfl)))
      have e8 := H.h5 (hdep 5 (memOf (by kernel_rfl)))
      have e12 := H.h9 (hdep 9 (memOf (by kernel_rfl)))
      obtain ⟨g, e5, hg1, hg2⟩ := e5
      subst e5 e8 e12
      have hbd := run_bdW W g (max F 0) (min (max D 0) 1000)
      exact step_run (i := 10) (w' := W) (v := .agg (wcs g .nilIface (max F 0) (min (max D 0) 1000) 0 0 nilS)) rfl rfl (by simp [execOp, Act.eval, go_sem, hbd]) ⟨_, _, _, _, _, _, _, _, _, _, _, _, _, _, _, rfl, ⟨(H.k1), (H.m1), (fun h => H.h0 (ol 0 (by decide) h)), (fun h => H.h1 (ol 1 (by decide) h)), (fun h => H.h2 (ol 2 (by decide) h)), (fun h => H.h3 (ol 3 (by decide) h)), (fun h => H.h4 (ol 4 (by decide) h)), (fun h => H.h5 (ol 5 (by decide) h)), (fun h => H.h6 (ol 6 (by decide) h)), (fun h => H.h7 (ol 7 (by decide) h)), (fun h => H.h8 (ol 8 (by decide) h)), (fun h => H.h9 (ol 9 (by decide) h)), (fun _ => ⟨g, rfl, rfl⟩), (fun h => H.h11 (ol 11 (by decide) h)), (fun h => H.h12 (ol 12 (by decide) h))⟩⟩
    · clear hi hi2
      have e13 := H.h10 (hdep 10 (memOf (by kernel_rfl)))
      obtain ⟨g, e5, e13⟩ := e13
      subst e5 e13
      have hb : Below W.heap.size W (W.alloc (.cells (wcs g .nilIface (max F 0) (min (max D 0) 1000) 0 0 nilS) 50)) := (Below.refl _ W).alloc (Nat.le_refl _) _
      exact step_run (i := 11) (w' := (W.alloc (.cells (wcs g .nilIface (max F 0) (min (max D 0) 1000) 0 0 nilS) 50))) (v := ptr W.heap.size) rfl rfl (by simp [execOp, Act.eval, go_sem]) ⟨_, _, _, _, _, _, _, _, _, _, _, _, _, _, _, rfl, ⟨(H.k1), (H.m1.trans (hb.mono H.m1.size)), (fun h => H.h0 (ol 0 (by decide) h)), (fun h => H.h1 (ol 1 (by decide) h)), (fun h => let ⟨g, q1, q2, q3⟩ := H.h2 (ol 2 (by decide) h); ⟨g, q1, q2, q3.call hb⟩), (fun h => H.h3 (ol 3 (by decide) h)), (fun h => H.h4 (ol 4 (by decide) h)), (fun h => H.h5 (ol 5 (by decide) h)), (fun h => H.h6 (ol 6 (by decide) h)), (fun h => H.h7 (ol 7 (by decide) h)), (fun h => H.h8 (ol 8 (by decide) h)), (fun h => H.h9 (ol 9 (by decide) h)), (fun h => H.h10 (ol 10 (by decide) h)), (fun _ => ⟨_, g, rfl, rfl, H.m1.size, Blk.new W _ _⟩), (fun h => (not_yet hL (hcl 12 (by simp) (ol 12 (by decide) h) 11 (memOf (by kernel_rfl)))).elim)⟩⟩
    · clear hi hi2
      have e14 := H.h11 (hdep 11 (memOf (by kernel_rfl)))
      exact step_run (i := 12) (w' := W) (v := x14) rfl rfl (by simp [execOp, Act.eval, go_sem]) ⟨_, _, _, _, _, _, _, _, _, _, _, _, _, _, _, rfl, ⟨(H.k1), (H.m1), (fun h => H.h0 (ol 0 (by decide) h)), (fun h => H.h1 (ol 1 (by decide) h)), (fun h => H.h2 (ol 2 (by decide) h)), (fun h => H.h3 (ol 3 (by decide) h)), (fun h => H.h4 (ol 4 (by decide) h)), (fun h => H.h5 (ol 5 (by decide) h)), (fun h => H.h6 (ol 6 (by decide) h)), (fun h => H.h7 (ol 7 (by decide) h)), (fun h => H.h8 (ol 8 (by decide) h)), (fun h => H.h9 (ol 9 (by decide) h)), (fun h => H.h10 (ol 10 (by decide) h)), (fun h => H.h11 (ol 11 (by decide) h)), (fun _ => rfl)⟩⟩
  case done =>
    rintro L a W hall ⟨x0, x1, x2, x3, x4, x5, x6, x7, x8, x9, x10, x11, x12, x13, x14, rfl, H⟩
    obtain ⟨b, g, e14, e5, hb1, hb2⟩ := H.h11 (hall 11 (by simp))
    obtain ⟨g2, e52, hg1, hg2⟩ := H.h2 (hall 2 (by simp))
    have e2 := H.h12 (hall 12 (by simp))
    rw [e5] at e52
    obtain rfl : g = g2 := by injection e52 with e; injection e with e; injection e
    subst e5 e2 e14
    have HM := Lib.hid H.m1
    have HB1 := Lib.hid b1
    have HX := Lib.hid (show NewPost w F R D (.returned (ptr b)) W from ⟨b, g, rfl, hb2, hg2, by have : w1.heap.size ≤ b := hb1; omega, by have : w1.heap.size ≤ g := hg1; omega, b1.drew.trans (H.m1.mono (by show w.heap.size ≤ w1.heap.size; omega))⟩)
    clear H hb1 hb2 hg1 hg2 hall hbl b1 hw1
    go_wp2
    go_ret
    exact HX.out
end Go.Proofs.Ytblbeinnfbohbaa.Mo

/-
  The names of the methods.
-/
namespace Go.Proofs.Ytblbeinnfbohbaa.Mo
open Go Go.RowKit Go.Maps Go.Shelf Go.Proofs.Ytblbeinnfbohbaa.Keys Go.Proofs.Ytblbeinnfbohbaa.Hp
open Go.Proofs.Ytblbeinnfbohbaa.Des (Vl Ds zeroV zeroD dcs dcs_size dcs_one)
open Go.Proofs.Ytblbeinnfbohbaa.Arrs (En ecs ecs_0 ecs_1 ecs_10 ecs_size ecs_list ecs_one ecs_one')
set_option linter.unusedVariables false
set_option linter.unusedSimpArgs false
/-- The name of a method. -/
def trapS (m : Int) : ByteArray :=
  if m = 1 then ⟨#[103, 101, 116, 80, 114, 111, 116, 111, 116, 121, 112, 101, 79, 102]⟩ else
  if m = 2 then ⟨#[115, 101, 116, 80, 114, 111, 116, 111, 116, 121, 112, 101, 79, 102]⟩ else
  if m = 3 then ⟨#[105, 115, 69, 120, 116, 101, 110, 115, 105, 98, 108, 101]⟩ else
  if m = 4 then ⟨#[112, 114, 101, 118, 101, 110, 116, 69, 120, 116, 101, 110, 115, 105, 111, 110, 115]⟩ else
  if m = 5 then ⟨#[103, 101, 116, 79, 119, 110, 80, 114, 111, 112, 101, 114, 116, 121, 68, 101, 115, 99, 114, 105, 112, 116, 111, 114]⟩ else
  if m = 6 then ⟨#[100, 101, 102, 105, 110, 101, 80, 114, 111, 112, 101, 114, 116, 121]⟩ else
  if m = 7 then ⟨#[104, 97, 115]⟩ else
  if m = 8 then ⟨#[103, 101, 116]⟩ else
  if m = 9 then ⟨#[115, 101, 116]⟩ else
  if m = 10 then ⟨#[100, 101, 108, 101, 116, 101, 80, 114, 111, 112, 101, 114, 116, 121]⟩ else
  if m = 11 then ⟨#[111, 119, 110, 75, 101, 121, 115]⟩ else
  if m = 12 then ⟨#[97, 112, 112, 108, 121]⟩ else
  if m = 13 then ⟨#[99, 111, 110, 115, 116, 114, 117, 99, 116]⟩ else
  ⟨#[]⟩
theorem trapS_1 : trapS 1 = ⟨#[103, 101, 116, 80, 114, 111, 116, 111, 116, 121, 112, 101, 79, 102]⟩ := rfl
theorem trapS_2 : trapS 2 = ⟨#[115, 101, 116, 80, 114, 111, 116, 111, 116, 121, 112, 101, 79, 102]⟩ := rfl
theorem trapS_3 : trapS 3 = ⟨#[105, 115, 69, 120, 116, 101, 110, 115, 105, 98, 108, 101]⟩ := rfl
theorem trapS_4 : trapS 4 = ⟨#[112, 114, 101, 118, 101, 110, 116, 69, 120, 116, 101, 110, 115, 105, 111, 110, 115]⟩ := rfl
theorem trapS_5 : trapS 5 = ⟨#[103, 101, 116, 79, 119, 110, 80, 114, 111, 112, 101, 114, 116, 121, 68, 101, 115, 99, 114, 105, 112, 116, 111, 114]⟩ := rfl
theorem trapS_6 : trapS 6 = ⟨#[100, 101, 102, 105, 110, 101, 80, 114, 111, 112, 101, 114, 116, 121]⟩ := rfl
theorem trapS_7 : trapS 7 = ⟨#[104, 97, 115]⟩ := rfl
theorem trapS_8 : trapS 8 = ⟨#[103, 101, 116]⟩ := rfl
theorem trapS_9 : trapS 9 = ⟨#[115, 101, 116]⟩ := rfl
theorem trapS_10 : trapS 10 = ⟨#[100, 101, 108, 101, 116, 101, 80, 114, 111, 112, 101, 114, 116, 121]⟩ := rfl
theorem trapS_11 : trapS 11 = ⟨#[111, 119, 110, 75, 101, 121, 115]⟩ := rfl
theorem trapS_12 : trapS 12 = ⟨#[97, 112, 112, 108, 121]⟩ := rfl
theorem trapS_13 : trapS 13 = ⟨#[99, 111, 110, 115, 116, 114, 117, 99, 116]⟩ := rfl
theorem trapS_out {m : Int} (h : m < 1 ∨ 13 < m) : trapS m = ⟨#[]⟩ := by
  unfold trapS
  repeat rw [if_neg (by omega)]
/-- The names as a row. -/
def trapC : Array Value := #[.string ⟨#[]⟩, .string ⟨#[103, 101, 116, 80, 114, 111, 116, 111, 116, 121, 112, 101, 79, 102]⟩, .string ⟨#[115, 101, 116, 80, 114, 111, 116, 111, 116, 121, 112, 101, 79, 102]⟩, .string ⟨#[105, 115, 69, 120, 116, 101, 110, 115, 105, 98, 108, 101]⟩, .string ⟨#[112, 114, 101, 118, 101, 110, 116, 69, 120, 116, 101, 110, 115, 105, 111, 110, 115]⟩, .string ⟨#[103, 101, 116, 79, 119, 110, 80, 114, 111, 112, 101, 114, 116, 121, 68, 101, 115, 99, 114, 105, 112, 116, 111, 114]⟩, .string ⟨#[100, 101, 102, 105, 110, 101, 80, 114, 111, 112, 101, 114, 116, 121]⟩, .string ⟨#[104, 97, 115]⟩, .string ⟨#[103, 101, 116]⟩, .string ⟨#[115, 101, 116]⟩, .string ⟨#[100, 101, 108, 101, 116, 101, 80, 114, 111, 112, 101, 114, 116, 121]⟩, .string ⟨#[111, 119, 110, 75, 101, 121, 115]⟩, .string ⟨#[97, 112, 112, 108, 121]⟩, .string ⟨#[99, 111, 110, 115, 116, 114, 117, 99, 116]⟩]
theorem trapC_size : trapC.size = 14 := rfl
theorem bdA (ps : Array (Nat × Value)) : Instr.build 121 ps = Bd 121 ps := (rfl)
theorem alA : Instr.alloc 121 true (.tuple #[]) = Al 121 := (rfl)
theorem stA (p v : Value) : Instr.storeAt 121 p v = St 121 p v := (rfl)
def zeroA : Array Value := #[.string ⟨#[]⟩, .string ⟨#[]⟩, .string ⟨#[]⟩, .string ⟨#[]⟩, .string ⟨#[]⟩, .string ⟨#[]⟩, .string ⟨#[]⟩, .string ⟨#[]⟩, .string ⟨#[]⟩, .string ⟨#[]⟩, .string ⟨#[]⟩, .string ⟨#[]⟩, .string ⟨#[]⟩, .string ⟨#[]⟩]
theorem infoA : (Try.prog.info? 121).map (fun i => (i.zero, i.size)) = some (some (.agg zeroA), 14) := by kernel_rfl
theorem run_alA (w : World) : (Al 121).run Try.prog w = .ok (ptr w.heap.size) (w.alloc (.cells zeroA 121)) := run_al infoA w
theorem run_stA (w : World) (g : Nat) (hg : g = w.heap.size) : (St 121 (.pointer (some ⟨g, 0, none⟩)) (.agg trapC)).run Try.prog (w.alloc (.cells zeroA 121)) = .ok () (w.alloc (.cells trapC 121)) := by
  subst hg
  have h := run_storeVar_row (P := Try.prog) (w.alloc (.cells zeroA 121)) w.heap.size 121 121 zeroA trapC (Blk.new w zeroA _) (by kernel_rfl) rfl (by simp [trapC, Value.oneCell'])
  unfold St
  simp only [Instr.storeAt, Instr.sureAddr, Sem.run_bind, Sem.run_pure, Result.andThen_ok, h, setRow_new]
theorem run_bdA (w : World) : (Bd 121 #[(1, .string ⟨#[103, 101, 116, 80, 114, 111, 116, 111, 116, 121, 112, 101, 79, 102]⟩), (2, .string ⟨#[115, 101, 116, 80, 114, 111, 116, 111, 116, 121, 112, 101, 79, 102]⟩), (3, .string ⟨#[105, 115, 69, 120, 116, 101, 110, 115, 105, 98, 108, 101]⟩), (4, .string ⟨#[112, 114, 101, 118, 101, 110, 116, 69, 120, 116, 101, 110, 115, 105, 111, 110, 115]⟩), (5, .string ⟨#[103, 101, 116, 79, 119, 110, 80, 114, 111, 112, 101, 114, 116, 121, 68, 101, 115, 99, 114, 105, 112, 116, 111, 114]⟩), (6, .string ⟨#[100, 101, 102, 105, 110, 101, 80, 114, 111, 112, 101, 114, 116, 121]⟩), (7, .string ⟨#[104, 97, 115]⟩), (8, .string ⟨#[103, 101, 116]⟩), (9, .string ⟨#[115, 101, 116]⟩), (10, .string ⟨#[100, 101, 108, 101, 116, 101, 80, 114, 111, 112, 101, 114, 116, 121]⟩), (11, .string ⟨#[111, 119, 110, 75, 101, 121, 115]⟩), (12, .string ⟨#[97, 112, 112, 108, 121]⟩), (13, .string ⟨#[99, 111, 110, 115, 116, 114, 117, 99, 116]⟩)]).run Try.prog w = .ok (.agg trapC) w := run_build w _ _ _ (by kernel_rfl)
theorem trapC_1 : trapC[1]? = some (.string ⟨#[103, 101, 116, 80, 114, 111, 116, 111, 116, 121, 112, 101, 79, 102]⟩) := rfl
theorem trapC_2 : trapC[2]? = some (.string ⟨#[115, 101, 116, 80, 114, 111, 116, 111, 116, 121, 112, 101, 79, 102]⟩) := rfl
theorem trapC_3 : trapC[3]? = some (.string ⟨#[105, 115, 69, 120, 116, 101, 110, 115, 105, 98, 108, 101]⟩) := rfl
theorem trapC_4 : trapC[4]? = some (.string ⟨#[112, 114, 101, 118, 101, 110, 116, 69, 120, 116, 101, 110, 115, 105, 111, 110, 115]⟩) := rfl
theorem trapC_5 : trapC[5]? = some (.string ⟨#[103, 101, 116, 79, 119, 110, 80, 114, 111, 112, 101, 114, 116, 121, 68, 101, 115, 99, 114, 105, 112, 116, 111, 114]⟩) := rfl
theorem trapC_6 : trapC[6]? = some (.string ⟨#[100, 101, 102, 105, 110, 101, 80, 114, 111, 112, 101, 114, 116, 121]⟩) := rfl
theorem trapC_7 : trapC[7]? = some (.string ⟨#[104, 97, 115]⟩) := rfl
theorem trapC_8 : trapC[8]? = some (.string ⟨#[103, 101, 116]⟩) := rfl
theorem trapC_9 : trapC[9]? = some (.string ⟨#[115, 101, 116]⟩) := rfl
theorem trapC_10 : trapC[10]? = some (.string ⟨#[100, 101, 108, 101, 116, 101, 80, 114, 111, 112, 101, 114, 116, 121]⟩) := rfl
theorem trapC_11 : trapC[11]? = some (.string ⟨#[111, 119, 110, 75, 101, 121, 115]⟩) := rfl
theorem trapC_12 : trapC[12]? = some (.string ⟨#[97, 112, 112, 108, 121]⟩) := rfl
theorem trapC_13 : trapC[13]? = some (.string ⟨#[99, 111, 110, 115, 116, 114, 117, 99, 116]⟩) := rfl
attribute [local go_sem ↓] bdA alA stA

attribute [local irreducible] trapC zeroA

attribute [local go_sem] run_alA run_stA run_bdA
set_option maxRecDepth 100000
theorem trap_out (m : Int) (h : m < 1 ∨ 13 < m) (w : World) : Calls Try.prog 34 #[.int .i64 m] w fun e w' => e = .returned (.string (trapS m)) ∧ Below w.heap.size w w' := by
  rw [trapS_out h]
  have hq : (decide (1 ≤ m) && decide (m ≤ 13)) = false := by rcases h with h | h <;> simp <;> omega
  clear h
  go_enter Try.func34, Try.ntmps34
  go_wp2_with (go_at_call 42; refine (isM_any m _).mono ?_; rintro e w2 ⟨rfl, rfl⟩; (try rw [hq]))
  go_ret
  exact ⟨rfl, (Below.refl _ w).alloc (Nat.le_refl _) _⟩
theorem trap_1 (w : World) : Calls Try.prog 34 #[.int .i64 1] w fun e w' => e = .returned (.string (trapS 1)) ∧ Below w.heap.size w w' := by
  rw [trapS_1]
  have c : (w.alloc (.cells trapC 121)).cell? ⟨w.heap.size, 1, none⟩ = some (.string ⟨#[103, 101, 116, 80, 114, 111, 116, 111, 116, 121, 112, 101, 79, 102]⟩) := ((Blk.new w trapC _).cell 1).trans trapC_1
  go_enter Try.func34, Try.ntmps34
  go_wp2_with (go_at_call 42; refine (isM_any 1 _).mono ?_; rintro e w2 ⟨rfl, rfl⟩)
  go_ret
  exact ⟨rfl, (Below.refl _ w).alloc (Nat.le_refl _) _⟩
theorem trap_2 (w : World) : Calls Try.prog 34 #[.int .i64 2] w fun e w' => e = .returned (.string (trapS 2)) ∧ Below w.heap.size w w' := by
  rw [trapS_2]
  have c : (w.alloc (.cells trapC 121)).cell? ⟨w.heap.size, 2, none⟩ = some (.string ⟨#[115, 101, 116, 80, 114, 111, 116, 111, 116, 121, 112, 101, 79, 102]⟩) := ((Blk.new w trapC _).cell 2).trans trapC_2
  go_enter Try.func34, Try.ntmps34
  go_wp2_with (go_at_call 42; refine (isM_any 2 _).mono ?_; rintro e w2 ⟨rfl, rfl⟩)
  go_ret
  exact ⟨rfl, (Below.refl _ w).alloc (Nat.le_refl _) _⟩
theorem trap_3 (w : World) : Calls Try.prog 34 #[.int .i64 3] w fun e w' => e = .returned (.string (trapS 3)) ∧ Below w.heap.size w w' := by
  rw [trapS_3]
  have c : (w.alloc (.cells trapC 121)).cell? ⟨w.heap.size, 3, none⟩ = some (.string ⟨#[105, 115, 69, 120, 116, 101, 110, 115, 105, 98, 108, 101]⟩) := ((Blk.new w trapC _).cell 3).trans trapC_3
  go_enter Try.func34, Try.ntmps34
  go_wp2_with (go_at_call 42; refine (isM_any 3 _).mono ?_; rintro e w2 ⟨rfl, rfl⟩)
  go_ret
  exact ⟨rfl, (Below.refl _ w).alloc (Nat.le_refl _) _⟩
theorem trap_4 (w : World) : Calls Try.prog 34 #[.int .i64 4] w fun e w' => e = .returned (.string (trapS 4)) ∧ Below w.heap.size w w' := by
  rw [trapS_4]
  have c : (w.alloc (.cells trapC 121)).cell? ⟨w.heap.size, 4, none⟩ = some (.string ⟨#[112, 114, 101, 118, 101, 110, 116, 69, 120, 116, 101, 110, 115, 105, 111, 110, 115]⟩) := ((Blk.new w trapC _).cell 4).trans trapC_4
  go_enter Try.func34, Try.ntmps34
  go_wp2_with (go_at_call 42; refine (isM_any 4 _).mono ?_; rintro e w2 ⟨rfl, rfl⟩)
  go_ret
  exact ⟨rfl, (Below.refl _ w).alloc (Nat.le_refl _) _⟩
theorem trap_5 (w : World) : Calls Try.prog 34 #[.int .i64 5] w fun e w' => e = .returned (.string (trapS 5)) ∧ Below w.heap.size w w' := by
  rw [trapS_5]
  have c : (w.alloc (.cells trapC 121)).cell? ⟨w.heap.size, 5, none⟩ = some (.string ⟨#[103, 101, 116, 79, 119, 110, 80, 114, 111, 112, 101, 114, 116, 121, 68, 101, 115, 99, 114, 105, 112, 116, 111, 114]⟩) := ((Blk.new w trapC _).cell 5).trans trapC_5
  go_enter Try.func34, Try.ntmps34
  go_wp2_with (go_at_call 42; refine (isM_any 5 _).mono ?_; rintro e w2 ⟨rfl, rfl⟩)
  go_ret
  exact ⟨rfl, (Below.refl _ w).alloc (Nat.le_refl _) _⟩
theorem trap_6 (w : World) : Calls Try.prog 34 #[.int .i64 6] w fun e w' => e = .returned (.string (trapS 6)) ∧ Below w.heap.size w w' := by
  rw [trapS_6]
  have c : (w.alloc (.cells trapC 121)).cell? ⟨w.heap.size, 6, none⟩ = some (.string ⟨#[100, 101, 102, 105, 110, 101, 80, 114, 111, 112, 101, 114, 116, 121]⟩) := ((Blk.new w trapC _).cell 6).trans trapC_6
  go_enter Try.func34, Try.ntmps34
  go_wp2_with (go_at_call 42; refine (isM_any 6 _).mono ?_; rintro e w2 ⟨rfl, rfl⟩)
  go_ret
  exact ⟨rfl, (Below.refl _ w).alloc (Nat.le_refl _) _⟩
theorem trap_7 (w : World) : Calls Try.prog 34 #[.int .i64 7] w fun e w' => e = .returned (.string (trapS 7)) ∧ Below w.heap.size w w' := by
  rw [trapS_7]
  have c : (w.alloc (.cells trapC 121)).cell? ⟨w.heap.size, 7, none⟩ = some (.string ⟨#[104, 97, 115]⟩) := ((Blk.new w trapC _).cell 7).trans trapC_7
  go_enter Try.func34, Try.ntmps34
  go_wp2_with (go_at_call 42; refine (isM_any 7 _).mono ?_; rintro e w2 ⟨rfl, rfl⟩)
  go_ret
  exact ⟨rfl, (Below.refl _ w).alloc (Nat.le_refl _) _⟩
theorem trap_8 (w : World) : Calls Try.prog 34 #[.int .i64 8] w fun e w' => e = .returned (.string (trapS 8)) ∧ Below w.heap.size w w' := by
  rw [trapS_8]
  have c : (w.alloc (.cells trapC 121)).cell? ⟨w.heap.size, 8, none⟩ = some (.string ⟨#[103, 101, 116]⟩) := ((Blk.new w trapC _).cell 8).trans trapC_8
  go_enter Try.func34, Try.ntmps34
  go_wp2_with (go_at_call 42; refine (isM_any 8 _).mono ?_; rintro e w2 ⟨rfl, rfl⟩)
  go_ret
  exact ⟨rfl, (Below.refl _ w).alloc (Nat.le_refl _) _⟩
theorem trap_9 (w : World) : Calls Try.prog 34 #[.int .i64 9] w fun e w' => e = .returned (.string (trapS 9)) ∧ Below w.heap.size w w' := by
  rw [trapS_9]
  have c : (w.alloc (.cells trapC 121)).cell? ⟨w.heap.size, 9, none⟩ = some (.string ⟨#[115, 101, 116]⟩) := ((Blk.new w trapC _).cell 9).trans trapC_9
  go_enter Try.func34, Try.ntmps34
  go_wp2_with (go_at_call 42; refine (isM_any 9 _).mono ?_; rintro e w2 ⟨rfl, rfl⟩)
  go_ret
  exact ⟨rfl, (Below.refl _ w).alloc (Nat.le_refl _) _⟩
theorem trap_10 (w : World) : Calls Try.prog 34 #[.int .i64 10] w fun e w' => e = .returned (.string (trapS 10)) ∧ Below w.heap.size w w' := by
  rw [trapS_10]
  have c : (w.alloc (.cells trapC 121)).cell? ⟨w.heap.size, 10, none⟩ = some (.string ⟨#[100, 101, 108, 101, 116, 101, 80, 114, 111, 112, 101, 114, 116, 121]⟩) := ((Blk.new w trapC _).cell 10).trans trapC_10
  go_enter Try.func34, Try.ntmps34
  go_wp2_with (go_at_call 42; refine (isM_any 10 _).mono ?_; rintro e w2 ⟨rfl, rfl⟩)
  go_ret
  exact ⟨rfl, (Below.refl _ w).alloc (Nat.le_refl _) _⟩
theorem trap_11 (w : World) : Calls Try.prog 34 #[.int .i64 11] w fun e w' => e = .returned (.string (trapS 11)) ∧ Below w.heap.size w w' := by
  rw [trapS_11]
  have c : (w.alloc (.cells trapC 121)).cell? ⟨w.heap.size, 11, none⟩ = some (.string ⟨#[111, 119, 110, 75, 101, 121, 115]⟩) := ((Blk.new w trapC _).cell 11).trans trapC_11
  go_enter Try.func34, Try.ntmps34
  go_wp2_with (go_at_call 42; refine (isM_any 11 _).mono ?_; rintro e w2 ⟨rfl, rfl⟩)
  go_ret
  exact ⟨rfl, (Below.refl _ w).alloc (Nat.le_refl _) _⟩
theorem trap_12 (w : World) : Calls Try.prog 34 #[.int .i64 12] w fun e w' => e = .returned (.string (trapS 12)) ∧ Below w.heap.size w w' := by
  rw [trapS_12]
  have c : (w.alloc (.cells trapC 121)).cell? ⟨w.heap.size, 12, none⟩ = some (.string ⟨#[97, 112, 112, 108, 121]⟩) := ((Blk.new w trapC _).cell 12).trans trapC_12
  go_enter Try.func34, Try.ntmps34
  go_wp2_with (go_at_call 42; refine (isM_any 12 _).mono ?_; rintro e w2 ⟨rfl, rfl⟩)
  go_ret
  exact ⟨rfl, (Below.refl _ w).alloc (Nat.le_refl _) _⟩
theorem trap_13 (w : World) : Calls Try.prog 34 #[.int .i64 13] w fun e w' => e = .returned (.string (trapS 13)) ∧ Below w.heap.size w w' := by
  rw [trapS_13]
  have c : (w.alloc (.cells trapC 121)).cell? ⟨w.heap.size, 13, none⟩ = some (.string ⟨#[99, 111, 110, 115, 116, 114, 117, 99, 116]⟩) := ((Blk.new w trapC _).cell 13).trans trapC_13
  go_enter Try.func34, Try.ntmps34
  go_wp2_with (go_at_call 42; refine (isM_any 13 _).mono ?_; rintro e w2 ⟨rfl, rfl⟩)
  go_ret
  exact ⟨rfl, (Below.refl _ w).alloc (Nat.le_refl _) _⟩
theorem trap_any (m : Int) (w : World) : Calls Try.prog 34 #[.int .i64 m] w fun e w' => e = .returned (.string (trapS m)) ∧ Below w.heap.size w w' := by
  by_cases h : m < 1 ∨ 13 < m
  · exact trap_out m h w
  · rcases (by omega : m = 1 ∨ m = 2 ∨ m = 3 ∨ m = 4 ∨ m = 5 ∨ m = 6 ∨ m = 7 ∨ m = 8 ∨ m = 9 ∨ m = 10 ∨ m = 11 ∨ m = 12 ∨ m = 13) with rfl | rfl | rfl | rfl | rfl | rfl | rfl | rfl | rfl | rfl | rfl | rfl | rfl
    · exact trap_1 w
    · exact trap_2 w
    · exact trap_3 w
    · exact trap_4 w
    · exact trap_5 w
    · exact trap_6 w
    · exact trap_7 w
    · exact trap_8 w
    · exact trap_9 w
    · exact trap_10 w
    · exact trap_11 w
    · exact trap_12 w
    · exact trap_13 w
end Go.Proofs.Ytblbeinnfbohbaa.Mo
