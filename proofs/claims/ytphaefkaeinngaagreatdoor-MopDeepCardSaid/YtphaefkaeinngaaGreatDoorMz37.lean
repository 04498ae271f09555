/-
  Texts of this seat in build order: MwRightB, MwPlain, MwDeepL.
-/
import Derived.Test.YtphaefkaeinngaaGreatDoorMz36
import Derived.Test.YtphaefkaeinngaaGreatDoorMz16
import Derived.Deep.LoopGhost
/-
  Right at a thing that holds nothing.
-/
namespace Go.Proofs.YtphaefkaeinngaaGreatDoor.Mw
open Go Go.RowKit Go.Maps Go.Shelf Go.Proofs.YtphaefkaeinngaaGreatDoor.Keys Go.Proofs.YtphaefkaeinngaaGreatDoor.Hp Go.Proofs.YtphaefkaeinngaaGreatDoor.Mo
open Go.Proofs.YtphaefkaeinngaaGreatDoor.Des (Vl Ds zeroV zeroD dcs dcs_size dcs_one accF rigF appF eqV)
open Go.Proofs.YtphaefkaeinngaaGreatDoor.Arrs (En ecs)
set_option linter.unusedVariables false
set_option linter.unusedSimpArgs false
def rtT : Th := { zeroT with proto := nullV }
theorem tcs_0 (t : Th) : (tcs t)[0]? = some (.int .i64 t.kind) := rfl
theorem tcs_5 (t : Th) : (tcs t)[5]? = some t.props := rfl
theorem tcs_6 (t : Th) : (tcs t)[6]? = some (.int .i64 t.code) := rfl
theorem tcs_20 (t : Th) : (tcs t)[20]? = some t.args := rfl
theorem rt_proto {w : World} {b : Nat} (h : Blk w b (tcs rtT) 39) : (Ld 30 (.pointer (some ⟨b, 1, none⟩))).run Tryz.prog w = .ok (.agg (vcs nullV)) w := run_ldVm (range_mid h [.int .i64 0] (vcs nullV).toList _ rfl)
theorem rt_v {w : World} {b : Nat} (h : Blk w b (tcs rtT) 39) : (Ld 30 (.pointer (some ⟨b, 8, none⟩))).run Tryz.prog w = .ok (.agg (vcs zeroV)) w := run_ldVm (range_mid h ((tcs rtT).toList.take 8) (vcs zeroV).toList ((tcs rtT).toList.drop 11) rfl)
theorem rt_this {w : World} {b : Nat} (h : Blk w b (tcs rtT) 39) : (Ld 30 (.pointer (some ⟨b, 17, none⟩))).run Tryz.prog w = .ok (.agg (vcs zeroV)) w := run_ldVm (range_mid h ((tcs rtT).toList.take 17) (vcs zeroV).toList ((tcs rtT).toList.drop 20) rfl)
theorem rtT_ok : rtT.ok := ⟨⟨none, 0, 0, rfl⟩, ⟨none, 0, 0, rfl⟩⟩
theorem va_z (w : World) (n : Int) : Calls Tryz.prog 12 #[.agg (vcs zeroV), .int .i64 n] w fun e w' => e = .returned (.bool true) ∧ Below w.heap.size w w' := va_zero w n
theorem lk_n (w : World) (n : Int) : Calls Tryz.prog 64 #[.agg (vcs nullV), .int .i64 n] w fun e w' => e = .returned (.bool true) ∧ Below w.heap.size w w' := lk_null w n
attribute [local go_sem ↓] ldR stR alR bxR bdR ldV stV alV bxV bdV ldA stA bxA bdA ldKy bxKy bdKy ldT stT alT
attribute [local irreducible] rcs dcs ecs vcs acs kcs xcs tcs
attribute [local go_sem] run_bx run_alR run_stRg run_bdA0 run_bdAk run_bdAkr run_bdAkvr run_bdAr run_bdAkd run_bdRz run_bdRd run_bdRk run_bdRf run_bdRo run_bdRs run_bdRt' run_bdKs run_alT run_alV
section
variable {X : Cx} {c : Nat} {M M' M'' : Wm} {w w' w'' : World} {A A' A'' : Aw} {ls : List Lc} {kl : List (Value × List KV)} {ro : List Lc} {D : DoT}
set_option maxRecDepth 100000 in
set_option maxHeartbeats 4000000 in
theorem right_bare (w : World) {b : Nat} (hb : Blk w b (tcs rtT) 39) : Calls Tryz.prog 44 #[.slice (some ⟨b, 0, none⟩) 1 1] w fun e w' => e = .returned (.bool true) ∧ Below w.heap.size w w' := by
  have lt := run_ldT hb
  have HB := Lib.hid hb
  clear hb
  go_enter Tryz.func44, Tryz.ntmps44
  go_wp2
  go_loopg [4] 1 (fun g s wr => ∃ j : Nat, j ≤ 1 ∧ g = 1 - j ∧ s = .int .i64 j ∧ Below w.heap.size w wr)
  case atStart => exact ⟨0, by omega, rfl, rfl, Below.refl _ _⟩
  case round =>
    rename World => wr
    obtain ⟨j, hj, rfl, rfl, hB⟩ := hrel
    rcases (by omega : j = 0 ∨ j = 1) with rfl | rfl
    · have hbr := HB.out.call hB
      have ltr := run_ldT hbr
      have st1 := run_stT wr rtT zeroT rtT_ok
      have hN := Blk.new wr (tcs rtT) 39
      have F5 : (wr.alloc (.cells (tcs rtT) 39)).cell? ⟨wr.heap.size, 5, none⟩ = some (.slice none 0 0) := (hN.cell 5).trans (tcs_5 _)
      have F0 : (wr.alloc (.cells (tcs rtT) 39)).cell? ⟨wr.heap.size, 0, none⟩ = some (.int .i64 0) := (hN.cell 0).trans (tcs_0 _)
      have F20 : (wr.alloc (.cells (tcs rtT) 39)).cell? ⟨wr.heap.size, 20, none⟩ = some (.slice none 0 0) := (hN.cell 20).trans (tcs_20 _)
      have FP := rt_proto hN
      have hbg := big_nil (wr.alloc (.cells (tcs rtT) 39))
      have HN := Lib.hid hN
      have HW := Lib.hid (show Below w.heap.size w (wr.alloc (.cells (tcs rtT) 39)) from hB.alloc hB.size _)
      clear hB hbr hN
      go_wp2_with (first
        | (go_at_call 63; (with_reducible refine hbg.mono ?_); rintro e w2 ⟨rfl, rfl⟩)
        | (go_at_call 64; (with_reducible refine (lk_n _ _).mono ?_); rintro e w3 ⟨rfl, hb3⟩; have h3 := HN.out.call hb3; have FV := rt_v h3; have HN := Lib.hid h3; have HW := Lib.hid (HW.out.trans (hb3.mono HW.out.size)); clear h3 hb3)
        | (go_at_call 12; (with_reducible refine (va_z _ _).mono ?_); rintro e w4 ⟨rfl, hb4⟩; have h4 := HN.out.call hb4; have FT := rt_this h4; have F6 := (h4.cell 6).trans (tcs_6 _); have F20 := (h4.cell 20).trans (tcs_20 _); have F5 := (h4.cell 5).trans (tcs_5 _); have F0 := (h4.cell 0).trans (tcs_0 _); have HN := Lib.hid h4; have HW := Lib.hid (HW.out.trans (hb4.mono HW.out.size)); clear h4 hb4))
      go_loopg [7] 0 (fun g s wx => g = 0 ∧ s = .int .i64 0 ∧ Blk wx wr.heap.size (tcs rtT) 39 ∧ Below w.heap.size w wx)
      case atStart => exact ⟨rfl, rfl, HN.out, HW.out⟩
      case round =>
        rename World => wx
        obtain ⟨rfl, rfl, hx, hB⟩ := hrel
        have F20 : wx.cell? ⟨wr.heap.size, 20, none⟩ = some (.slice none 0 0) := (hx.cell 20).trans (tcs_20 _)
        have HX := Lib.hid hx
        have HBx := Lib.hid hB
        clear hx hB
        go_wp2
        go_loopg [8] 0 (fun g s wy => g = 0 ∧ s = .int .i64 0 ∧ Blk wy wr.heap.size (tcs rtT) 39 ∧ Below w.heap.size w wy)
        case atStart => exact ⟨rfl, rfl, HX.out, HBx.out⟩
        case round =>
          rename World => wy
          obtain ⟨rfl, rfl, hx, hB⟩ := hrel
          have F5 : wy.cell? ⟨wr.heap.size, 5, none⟩ = some (.slice none 0 0) := (hx.cell 5).trans (tcs_5 _)
          have F0 : wy.cell? ⟨wr.heap.size, 0, none⟩ = some (.int .i64 0) := (hx.cell 0).trans (tcs_0 _)
          have HBy := Lib.hid hB
          clear hx hB
          go_wp2
          go_roundg 0
          case measure => omega
          case rel => exact ⟨1, by omega, rfl, by go_num, HBy.out⟩
    · have HBr := Lib.hid hB
      clear hB
      go_wp2
      go_ret
      exact ⟨rfl, HBr.out⟩
end
end Go.Proofs.YtphaefkaeinngaaGreatDoor.Mw

/-
  plain: a world of plain objects, each the next one's prototype.
-/
namespace Go.Proofs.YtphaefkaeinngaaGreatDoor.Mw
open Go Go.RowKit Go.Maps Go.Shelf Go.Proofs.YtphaefkaeinngaaGreatDoor.Keys Go.Proofs.YtphaefkaeinngaaGreatDoor.Hp Go.Proofs.YtphaefkaeinngaaGreatDoor.Mo
open Go.Proofs.YtphaefkaeinngaaGreatDoor.Des (Vl Ds zeroV zeroD dcs dcs_size dcs_one accF rigF appF eqV)
open Go.Proofs.YtphaefkaeinngaaGreatDoor.Arrs (En ecs)
set_option linter.unusedVariables false
set_option linter.unusedSimpArgs false
def plTh (n i : Nat) : Th := freshT 0 (if i + 1 < n then objV (i + 1 : Nat) else nullV)
def plL (ess : List (List En)) (k : Nat) : List Ob := (List.range k).map fun i => ⟨plTh ess.length i, ess[i]?.getD [], []⟩
theorem plL_succ (ess : List (List En)) (k : Nat) : plL ess (k + 1) = plL ess k ++ [⟨plTh ess.length k, ess[k]?.getD [], []⟩] := by simp [plL, List.range_succ]
theorem plL_len (ess : List (List En)) (k : Nat) : (plL ess k).length = k := by simp [plL]
def plA (F R D : Int) (ess : List (List En)) (k : Nat) : Aw := { newA F R D with objs := plL ess k }
def plG (p : Vl) (a : Option Addr) (n c : Nat) : Th := { zeroT with proto := p, ext := true, props := .slice a n c }
def rtG (a : Option Addr) (n c : Nat) : Th := { zeroT with proto := nullV, props := .slice a n c }
theorem plG_ok (p : Vl) (a : Option Addr) (n c : Nat) : (plG p a n c).ok := ⟨⟨a, n, c, rfl⟩, ⟨none, 0, 0, rfl⟩⟩
theorem rtG_ok (a : Option Addr) (n c : Nat) : (rtG a n c).ok := ⟨⟨a, n, c, rfl⟩, ⟨none, 0, 0, rfl⟩⟩
theorem run_bdPl (w : World) (p : Vl) (a : Option Addr) (n c : Nat) : (Bd 39 #[(1, .agg (vcs p)), (2, .bool true), (3, .slice a n c)]).run Tryz.prog w = .ok (.agg (tcs (plG p a n c))) w := run_build w _ _ _ (by kernel_rfl)
theorem run_bdRt (w : World) (a : Option Addr) (n c : Nat) : (Bd 39 #[(1, .agg (vcs nullV)), (3, .slice a n c)]).run Tryz.prog w = .ok (.agg (tcs (rtG a n c))) w := run_build w _ _ _ (by kernel_rfl)
theorem run_bdN1 (w : World) : (Bd 30 #[(0, .int .i64 1)]).run Tryz.prog w = .ok (.agg (vcs nullV)) w := run_bdV1 w 1
theorem run_bdO6 (w : World) (n : Int) : (Bd 30 #[(0, .int .i64 6), (1, .int .i64 n)]).run Tryz.prog w = .ok (.agg (vcs (objV n))) w := run_bdV2 w 6 n
def BsT (ps : Array (Nat × Value)) : Sem Value := Instr.buildSlice 112 1 ps
theorem bsT (ps : Array (Nat × Value)) : Instr.buildSlice 112 1 ps = BsT ps := (rfl)
theorem infoT3 : (Tryz.prog.info? 39).map (fun i => (i.zero, i.size, i.bytes)) = some (some (.agg (tcs zeroT)), 24, 256) := by kernel_rfl
theorem run_bsT (w : World) (t : Th) (ht : t.ok) : (BsT #[(0, .agg (tcs t))]).run Tryz.prog w = .ok (.slice (some ⟨w.heap.size, 0, none⟩) 1 1) (w.alloc (.cells (tcs t) 39)) := by
  obtain ⟨i, hi, hz, hs, hb⟩ := info_parts infoT3
  exact run_buildSlice w 112 39 1 _ (tcs t) i (.agg (tcs zeroT)) Tryz.underlying112 hi hz (by rw [hs]; decide) (by rw [hs]; decide) (by rw [hs]; have h := Go.Great.fill_whole (s := 24) (by decide) [.agg (tcs t)] ((Array.range (1 * 24)).map ((Value.agg (tcs zeroT)).cells[· % (Value.agg (tcs zeroT)).cells.size]!)) (fun v hv => by rw [List.mem_singleton.1 hv]; rfl) (by simp); simpa [Value.cells] using h)
def RightIs (b : Bool) (es : List En) (a : Option Addr) (c : Nat) : Prop := ∀ (w : World) (g : Nat), Blk w g (tcs (rtG a es.length c)) 39 → Hp.EsAt w.heap.size a es w → Calls Tryz.prog 44 #[.slice (some ⟨g, 0, none⟩) 1 1] w fun e w' => e = .returned (.bool b) ∧ Below w.heap.size w w'
section
variable {X : Cx} {c : Nat} {M M' M'' : Wm} {w w' w'' : World} {A A' A'' : Aw}
theorem wMakeDup (h : WIs X (c + 1) M w A) {th : Th} {es : List En} {vs : List Vl} (hg : Give w th es vs) (hr : (A.objs.length : Int) < A.room) :
    Calls Tryz.prog 14 #[ptr M.hb, .agg (tcs th)] w fun e w' => e = .returned (.tuple #[.int .i64 A.objs.length, .bool true]) ∧ Below X.W0.heap.size X.W0 w' := by
  obtain ⟨a, cc, hos⟩ := h.os_shape
  have hb := h.hblk
  rw [hos] at hb
  have hfew := h.few
  have horow := h.orow
  rw [hos] at horow
  refine (make_any 0 M.hb A.room a A.objs.length cc A.sy _ th es vs w hb (Nat.zero_le _) horow (by omega) hr fun w1 hb1 => (hg.call hb1).store).mono ?_
  rintro e w' ⟨rfl, g, c1, h1, ob, pb, mb, ns, a2, m2, c2, h2, hat, h4, h5, h6⟩
  refine ⟨rfl, h4.os.trans h.bel.os, h4.tape.trans h.bel.tape, h4.output.trans h.bel.output, Nat.le_trans h.bel.size h4.size, fun b hb' => ?_⟩
  have hbw : b < w.heap.size := Nat.lt_of_lt_of_le hb' h.bel.size
  rw [h5 b hbw (fun e => by have := h.low _ (mem_hb M X.wb); omega) (fun e => by
    have : b ∈ M.bl X.wb := mem_os (obl_mem (by rw [hos]; exact e))
    have := h.low _ this
    omega), h.bel.block b hb']
end
attribute [local go_sem ↓] ldR stR alR bxR bdR ldV stV alV bxV bdV ldA stA bxA bdA ldKy bxKy bdKy ldT stT alT bdT
attribute [local irreducible] rcs dcs ecs vcs acs kcs xcs tcs
attribute [local go_sem] run_bx run_alR run_stRg run_bdA0 run_bdAk run_bdAkr run_bdAkvr run_bdAr run_bdAkd run_bdRz run_bdRd run_bdRk run_bdRf run_bdRo run_bdRs run_bdRt' run_bdKs run_alT run_alV run_stVg
attribute [local go_sem ↓] bsT
attribute [local go_sem] run_bdPl run_bdRt run_bdN1 run_bdO6
section
variable {X : Cx} {c : Nat} {M M' M'' : Wm} {w w' w'' : World}
structure PlArg (w : World) (a : Option Addr) (ess : List (List En)) (Rg : List En → Bool) : Prop where
  len : ess.length ≤ 100
  el : ∀ (j : Nat) (es : List En), ess[j]? = some es → ∃ b off aj cj, a = some ⟨b, off, none⟩ ∧ b < w.heap.size ∧ w.cell? ⟨b, off + j, none⟩ = some (.slice aj es.length cj) ∧ Hp.EsAt w.heap.size aj es w ∧ RightIs (Rg es) es aj cj
  few : ∀ es ∈ ess, es.length ≤ 60000
  fine : ∀ es ∈ ess, ∀ e ∈ es, Fine (ekey e)
  nd : ∀ es ∈ ess, Rg es = true → (es.map ekey).Nodup
def PlPost (w : World) (F R D : Int) (ess : List (List En)) (Rg : List En → Bool) (e : Ending) (w' : World) : Prop :=
  if ess.all Rg then ∃ wb M, e = .returned (.tuple #[ptr wb, .bool true]) ∧ WIs ⟨w, wb, .nilIface, false, 0, min (max D 0) 1000⟩ 100000 M w' (plA F R D ess ess.length) else e = .returned (.tuple #[.pointer none, .bool false]) ∧ Below w.heap.size w w'
def MkP (X : Cx) (c : Nat) (M : Wm) (w : World) (A' : Aw) (k : Nat) (nd : Prop) (e : Ending) (w' : World) : Prop := e = .returned (.tuple #[.int .i64 k, .bool true]) ∧ Below X.W0.heap.size X.W0 w' ∧ (nd → ∃ M', M'.hb = M.hb ∧ WIs X c M' w' A')
theorem mk_any {X : Cx} {c : Nat} {M : Wm} {w : World} {A : Aw} (h : WIs X (c + 1) M w A) {th : Th} {es : List En} (hg : Give w th es []) (hr : (A.objs.length : Int) < A.room) (hc : es.length + 8 * A.fuel.toNat + c ≤ 900000) (hk : th.kind ≠ 4) :
    Calls Tryz.prog 14 #[ptr M.hb, .agg (tcs th)] w (MkP X c M w (makeF (bare th) es [] A) A.objs.length (es.map ekey).Nodup) := by
  by_cases hn : (es.map ekey).Nodup
  · refine (wMake h hg hn hc (fun _ => hk)).mono fun e w' hp => ?_
    unfold MakeP at hp
    rw [if_pos hr] at hp
    obtain ⟨h1, M', h2, h3, h4⟩ := hp
    exact ⟨h1, h3.bel, fun _ => ⟨M', h2, h3⟩⟩
  · refine (wMakeDup h hg hr).mono fun e w' hp => ⟨hp.1, hp.2, fun h => absurd h hn⟩
set_option maxRecDepth 100000 in
set_option maxHeartbeats 4000000 in
theorem plain_any (hLw : Nums.Lw w) (F R D : Int) (hF : F ≤ 80000) (a : Option Addr) (cap : Nat) (ess : List (List En)) (Rg : List En → Bool) (hp : PlArg w a ess Rg) (hR : (ess.length : Int) ≤ R) :
    Calls Tryz.prog 19 #[.slice a ess.length cap, .agg #[.int .i64 F, .int .i64 R, .int .i64 D]] w (PlPost w F R D ess Rg) := by
  have hlen := hp.len
  obtain ⟨w1, hw1⟩ : ∃ w1, w.alloc (.cells #[.int .i64 F, .int .i64 R, .int .i64 D] 28) = w1 := ⟨_, rfl⟩
  have b1 : Below w.heap.size w w1 := by rw [← hw1]; exact (Below.refl _ w).alloc (Nat.le_refl _) _
  have x1 : Blk w1 w.heap.size #[.int .i64 F, .int .i64 R, .int .i64 D] 28 := by rw [← hw1]; exact Blk.new _ _ _
  have k0 : w1.cell? ⟨w.heap.size, 0, none⟩ = some (.int .i64 F) := x1.cell 0
  have k1 : w1.cell? ⟨w.heap.size, 1, none⟩ = some (.int .i64 R) := x1.cell 1
  have k2 : w1.cell? ⟨w.heap.size, 2, none⟩ = some (.int .i64 D) := x1.cell 2
  have hnew := new_any w hLw F R D (100000 + ess.length) (by omega) false b1
  have HP := Lib.hid hp
  have HR := Lib.hid hR
  have HF := Lib.hid hF
  have HL := Lib.hid hlen
  have HWX := Lib.hid b1
  clear hp hR hF hLw b1 x1
  go_enter Tryz.func19, Tryz.ntmps19
  go_wp2_with (go_at_call 11; (with_reducible refine hnew.mono ?_); go_loud (rintro e w2 ⟨wb, M, rfl, hW, hq1, hq2, hq3⟩; have HW := Lib.hid hW; clear hW hq1 hq2 hq3 hnew))
  go_loopg [7] ess.length (fun g q wr => ∃ (j : Nat) (M' : Wm), j ≤ ess.length ∧ g = ess.length - j ∧ q = .int .i64 j ∧ (∀ i es, i < j → ess[i]? = some es → Rg es = true) ∧ WIs ⟨w, wb, .nilIface, false, 0, min (max D 0) 1000⟩ (100000 + (ess.length - j)) M' wr (plA F R D ess j))
  case atStart => exact ⟨0, M, by omega, rfl, rfl, (fun i es h => by omega), HW.out⟩
  case round =>
    rename World => wr
    obtain ⟨j, M', hj, rfl, rfl, hall, hM⟩ := hrel
    have HA := Lib.hid hall
    by_cases hjl : j < ess.length
    · obtain ⟨es, hes⟩ : ∃ es, ess[j]? = some es := ⟨ess[j], List.getElem?_eq_getElem hjl⟩
      have hmem := List.mem_of_getElem? hes
      obtain ⟨gb, goff, aj, cj, ea, hgb, hcell, hEs, hri⟩ := HP.out.el j es hes
      subst ea
      have hfew := HP.out.few es hmem
      have hfine := HP.out.fine es hmem
      have HND := Lib.hid (HP.out.nd es hmem)
      have hd1 : decide ((j : Int) < ess.length) = true := by simp; omega
      have hd2 : decide (j < ess.length) = true := by simp; omega
      have hw1' : wrap64 ((j : Int) + 1) = ((j + 1 : Nat) : Int) := by unfold wrap64; omega
      obtain ⟨kc, hkc⟩ : ∃ kc, 100000 + (ess.length - j) = kc + 1 ∧ kc = 100000 + (ess.length - (j + 1)) := ⟨_, by omega, rfl⟩
      rw [hkc.1] at hM
      have hlenj : (plA F R D ess j).objs.length = j := plL_len ess j
      have HKC := Lib.hid hkc.2
      have HRI := Lib.hid hri
      have HES := Lib.hid hEs
      have HGB := Lib.hid hgb
      have HCE := Lib.hid hcell
      have hmake : makeF (plTh ess.length j) es [] (plA F R D ess j) = plA F R D ess (j + 1) := by
        unfold makeF plA
        congr 1
        rw [plL_succ, hes]
        rfl
      have HMK := Lib.hid hmake
      have hroomj : ((plA F R D ess j).objs.length : Int) < (plA F R D ess j).room := by rw [hlenj]; have := HR.out; show (j : Int) < R; omega
      have HM := Lib.hid hM
      clear hcell hEs hri hgb hmake hall hkc hM
      have hcase : j + 1 < ess.length ∨ ¬ j + 1 < ess.length := by omega
      rcases hcase with hlast | hlast
      · have hth : plTh ess.length j = bare (plG (objV ((j : Int) + 1)) aj es.length cj) := by unfold plTh; rw [if_pos (by omega)]; rfl
        have hd3 : decide (((j + 1 : Nat) : Int) < ess.length) = true := by simp; omega
        have hd4 : decide (j + 1 < ess.length) = true := by simp; omega
        have hd5 : decide ((j : Int) + 1 < ess.length) = true := by simp; omega
        obtain ⟨W8, hW8⟩ : ∃ W8, wr.alloc (.cells (vcs (objV ((j : Int) + 1))) 30) = W8 := ⟨_, rfl⟩
        have h8 : WIs ⟨w, wb, .nilIface, false, 0, min (max D 0) 1000⟩ (kc + 1) M' W8 (plA F R D ess j) := by rw [← hW8]; exact HM.out.old _
        have B8 : Below w.heap.size w W8 := h8.bel
        have V8 : Blk W8 wr.heap.size (vcs (objV ((j : Int) + 1))) 30 := by rw [← hW8]; exact Blk.new _ _ _
        have z8 : W8.heap.size = wr.heap.size + 1 := by rw [← hW8]; simp
        have c8 : W8.drew.cell? ⟨gb, goff + j, none⟩ = some (.slice aj es.length cj) := (B8.drew.cell (p := ⟨gb, goff + j, none⟩) HGB.out).trans HCE.out
        have l8 := run_ldVp V8.drew
        have B9 : Below w.heap.size w (W8.alloc (.cells (tcs zeroT) 39)).drew := (B8.alloc B8.size _).drew
        have c9 : (W8.alloc (.cells (tcs zeroT) 39)).drew.cell? ⟨gb, goff + j, none⟩ = some (.slice aj es.length cj) := (B9.cell (p := ⟨gb, goff + j, none⟩) HGB.out).trans HCE.out
        have l9 := run_ldVp (V8.old (.cells (tcs zeroT) 39)).drew
        obtain ⟨W9, hW9⟩ : ∃ W9, W8.drew.alloc (.cells (tcs (plG (objV ((j : Int) + 1)) aj es.length cj)) 39) = W9 := ⟨_, rfl⟩
        have s9 : (St 39 (.pointer (some ⟨W8.heap.size, 0, none⟩)) (.agg (tcs (plG (objV ((j : Int) + 1)) aj es.length cj)))).run Tryz.prog (W8.alloc (.cells (tcs zeroT) 39)).drew = .ok () W9 := by
          rw [← hW9]
          exact run_stT W8.drew (plG (objV ((j : Int) + 1)) aj es.length cj) zeroT (plG_ok _ _ _ _)
        have h9 : WIs ⟨w, wb, .nilIface, false, 0, min (max D 0) 1000⟩ (kc + 1) M' W9 (plA F R D ess j) := by rw [← hW9]; exact h8.drew.old _
        have T9 : Blk W9 W8.heap.size (tcs (plG (objV ((j : Int) + 1)) aj es.length cj)) 39 := by rw [← hW9]; exact Blk.new _ _ _
        have lT := run_ldT T9.drew
        have h9d := h9.drew
        have c0 : W9.drew.cell? ⟨wb, 0, none⟩ = some (ptr M'.hb) := h9d.wblk.cell 0
        have hgv : Give W9.drew (plG (objV ((j : Int) + 1)) aj es.length cj) es [] := ⟨⟨aj, cj, rfl, (HES.out.below h9d.bel).mono h9d.bel.size⟩, ⟨none, 0, rfl, .inl rfl⟩, hfine, by omega, by simp⟩
        have hmk := mk_any h9d hgv hroomj (by show es.length + 8 * (max F 0).toNat + kc ≤ 900000; have := HF.out; have := HKC.out; omega) (by show (0 : Int) ≠ 4; decide)
        rw [hlenj, ← hth, HMK.out] at hmk
        clear h8 V8 z8 h9 T9 h9d hgv HM B8 B9 hW9
        cases hRg : Rg es with
        | true =>
          rw [hRg] at HRI HND
          have HRG := Lib.hid hRg
          clear hRg
          go_wp2
          go_region
          all_goals go_wp2
          all_goals (go_region_with (go_at_call 14; (with_reducible refine hmk.mono ?_); go_loud (rintro e w10 ⟨rfl, hB, hN⟩; obtain ⟨M2, -, hW2⟩ := hN (HND.out trivial); have c10 : w10.cell? ⟨gb, goff + j, none⟩ = some (.slice aj es.length cj) := (hB.cell (p := ⟨gb, goff + j, none⟩) HGB.out).trans HCE.out; have s10 := run_bsT w10 (rtG aj es.length cj) (rtG_ok _ _ _); have hr10 := HRI.out (w10.alloc (.cells (tcs (rtG aj es.length cj)) 39)) w10.heap.size (Blk.new _ _ _) ((HES.out.below (hB.alloc hB.size _)).mono (by have hq : w.heap.size ≤ w10.heap.size := hB.size; simp; omega)); have HW10 := Lib.hid (hW2.old (.cells (tcs (rtG aj es.length cj)) 39)); clear hB hN hW2 hmk)))
          all_goals go_wp2_with (go_at_call 44; (with_reducible refine hr10.mono ?_); rintro e w11 ⟨rfl, hb11⟩; have HW11 := Lib.hid (HW10.out.call hb11); clear hb11 hr10)
          all_goals (
            go_roundg (ess.length - (j + 1))
            case measure => omega
            case rel =>
              refine ⟨j + 1, M2, by omega, rfl, by go_num, fun i es' hi hes' => ?_, ?_⟩
              · rcases (by omega : i < j ∨ i = j) with h | h
                · exact HA.out i es' h hes'
                · subst h
                  rw [hes] at hes'
                  cases hes'
                  exact HRG.out
              · rw [← HKC.out]; exact HW11.out)
        | false =>
          rw [hRg] at HRI
          have HRG := Lib.hid hRg
          clear hRg
          go_wp2
          go_region
          all_goals go_wp2
          all_goals (go_region_with (go_at_call 14; (with_reducible refine hmk.mono ?_); go_loud (rintro e w10 ⟨rfl, hB, hN⟩; have c10 : w10.cell? ⟨gb, goff + j, none⟩ = some (.slice aj es.length cj) := (hB.cell (p := ⟨gb, goff + j, none⟩) HGB.out).trans HCE.out; have s10 := run_bsT w10 (rtG aj es.length cj) (rtG_ok _ _ _); have hr10 := HRI.out (w10.alloc (.cells (tcs (rtG aj es.length cj)) 39)) w10.heap.size (Blk.new _ _ _) ((HES.out.below (hB.alloc hB.size _)).mono (by have hq : w.heap.size ≤ w10.heap.size := hB.size; simp; omega)); have HW10 := Lib.hid (show Below w.heap.size w (w10.alloc (.cells (tcs (rtG aj es.length cj)) 39)) from hB.alloc hB.size _); clear hB hN hmk)))
          all_goals go_wp2_with (go_at_call 44; (with_reducible refine hr10.mono ?_); rintro e w11 ⟨rfl, hb11⟩; have HW11 := Lib.hid (HW10.out.trans (hb11.mono HW10.out.size)); clear hb11 hr10)
          all_goals (
            go_ret2
            unfold PlPost
            rw [if_neg (fun h => by have := List.all_eq_true.1 h es hmem; rw [HRG.out] at this; cases this)]
            exact ⟨rfl, HW11.out⟩)
      · have hth : plTh ess.length j = bare (plG nullV aj es.length cj) := by unfold plTh; rw [if_neg (by omega)]; rfl
        have hd3 : decide (((j + 1 : Nat) : Int) < ess.length) = false := by simp; omega
        have hd4 : decide (j + 1 < ess.length) = false := by simp; omega
        have hd5 : decide ((j : Int) + 1 < ess.length) = false := by simp; omega
        obtain ⟨W8, hW8⟩ : ∃ W8, wr.alloc (.cells (vcs nullV) 30) = W8 := ⟨_, rfl⟩
        have h8 : WIs ⟨w, wb, .nilIface, false, 0, min (max D 0) 1000⟩ (kc + 1) M' W8 (plA F R D ess j) := by rw [← hW8]; exact HM.out.old _
        have B8 : Below w.heap.size w W8 := h8.bel
        have V8 : Blk W8 wr.heap.size (vcs nullV) 30 := by rw [← hW8]; exact Blk.new _ _ _
        have z8 : W8.heap.size = wr.heap.size + 1 := by rw [← hW8]; simp
        have c8 : W8.drew.cell? ⟨gb, goff + j, none⟩ = some (.slice aj es.length cj) := (B8.drew.cell (p := ⟨gb, goff + j, none⟩) HGB.out).trans HCE.out
        have l8 := run_ldVp V8.drew
        have B9 : Below w.heap.size w (W8.alloc (.cells (tcs zeroT) 39)).drew := (B8.alloc B8.size _).drew
        have c9 : (W8.alloc (.cells (tcs zeroT) 39)).drew.cell? ⟨gb, goff + j, none⟩ = some (.slice aj es.length cj) := (B9.cell (p := ⟨gb, goff + j, none⟩) HGB.out).trans HCE.out
        have l9 := run_ldVp (V8.old (.cells (tcs zeroT) 39)).drew
        obtain ⟨W9, hW9⟩ : ∃ W9, W8.drew.alloc (.cells (tcs (plG nullV aj es.length cj)) 39) = W9 := ⟨_, rfl⟩
        have s9 : (St 39 (.pointer (some ⟨W8.heap.size, 0, none⟩)) (.agg (tcs (plG nullV aj es.length cj)))).run Tryz.prog (W8.alloc (.cells (tcs zeroT) 39)).drew = .ok () W9 := by
          rw [← hW9]
          exact run_stT W8.drew (plG nullV aj es.length cj) zeroT (plG_ok _ _ _ _)
        have h9 : WIs ⟨w, wb, .nilIface, false, 0, min (max D 0) 1000⟩ (kc + 1) M' W9 (plA F R D ess j) := by rw [← hW9]; exact h8.drew.old _
        have T9 : Blk W9 W8.heap.size (tcs (plG nullV aj es.length cj)) 39 := by rw [← hW9]; exact Blk.new _ _ _
        have lT := run_ldT T9.drew
        have h9d := h9.drew
        have c0 : W9.drew.cell? ⟨wb, 0, none⟩ = some (ptr M'.hb) := h9d.wblk.cell 0
        have hgv : Give W9.drew (plG nullV aj es.length cj) es [] := ⟨⟨aj, cj, rfl, (HES.out.below h9d.bel).mono h9d.bel.size⟩, ⟨none, 0, rfl, .inl rfl⟩, hfine, by omega, by simp⟩
        have hmk := mk_any h9d hgv hroomj (by show es.length + 8 * (max F 0).toNat + kc ≤ 900000; have := HF.out; have := HKC.out; omega) (by show (0 : Int) ≠ 4; decide)
        rw [hlenj, ← hth, HMK.out] at hmk
        clear h8 V8 z8 h9 T9 h9d hgv HM B8 B9 hW9
        cases hRg : Rg es with
        | true =>
          rw [hRg] at HRI HND
          have HRG := Lib.hid hRg
          clear hRg
          go_wp2
          go_region
          all_goals go_wp2
          all_goals (go_region_with (go_at_call 14; (with_reducible refine hmk.mono ?_); go_loud (rintro e w10 ⟨rfl, hB, hN⟩; obtain ⟨M2, -, hW2⟩ := hN (HND.out trivial); have c10 : w10.cell? ⟨gb, goff + j, none⟩ = some (.slice aj es.length cj) := (hB.cell (p := ⟨gb, goff + j, none⟩) HGB.out).trans HCE.out; have s10 := run_bsT w10 (rtG aj es.length cj) (rtG_ok _ _ _); have hr10 := HRI.out (w10.alloc (.cells (tcs (rtG aj es.length cj)) 39)) w10.heap.size (Blk.new _ _ _) ((HES.out.below (hB.alloc hB.size _)).mono (by have hq : w.heap.size ≤ w10.heap.size := hB.size; simp; omega)); have HW10 := Lib.hid (hW2.old (.cells (tcs (rtG aj es.length cj)) 39)); clear hB hN hW2 hmk)))
          all_goals go_wp2_with (go_at_call 44; (with_reducible refine hr10.mono ?_); rintro e w11 ⟨rfl, hb11⟩; have HW11 := Lib.hid (HW10.out.call hb11); clear hb11 hr10)
          all_goals (
            go_roundg (ess.length - (j + 1))
            case measure => omega
            case rel =>
              refine ⟨j + 1, M2, by omega, rfl, by go_num, fun i es' hi hes' => ?_, ?_⟩
              · rcases (by omega : i < j ∨ i = j) with h | h
                · exact HA.out i es' h hes'
                · subst h
                  rw [hes] at hes'
                  cases hes'
                  exact HRG.out
              · rw [← HKC.out]; exact HW11.out)
        | false =>
          rw [hRg] at HRI
          have HRG := Lib.hid hRg
          clear hRg
          go_wp2
          go_region
          all_goals go_wp2
          all_goals (go_region_with (go_at_call 14; (with_reducible refine hmk.mono ?_); go_loud (rintro e w10 ⟨rfl, hB, hN⟩; have c10 : w10.cell? ⟨gb, goff + j, none⟩ = some (.slice aj es.length cj) := (hB.cell (p := ⟨gb, goff + j, none⟩) HGB.out).trans HCE.out; have s10 := run_bsT w10 (rtG aj es.length cj) (rtG_ok _ _ _); have hr10 := HRI.out (w10.alloc (.cells (tcs (rtG aj es.length cj)) 39)) w10.heap.size (Blk.new _ _ _) ((HES.out.below (hB.alloc hB.size _)).mono (by have hq : w.heap.size ≤ w10.heap.size := hB.size; simp; omega)); have HW10 := Lib.hid (show Below w.heap.size w (w10.alloc (.cells (tcs (rtG aj es.length cj)) 39)) from hB.alloc hB.size _); clear hB hN hmk)))
          all_goals go_wp2_with (go_at_call 44; (with_reducible refine hr10.mono ?_); rintro e w11 ⟨rfl, hb11⟩; have HW11 := Lib.hid (HW10.out.trans (hb11.mono HW10.out.size)); clear hb11 hr10)
          all_goals (
            go_ret2
            unfold PlPost
            rw [if_neg (fun h => by have := List.all_eq_true.1 h es hmem; rw [HRG.out] at this; cases this)]
            exact ⟨rfl, HW11.out⟩)
    · have hjl' : j = ess.length := by omega
      subst hjl'
      have hd1 : decide ((ess.length : Int) < ess.length) = false := by simp
      have hd2 : decide (ess.length < ess.length) = false := by simp
      have HM := Lib.hid hM
      clear hM hjl hall
      go_wp2
      go_ret2
      unfold PlPost
      rw [if_pos (by
        rw [List.all_eq_true]
        intro es hm
        obtain ⟨i, hi⟩ := List.mem_iff_getElem?.1 hm
        exact HA.out i es (List.getElem?_eq_some_iff.1 hi).1 hi)]
      exact ⟨wb, M', rfl, by have := HM.out; rw [Nat.sub_self] at this; exact this⟩
end
end Go.Proofs.YtphaefkaeinngaaGreatDoor.Mw

/-
  The law MopDeep.
-/
namespace Go.Proofs.YtphaefkaeinngaaGreatDoor.Mw
open Go Go.RowKit Go.Maps Go.Shelf Go.Proofs.YtphaefkaeinngaaGreatDoor.Keys Go.Proofs.YtphaefkaeinngaaGreatDoor.Hp Go.Proofs.YtphaefkaeinngaaGreatDoor.Mo
open Go.Proofs.YtphaefkaeinngaaGreatDoor.Des (Vl Ds zeroV zeroD dcs dcs_size dcs_one accF rigF appF eqV)
open Go.Proofs.YtphaefkaeinngaaGreatDoor.Arrs (En ecs)
set_option linter.unusedVariables false
set_option linter.unusedSimpArgs false
theorem right_nil : RightIs true [] none 0 := fun w g hb _ => right_bare w hb
theorem ch_objs (N : Nat) : plL (List.replicate N []) N = chL N := by
  unfold plL chL
  apply List.map_congr_left
  intro i hi
  have hi' : i < N := List.mem_range.1 hi
  unfold chOb chTh plTh
  simp [List.length_replicate, List.getElem?_replicate, hi']
theorem info_es : (Tryz.prog.info? 37).map (fun i => (i.zero, i.size, i.bytes)) = some (some (.slice none 0 0), 1, 24) := by kernel_rfl
def mkS (n : Nat) : Array Value := madeCells #[.slice none 0 0] n
theorem mkS_at (n j : Nat) (h : j < n) : (mkS n)[j]? = some (.slice none 0 0) := by
  unfold mkS madeCells
  simp [h, Nat.mod_one]
theorem run_mkS (n : Nat) (hn : n ≤ 1000000) (w : World) : (Instr.makeSlice 63 (.int .i64 n) (.int .i64 n)).run Tryz.prog w = .ok (.slice (some ⟨w.heap.size, 0, none⟩) n n) (w.alloc (.cells (mkS n) 37)) := by
  cases hq : Tryz.prog.info? 37 with
  | none => have := info_es; rw [hq] at this; cases this
  | some i =>
    have hi := info_es
    rw [hq] at hi
    simp at hi
    have h := run_make (P := Tryz.prog) w 63 37 i (.slice none 0 0) Tryz.underlying63 hq hi.1 .i64 .i64 n n (by omega) (by omega) (by rw [hi.2.2]; omega) (by omega)
    rw [hi.2.1] at h
    simpa [mkS, Value.cells] using h
def dpA (N : Nat) (d : Int) : Aw := plA 1000 100 d (List.replicate N []) (List.replicate N ([] : List En)).length
def dpQ : Aq := { zeroQ with k := (⟨#[97]⟩, 0) }
theorem dp_has (Xf : DoT → DoT) (N : Nat) (d : Int) (h1 : 1 ≤ N) (h2 : N ≤ 40) (h3 : 0 ≤ d) (h4 : d ≤ 60) :
    (doF Xf (fun _ => none) d.toNat 7 0 dpQ (dpA N d)).1 = (if (N : Int) + 1 ≤ d then zeroRr else flowR 4) ∧ (doF Xf (fun _ => none) d.toNat 7 0 dpQ (dpA N d)).2.deepest = (if (N : Int) + 1 ≤ d then (N : Int) + 1 else d) := by
  have ho : (dpA N d).objs = chL N := by unfold dpA plA; simp only [List.length_replicate]; exact ch_objs N
  have hdd : (dpA N d).deep = d := by show min (max d 0) 1000 = d; omega
  have hdp : (dpA N d).depth = 0 := rfl
  have hds : (dpA N d).deepest = 0 := rfl
  have hfu : (dpA N d).fuel = 1000 := rfl
  have h := ch_has (X := Xf) (C := fun _ => none) (n := N) dpQ N d.toNat 0 (dpA N d) ho (by omega) (by omega) (by rw [hdd, hdp]; omega) (by rw [hfu]; omega) (by rw [hdp, hds]; omega) (by rw [hds, hdd]; omega)
  rw [hdd, hdp, hds] at h
  obtain ⟨e1, e2, -⟩ := h
  have e0 : doF Xf (fun _ => none) d.toNat 7 ((0 : Nat) : Int) { zeroQ with k := dpQ.k } (dpA N d) = doF Xf (fun _ => none) d.toNat 7 0 dpQ (dpA N d) := rfl
  rw [e0] at e1 e2
  refine ⟨?_, ?_⟩
  · rw [e1]; simp only [Int.zero_add]
  · rw [e2]; simp only [Int.zero_add]; split <;> omega
theorem dp_arg (N : Nat) (w : World) (g : Nat) (hx : Blk w g (mkS N) 37) (hN : N ≤ 40) : PlArg w (some ⟨g, 0, none⟩) (List.replicate N []) (fun _ => true) := by
  refine ⟨by rw [List.length_replicate]; omega, fun j es hj => ?_, fun es hm => ?_, fun es hm => ?_, fun es hm _ => ?_⟩
  · rw [List.getElem?_replicate] at hj
    split at hj
    · rename_i hlt
      cases hj
      exact ⟨g, 0, none, 0, rfl, hx.lt, by rw [hx.cell, Nat.zero_add]; exact mkS_at N j hlt, (fun j e he => by simp at he), right_nil⟩
    · cases hj
  all_goals (obtain ⟨-, rfl⟩ := List.mem_replicate.1 hm; simp)
theorem dp_post {N : Nat} {w w' : World} {d : Int} {e : Ending} (h : PlPost w 1000 100 d (List.replicate N []) (fun _ => true) e w') : ∃ wb M, e = .returned (.tuple #[ptr wb, .bool true]) ∧ WIs ⟨w, wb, .nilIface, false, 0, min (max d 0) 1000⟩ 100000 M w' (dpA N d) := by
  unfold PlPost at h
  rw [if_pos (by simp)] at h
  exact h
theorem dp_do {N : Nat} {w w2 : World} {wb : Nat} {M : Wm} {d : Int} (Xf : DoT → DoT) (h3 : 0 ≤ d) (h4 : d ≤ 60) (h : WIs (⟨w, wb, .nilIface, false, 0, min (max d 0) 1000⟩ : Cx) 100000 M w2 (dpA N d)) :
    Calls Tryz.prog 16 #[ptr wb, .int .i64 7, .int .i64 0, .agg (acs { zeroQ with k := (⟨#[97]⟩, 0) } nilS)] w2 (Post (⟨w, wb, .nilIface, false, 0, min (max d 0) 1000⟩ : Cx) 99999 M w2 (doF Xf (fun _ => none) d.toNat 7 0 dpQ (dpA N d))) :=
  doIs_plain (X := (⟨w, wb, .nilIface, false, 0, min (max d 0) 1000⟩ : Cx)) (by show min (max d 0) 1000 ≤ 1000; omega) rfl rfl Xf (k := d.toNat) (by show (0 : Int) ≤ 0; decide) (by show (0 : Int) + (d.toNat : Int) = min (max d 0) 1000; omega) 99999 M w2 (dpA N d) 7 0 dpQ nilS h ⟨by decide, by decide, by decide⟩ (VsOut.nil _ _) (by simp [dpQ, zeroQ])
attribute [local go_sem ↓] ldR stR alR bxR bdR ldV stV alV bxV bdV ldA stA bxA bdA ldKy bxKy bdKy
attribute [local irreducible] rcs dcs ecs vcs acs kcs xcs tcs mkS
attribute [local go_sem] run_bx run_alR run_stRg run_bdA0 run_bdAk run_bdRz run_bdKa
section
set_option maxRecDepth 100000 in
set_option maxHeartbeats 4000000 in
theorem lawDeep_out (n d : Int) (w : World) (hLw : Nums.Lw w) (h : n < 1 ∨ 40 < n ∨ d < 0 ∨ 60 < d) : Calls Tryz.prog 6 #[.int .i64 n, .int .i64 d] w fun e w' => e = .returned (.bool true) ∧ Below w.heap.size w w' := by
  have hal := alive_any w hLw
  clear hLw
  by_cases h1 : n < 1
  · clear h
    go_enter Tryz.func6, Tryz.ntmps6
    go_wp2_with (go_at_call 10; (with_reducible refine hal.mono ?_); rintro e w2 ⟨rfl, hb⟩)
    go_ret
    exact ⟨rfl, hb⟩
  have d1 : decide (n < 1) = false := by simp; omega
  by_cases h2 : 40 < n
  · clear h h1
    go_enter Tryz.func6, Tryz.ntmps6
    go_wp2_with (go_at_call 10; (with_reducible refine hal.mono ?_); rintro e w2 ⟨rfl, hb⟩)
    go_ret
    exact ⟨rfl, hb⟩
  have d2 : decide (40 < n) = false := by simp; omega
  by_cases h3 : d < 0
  · clear h h1 h2
    go_enter Tryz.func6, Tryz.ntmps6
    go_wp2_with (go_at_call 10; (with_reducible refine hal.mono ?_); rintro e w2 ⟨rfl, hb⟩)
    go_ret
    exact ⟨rfl, hb⟩
  have d3 : decide (d < 0) = false := by simp; omega
  have h4 : 60 < d := by omega
  clear h h1 h2 h3
  go_enter Tryz.func6, Tryz.ntmps6
  go_wp2_with (go_at_call 10; (with_reducible refine hal.mono ?_); rintro e w2 ⟨rfl, hb⟩)
  go_ret
  exact ⟨rfl, hb⟩
set_option maxRecDepth 100000 in
set_option maxHeartbeats 4000000 in
theorem lawDeep_main (N : Nat) (d : Int) (w : World) (hLw : Nums.Lw w) (h1 : 1 ≤ N) (h2 : N ≤ 40) (h3 : 0 ≤ d) (h4 : d ≤ 60) : Calls Tryz.prog 6 #[.int .i64 N, .int .i64 d] w fun e w' => e = .returned (.bool true) ∧ Below w.heap.size w w' := by
  have hal := alive_any w hLw
  have d1 : decide ((N : Int) < 1) = false := by simp; omega
  have d2 : decide (40 < (N : Int)) = false := by simp; omega
  have d3 : decide (d < 0) = false := by simp; omega
  have d4 : decide (60 < d) = false := by simp; omega
  have d2' : decide (40 < N) = false := by simp; omega
  have hw1 : wrap64 ((N : Int) + 1) = (N : Int) + 1 := by unfold wrap64; omega
  obtain ⟨Xf, hXf⟩ : ∃ Xf : DoT → DoT, Xf = fun D => D := ⟨_, rfl⟩
  clear hXf
  obtain ⟨R, hR⟩ : ∃ R, doF Xf (fun _ => none) d.toNat 7 0 dpQ (dpA N d) = R := ⟨_, rfl⟩
  have hdp := dp_has Xf N d h1 h2 h3 h4
  rw [hR] at hdp
  have HR := Lib.hid hR
  have HLW := Lib.hid hLw
  have H1 := Lib.hid h1
  have H2 := Lib.hid h2
  have H3 := Lib.hid h3
  have H4 := Lib.hid h4
  have HDP := Lib.hid hdp
  clear hR hLw hdp h1 h2
  have hc : (N : Int) + 1 ≤ d ∨ ¬ (N : Int) + 1 ≤ d := by omega
  have HC := Lib.hid hc
  clear hc h3 h4
  go_enter Tryz.func6, Tryz.ntmps6
  go_wp2_with (first
    | (go_at_call 10; (with_reducible refine hal.mono ?_); rintro e w2 ⟨rfl, hb⟩; have mk := run_mkS N (by have := H2.out; omega) w2; obtain ⟨w3, hw3⟩ : ∃ w3, w2.alloc (.cells (mkS N) 37) = w3 := ⟨_, rfl⟩; rw [hw3] at mk; have b3 : Below w.heap.size w w3 := (by rw [← hw3]; exact hb.alloc hb.size _); have x3 : Blk w3 w2.heap.size (mkS N) 37 := (by rw [← hw3]; exact Blk.new _ _ _); have hpa : PlArg w3 (some ⟨w2.heap.size, 0, none⟩) (List.replicate N []) (fun _ => true) := (dp_arg N w3 w2.heap.size x3 H2.out); have hpl := plain_any (HLW.out.below b3) 1000 100 d (by omega) (some ⟨w2.heap.size, 0, none⟩) N (List.replicate N []) (fun _ => true) hpa (by rw [List.length_replicate]; have := H2.out; omega); rw [List.length_replicate] at hpl; have HB3 := Lib.hid b3; clear hb b3 x3 hpa hw3 hal)
    | (go_at_call 19; (with_reducible refine hpl.mono ?_); intro e w4 hq; obtain ⟨wb, M4, rfl, h4w⟩ := dp_post hq; have hdo := dp_do (N := N) Xf H3.out H4.out h4w; rw [HR.out] at hdo; have HF4 := Lib.hid (Fm.start h4w); clear h4w hq hpl)
    | (go_at_call 16; (with_reducible refine hdo.mono ?_); rintro e w5 ⟨M5, kv5, rfl, hks, hM, hn⟩; have hg5 := Rr.good _ hks; have F5 := (HF4.out.post hks hM hn).new (rcs (R.1.mem kv5)) 57; have hlf := left_any F5.wis; have HF5 := Lib.hid F5; clear hks hM hn F5 hdo)
    | (go_at_call 24; (with_reducible refine hlf.mono ?_); rintro e w6 ⟨rfl, hW6, hb6⟩; have F6 := HF5.out.call hb6; have q0 := (F6.l0.blk.cell 0).trans (rcs_0 _); have q4 := (F6.l0.blk.cell 4).trans (rcs_4 _); have HF6 := Lib.hid F6; clear hW6 hb6 F6 hlf; refine Hid.out ?_))
  refine Lib.hid ?_
  have hfin : Below w.heap.size w w6 := HB3.out.trans (HF6.out.wis.bel.mono HB3.out.size)
  have HFI := Lib.hid hfin
  clear hfin
  rcases HC.out with hc | hc
  · have e1 : (R.1.mem kv5).flow = 0 := by show R.1.flow = 0; rw [HDP.out.1, if_pos hc]; rfl
    have e2 : (R.1.mem kv5).ok = false := by show R.1.ok = false; rw [HDP.out.1, if_pos hc]; rfl
    have e3 : R.2.deepest = (N : Int) + 1 := by rw [HDP.out.2, if_pos hc]
    rw [e1] at q0
    rw [e2] at q4
    have hd : decide (d ≥ (N : Int) + 1) = true := by simp; omega
    have hd' : decide ((N : Int) + 1 ≤ d) = true := by simp; omega
    have E3 := e3
    clear e1 e2
    go_wp2
    go_ret
    exact ⟨rfl, HFI.out⟩
  · replace hc : ¬ (N : Int) + 1 ≤ d := by omega
    have e1 : (R.1.mem kv5).flow = 4 := by show R.1.flow = 4; rw [HDP.out.1, if_neg hc]; rfl
    have e3 : R.2.deepest = d := by rw [HDP.out.2, if_neg hc]
    rw [e1] at q0
    have hd : decide (d ≥ (N : Int) + 1) = false := by simp; omega
    have hd' : decide ((N : Int) + 1 ≤ d) = false := by simp; omega
    clear e1 hc
    go_wp2
    go_ret
    exact ⟨rfl, HFI.out⟩
theorem lawDeep_walk (n d : Int) (w : World) (hLw : Nums.Lw w) : Calls Tryz.prog 6 #[.int .i64 n, .int .i64 d] w fun e w' => e = .returned (.bool true) ∧ Below w.heap.size w w' := by
  by_cases h : n < 1 ∨ 40 < n ∨ d < 0 ∨ 60 < d
  · exact lawDeep_out n d w hLw h
  · obtain ⟨N, rfl⟩ := Int.eq_ofNat_of_zero_le (show 0 ≤ n by omega)
    exact lawDeep_main N d w hLw (by omega) (by omega) (by omega) (by omega)
end
end Go.Proofs.YtphaefkaeinngaaGreatDoor.Mw
