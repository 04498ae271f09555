/-
  The law MopRings: the walk.
-/
import Derived.Test.YtphaefkaeinngaaGreatDoorMy37
import Derived.Test.YtphaefkaeinngaaGreatDoorMy21
import Derived.Deep.LoopGhost
namespace Go.Proofs.YtphaefkaeinngaaGreatDoor.Mw
open Go Go.RowKit Go.Maps Go.Shelf Go.Proofs.YtphaefkaeinngaaGreatDoor.Keys Go.Proofs.YtphaefkaeinngaaGreatDoor.Hp Go.Proofs.YtphaefkaeinngaaGreatDoor.Mo
open Go.Proofs.YtphaefkaeinngaaGreatDoor.Des (Vl Ds zeroV zeroD dcs dcs_size dcs_one accF rigF appF eqV)
open Go.Proofs.YtphaefkaeinngaaGreatDoor.Arrs (En ecs)
set_option linter.unusedVariables false
set_option linter.unusedSimpArgs false
theorem pv_eq' (a : Option Nat) (j : Nat) : eqV (pv a) (objV j) = decide (a = some j) := by
  rw [← pv_eq]
  by_cases e : pv a = objV j
  · rw [e]
  · rw [Bool.eq_iff_iff]
    constructor
    · intro h; exact absurd (Des.eqV_iff.1 h) e
    · intro h; exact absurd (Des.eqV_iff.1 h).symm e
theorem t_pk {w : World} {b : Nat} {t : Th} {T : TypeId} (h : Blk w b (tcs t) T) : w.cell? ⟨b, 1, none⟩ = some (.int .i64 t.proto.k) := h.cell 1
theorem t_pn {w : World} {b : Nat} {t : Th} {T : TypeId} (h : Blk w b (tcs t) T) : w.cell? ⟨b, 2, none⟩ = some (.int .i64 t.proto.n) := h.cell 2
theorem rcs0 (r : Rp) : (rcs r)[0]? = some (.int .i64 r.flow) := rfl
theorem rcs4 (r : Rp) : (rcs r)[4]? = some (.bool r.ok) := rfl
theorem rw_start {W2 w3 w4 : World} {wb N c : Nat} {M M' : Wm} {ls : List Lc} (F : Fm ⟨W2, wb, .nilIface, false, 0, min (max 30 0) 1000⟩ (100000 + c) M w3 M' w4 (ringA N) ls [] []) : RgW W2 wb (List.replicate N none) 1000 w4 :=
  ⟨⟨M', ringA N, F.wis.less (by omega), rfl, rfl, rfl, rfl⟩, Ends.none N⟩
attribute [local go_sem ↓] ldR stR alR bxR bdR ldV stV alV bxV bdV ldA stA bxA bdA ldKy bxKy bdKy ldT stT alT bdT
attribute [local irreducible] rcs dcs ecs vcs acs kcs xcs tcs
attribute [local go_sem] run_bx run_alR run_stRg run_alT run_alV run_stVg run_bdTr run_bdAv run_bdN1 run_bdO6 run_bdV0
section
set_option maxRecDepth 100000 in
set_option maxHeartbeats 4000000 in
theorem lawRings_out (n : Int) (a : Option Addr) (len cap : Nat) (w : World) (hLw : Nums.Lw w) (h : n < 1 ∨ 12 < n ∨ 40 < len) : Calls Tryz.prog 8 #[.int .i64 n, .slice a len cap] w fun e w' => e = .returned (.bool true) ∧ Below w.heap.size w w' := by
  have hal := alive_any w hLw
  clear hLw
  by_cases h1 : n < 1
  · clear h
    go_enter Tryz.func8, Tryz.ntmps8
    go_wp2_with (go_at_call 10; (with_reducible refine hal.mono ?_); rintro e w2 ⟨rfl, hb⟩)
    go_ret
    exact ⟨rfl, hb⟩
  have d1 : decide (n < 1) = false := by simp; omega
  by_cases h2 : 12 < n
  · clear h h1
    go_enter Tryz.func8, Tryz.ntmps8
    go_wp2_with (go_at_call 10; (with_reducible refine hal.mono ?_); rintro e w2 ⟨rfl, hb⟩)
    go_ret
    exact ⟨rfl, hb⟩
  have d2 : decide (12 < n) = false := by simp; omega
  have d3 : decide (40 < len) = true := by simp; omega
  have d3' : decide ((40 : Int) < len) = true := by simp; omega
  clear h h1 h2
  go_enter Tryz.func8, Tryz.ntmps8
  go_wp2_with (go_at_call 10; (with_reducible refine hal.mono ?_); rintro e w2 ⟨rfl, hb⟩)
  go_ret
  exact ⟨rfl, hb⟩
set_option maxRecDepth 100000 in
set_option maxHeartbeats 4000000 in
theorem lawRings_main (N : Nat) (a : Option Addr) (len cap : Nat) (w : World) (hLw : Nums.Lw w) (h1 : 1 ≤ N) (h2 : N ≤ 12) (h3 : len ≤ 40) (hp : PairsAt w a len) : Calls Tryz.prog 8 #[.int .i64 N, .slice a len cap] w fun e w' => e = .returned (.bool true) ∧ Below w.heap.size w w' := by
  have hal := alive_any w hLw
  have d1 : decide ((N : Int) < 1) = false := by simp; omega
  have d2 : decide (12 < (N : Int)) = false := by simp; omega
  have d2' : decide (12 < N) = false := by simp; omega
  have d3 : decide (40 < len) = false := by simp; omega
  have d3' : decide ((40 : Int) < len) = false := by simp; omega
  obtain ⟨Xf, hXf⟩ : ∃ Xf : DoT → DoT, Xf = fun D => D := ⟨_, rfl⟩
  clear hXf
  have HLW := Lib.hid hLw
  have H1 := Lib.hid h1
  have H2 := Lib.hid h2
  have H3 := Lib.hid h3
  have HP := Lib.hid hp
  clear hLw h1 h2 h3 hp
  go_enter Tryz.func8, Tryz.ntmps8
  go_wp2_with (first
    | (go_at_call 10; (with_reducible refine hal.mono ?_); rintro e W2 ⟨rfl, hb⟩; have hnew := new_any W2 (HLW.out.below hb) 1000 60 30 (100000 + N) (by have := H2.out; omega) false (Below.refl _ W2); have HB2 := Lib.hid hb; clear hb hal)
    | (go_at_call 11; (with_reducible refine hnew.mono ?_); rintro e w3 ⟨wb, M, rfl, hW, -, -, -⟩; have s3 := run_stVg w3 w3.heap.size nullV zeroV rfl; have HF3 := Lib.hid ((Fm.start hW).new (vcs nullV) 30); clear hW hnew))
  go_loopg [8] N (fun g q wr => ∃ (j : Nat) (M' : Wm), j ≤ N ∧ g = N - j ∧ q = .int .i64 j ∧ Fm ⟨W2, wb, .nilIface, false, 0, min (max 30 0) 1000⟩ (100000 + (N - j)) M w3 M' wr (ringA j) [⟨w3.heap.size, vcs nullV, 30⟩] [] [])
  case atStart => exact ⟨0, M, by omega, rfl, rfl, HF3.out⟩
  case round =>
    rename World => wr
    obtain ⟨j, M', hj, rfl, rfl, hF⟩ := hrel
    by_cases hjl : j < N
    · obtain ⟨kc, hkc⟩ : ∃ kc, 100000 + (N - j) = kc + 1 ∧ kc = 100000 + (N - (j + 1)) := ⟨_, by omega, rfl⟩
      rw [hkc.1] at hF
      have G := hF.drew
      have c0 : wr.drew.cell? ⟨wb, 0, none⟩ = some (ptr M'.hb) := G.wis.wblk.cell 0
      have l7 := run_ldVp G.l0.blk
      have hmk := wMake G.wis (th := freshT 0 nullV) (es := []) (vs := []) ⟨⟨none, 0, rfl, fun j e he => by simp at he⟩, ⟨none, 0, rfl, .inl rfl⟩, (fun e he => by cases he), by decide, by decide⟩ (by simp) (by have h := G.wis.few; simp only [List.length_nil]; omega) (fun _ => by decide)
      have hmk2 : Calls Tryz.prog 14 #[ptr M'.hb, .agg (tcs (freshT 0 nullV))] wr.drew fun e w' => e = .returned (.tuple #[.int .i64 j, .bool true]) ∧ ∃ M5, WIs ⟨W2, wb, .nilIface, false, 0, min (max 30 0) 1000⟩ kc M5 w' (ringA (j + 1)) ∧ Nx (M'.bl wb) wr.drew (M5.bl wb) w' := by
        refine hmk.mono fun e w' hp => ?_
        unfold MakeP at hp
        rw [if_pos (by rw [ringA_len]; show (j : Int) < 60; have := H2.out; omega), ringA_len] at hp
        obtain ⟨e1, M5, -, hl⟩ := hp
        rw [show (⟨bare (freshT 0 nullV), [], []⟩ : Ob).th = bare (freshT 0 nullV) from rfl, show (⟨bare (freshT 0 nullV), [], []⟩ : Ob).es = [] from rfl, show (⟨bare (freshT 0 nullV), [], []⟩ : Ob).vs = [] from rfl, ringA_succ] at hl
        exact ⟨e1, M5, hl⟩
      clear hmk
      have hd1 : decide ((j : Int) < N) = true := by simp; omega
      have hd2 : decide (j < N) = true := by simp; omega
      have hwj : wrap64 ((j : Int) + 1) = (j : Int) + 1 := by have := H2.out; unfold wrap64; omega
      have HG := Lib.hid G
      have HKC := Lib.hid hkc.2
      clear hF G hkc
      go_wp2
      go_region_with (go_at_call 14; (with_reducible refine hmk2.mono ?_); rintro e w5 ⟨rfl, M5, hl5, hn5⟩; have HG5 := Lib.hid (HG.out.next (k2 := []) hl5 hn5 (fun k h => by cases h)); clear hl5 hn5 hmk2)
      all_goals go_wp2
      all_goals (
        go_roundg (N - (j + 1))
        case measure => omega
        case rel => exact ⟨j + 1, M5, by omega, rfl, by go_num, by rw [← HKC.out]; exact HG5.out⟩)
    · have hjl' : j = N := by omega
      subst hjl'
      have hd1 : decide ((j : Int) < j) = false := by simp
      have hd2 : decide (j < j) = false := by simp
      have HR0 := Lib.hid (rw_start hF)
      clear hF hjl hj
      obtain ⟨wq, hwq⟩ : ∃ u, u = wr := ⟨_, rfl⟩
      subst hwq
      go_wp2
      go_loopg [9] len (fun g q wx => ∃ (i : Nat) (ps : List (Option Nat)), i ≤ len ∧ g = len - i ∧ q = .int .i64 i ∧ ps.length = j ∧ RgW W2 wb ps (1000 - (i : Int)) wx)
      case atStart => exact ⟨0, _, by omega, rfl, rfl, by simp, HR0.out⟩
      case round =>
        rename World => wx
        obtain ⟨i, ps, hi, rfl, rfl, hpl, hR⟩ := hrel
        by_cases hil : i < len
        · have hd3 : decide ((i : Int) < len) = true := by simp; omega
          have hd4 : decide (i < len) = true := by simp; omega
          have HII := Lib.hid hil
          have HIL := Lib.hid (show i < 40 by have := H3.out; omega)
          have hwi : wrap64 ((i : Int) + 1) = (i : Int) + 1 := by have := H3.out; unfold wrap64; omega
          obtain ⟨gb, goff, x, y, ea, hgb, hx, hy⟩ := HP.out i hil
          subst ea
          have hbw := HB2.out.trans (hR.bel.mono HB2.out.size)
          have hx := (hbw.cell (p := ⟨gb, goff + i * 2, none⟩) hgb).trans hx
          have hy := (hbw.cell (p := ⟨gb, goff + i * 2 + 1, none⟩) hgb).trans hy
          obtain ⟨o, ho, ho1, ho2⟩ := rem_nat (x := x) (n := j) H1.out
          obtain ⟨p, hp, hp1, hp2⟩ := rem_nat (x := y) (n := j) H1.out
          obtain ⟨L, hL⟩ := hR.ends p (by omega)
          obtain ⟨q, hq⟩ : ∃ q, ps[o]? = some q := ⟨ps[o], List.getElem?_eq_getElem (by omega)⟩
          obtain ⟨hb, c0, hg⟩ := hR.get hq
          have HRr := Lib.hid hR
          have HQ := Lib.hid hq
          have HO := Lib.hid (show o < ps.length by omega)
          have HL := Lib.hid hL
          have HPL := Lib.hid hpl
          have HLn := Lib.hid hL.len
          have hjp : 0 < j := H1.out
          have hax := and1023 x
          have hay := and1023 y
          clear hR hq hL hbw hgb hpl hp ho
          go_wp2_with (go_at_call 17; (with_reducible refine hg.mono ?_); go_loud (rintro e w5 ⟨t5, rfl, hok5, hpr5, hb5⟩; have s5 := run_stT w5 t5 zeroT hok5; obtain ⟨w6, hw6⟩ : ∃ w6, w5.alloc (.cells (tcs t5) 39) = w6 := ⟨_, rfl⟩; rw [hw6] at s5; have hT12 : Blk w6 w5.heap.size (tcs t5) 39 := (by rw [← hw6]; exact Blk.new _ _ _); have hR6 := (HRr.out.call hb5).call ((Below.refl _ w5).alloc (Nat.le_refl _) (.cells (tcs t5) 39)); rw [hw6] at hR6; have HR6 := Lib.hid hR6; have T12 := Lib.hid hT12; have HP5 := Lib.hid hpr5; clear hb5 hT12 hR6 hw6 hok5 hpr5 hg hax hay ho1 ho2 hp1 hp2 hx hy hjp))
          go_loopg [14, 15, 16] L.length (fun g s14 s15 s16 wy => ∃ (l1 : List Nat) (at_ : Nat) (l2 : List Nat), L = l1 ++ l2 ∧ Chn ps at_ l2 ∧ g = L.length - l1.length ∧ s14 = .bool (decide (o ∈ l1)) ∧ s15 = .int .i64 at_ ∧ s16 = .int .i64 l1.length ∧ Below w6.heap.size w6 wy)
          case atStart => exact ⟨[], p, L, rfl, HL.out, by simp, by simp, rfl, rfl, Below.refl _ _⟩
          case round =>
            rename World => wy
            obtain ⟨l1, at_, l2, hLL, hc2, rfl, rfl, rfl, rfl, hbx⟩ := hrel
            have hne : 1 ≤ l2.length := by obtain ⟨r, hr⟩ := hc2.head; rw [hr]; simp
            have hlen2 : l1.length + l2.length = L.length := by rw [hLL]; simp
            have hkl : l1.length ≤ j := by have := HLn.out; have := HPL.out; omega
            have hd5 : decide ((l1.length : Int) ≤ j) = true := by simp; omega
            have hd6 : decide (l1.length ≤ j) = true := by simp; omega
            have R6x := HR6.out.call hbx
            have HLL := Lib.hid hLL
            have hnx : (ps[at_]? = some none ∧ l2 = [at_]) ∨ ∃ (jn : Nat) (l3 : List Nat), ps[at_]? = some (some jn) ∧ l2 = at_ :: l3 ∧ Chn ps jn l3 := by
              cases hc2 with
              | last _ h => exact .inl ⟨h, rfl⟩
              | next _ jn l3 h h' => exact .inr ⟨jn, l3, h, rfl, h'⟩
            have hwl : wrap64 ((l1.length : Int) + 1) = (l1.length : Int) + 1 := by have := H2.out; unfold wrap64; omega
            have HNE := Lib.hid hne
            have HL2 := Lib.hid hlen2
            clear hLL hc2 hne hlen2
            by_cases hr : o ∈ l1
            · have hd7 : decide (o ∈ l1) = true := by simp [hr]
              have HRI := Lib.hid hr
              clear hr
              rcases hnx with hnx | hnx
              · obtain ⟨hq, hl2⟩ := hnx
                obtain ⟨hb, c0, hg⟩ := R6x.get hq
                have HBx := Lib.hid hbx
                have HRx := Lib.hid R6x
                have HPR := Lib.hid (show True from trivial)
                clear hbx R6x
                go_wp2_with (go_at_call 17; (with_reducible refine hg.mono ?_); rintro e w7 ⟨t7, rfl, hok7, hpr7, hb7⟩; have s7 := run_stT w7 t7 zeroT hok7; have T7 := Blk.new w7 (tcs t7) 39; have k7 := t_pk T7; have n7 := t_pn T7; rw [hpr7] at k7 n7; have hB8 := hb7.trans ((Below.refl _ w7).alloc (Nat.le_refl _) (.cells (tcs t7) 39) |>.mono hb7.size); have HR8 := Lib.hid (HRx.out.call hB8); have HB8 := Lib.hid (HBx.out.trans (hB8.mono HBx.out.size)); have k7 : (w7.alloc (.cells (tcs t7) 39)).cell? ⟨w7.heap.size, 1, none⟩ = some (.int .i64 1) := k7; have PR12 := t_proto (T12.out.call HB8.out); rw [HP5.out] at PR12; have hput := HR8.out.put Xf HO.out HL.out (by have := HIL.out; omega); clear hb7 hB8 T7 hg; skip; refine Hid.out ?_)
                refine Lib.hid ?_
                have hin : decide (o ∈ L) = true := by rw [HLL.out, hl2]; simp [HRI.out]
                rw [hin] at hput
                by_cases hsm : q = some p
                · have eqv : ∀ w, (binOp .eql 30 (.agg (vcs (pv q))) (.agg (vcs (objV p)))).run Tryz.prog w = .ok (.bool true) w := fun w => by rw [eqV_at, pv_eq', show decide (q = some p) = true from by simp [hsm]]
                  have eqw : ∀ w, (binOp .eql 30 (.agg (vcs (pv q))) (.agg (vcs ⟨6, (p : Int), ⟨#[]⟩⟩))).run Tryz.prog w = .ok (.bool true) w := eqv
                  rw [HQ.out, show decide (some q = some (some p)) = true from by simp [hsm]] at hput
                  have HSM := Lib.hid hsm
                  clear hsm
                  go_wp2_with (go_at_call 16; (with_reducible refine hput.mono ?_); rintro e w9 ⟨r9, rfl, hg9, hf9, hk9, ps9, hl9, hR9⟩; have T9 := Blk.new w9 (rcs r9) 57; have f9 := (T9.cell 0).trans (rcs0 r9); have o9 := (T9.cell 4).trans (rcs4 r9); rw [hf9] at f9; rw [hk9] at o9; have HR9 := Lib.hid (hR9.call ((Below.refl _ w9).alloc (Nat.le_refl _) (.cells (rcs r9) 57))); have HL9 := Lib.hid hl9; clear T9 hR9 hl9 hput)
                  go_roundg (len - (i + 1))
                  case measure => have := HII.out; omega
                  case rel =>
                    exact ⟨i + 1, ps9, by have := HII.out; omega, rfl, by go_num, HL9.out.trans HPL.out, by have e : (1000 : Int) - (i : Int) - 1 = 1000 - ((i + 1 : Nat) : Int) := (by omega); rw [← e]; exact HR9.out⟩
                · have eqv : ∀ w, (binOp .eql 30 (.agg (vcs (pv q))) (.agg (vcs (objV p)))).run Tryz.prog w = .ok (.bool false) w := fun w => by rw [eqV_at, pv_eq', show decide (q = some p) = false from by simp [hsm]]
                  have eqw : ∀ w, (binOp .eql 30 (.agg (vcs (pv q))) (.agg (vcs ⟨6, (p : Int), ⟨#[]⟩⟩))).run Tryz.prog w = .ok (.bool false) w := eqv
                  rw [HQ.out, show decide (some q = some (some p)) = false from by simp [hsm]] at hput
                  have HSM := Lib.hid hsm
                  clear hsm
                  go_wp2_with (go_at_call 16; (with_reducible refine hput.mono ?_); rintro e w9 ⟨r9, rfl, hg9, hf9, hk9, ps9, hl9, hR9⟩; have T9 := Blk.new w9 (rcs r9) 57; have f9 := (T9.cell 0).trans (rcs0 r9); have o9 := (T9.cell 4).trans (rcs4 r9); rw [hf9] at f9; rw [hk9] at o9; have HR9 := Lib.hid (hR9.call ((Below.refl _ w9).alloc (Nat.le_refl _) (.cells (rcs r9) 57))); have HL9 := Lib.hid hl9; clear T9 hR9 hl9 hput)
                  go_roundg (len - (i + 1))
                  case measure => have := HII.out; omega
                  case rel =>
                    exact ⟨i + 1, ps9, by have := HII.out; omega, rfl, by go_num, HL9.out.trans HPL.out, by have e : (1000 : Int) - (i : Int) - 1 = 1000 - ((i + 1 : Nat) : Int) := (by omega); rw [← e]; exact HR9.out⟩
              · obtain ⟨jn, l3, hq, hl2, hch⟩ := hnx
                obtain ⟨hb, c0, hg⟩ := R6x.get hq
                have HBx := Lib.hid hbx
                have HRx := Lib.hid R6x
                have HPR := Lib.hid (show True from trivial)
                clear hbx R6x
                go_wp2_with (go_at_call 17; (with_reducible refine hg.mono ?_); rintro e w7 ⟨t7, rfl, hok7, hpr7, hb7⟩; have s7 := run_stT w7 t7 zeroT hok7; have T7 := Blk.new w7 (tcs t7) 39; have k7 := t_pk T7; have n7 := t_pn T7; rw [hpr7] at k7 n7; have hB8 := hb7.trans ((Below.refl _ w7).alloc (Nat.le_refl _) (.cells (tcs t7) 39) |>.mono hb7.size); have HR8 := Lib.hid (HRx.out.call hB8); have HB8 := Lib.hid (HBx.out.trans (hB8.mono HBx.out.size)); have k7 : (w7.alloc (.cells (tcs t7) 39)).cell? ⟨w7.heap.size, 1, none⟩ = some (.int .i64 6) := k7; have n7 : (w7.alloc (.cells (tcs t7) 39)).cell? ⟨w7.heap.size, 2, none⟩ = some (.int .i64 jn) := n7; clear hb7 hB8 T7 hg; skip)
                go_roundg (L.length - (l1.length + 1))
                case measure => have := HNE.out; have := HL2.out; omega
                case rel =>
                  refine ⟨l1 ++ [at_], jn, l3, by rw [HLL.out, hl2]; simp, hch, by simp, ?_, rfl, by simp [hwl], HB8.out⟩
                  congr 1; simp [HRI.out]
            · have hd7 : decide (o ∈ l1) = false := by simp [hr]
              have HRI := Lib.hid hr
              clear hr
              by_cases he : at_ = o
              · have he1 : ((at_ : Int) == (o : Int)) = true := by simp [he]
                have he2 : (at_ == o) = true := by simp [he]
                have HEQ := Lib.hid he
                clear he
                rcases hnx with hnx | hnx
                · obtain ⟨hq, hl2⟩ := hnx
                  obtain ⟨hb, c0, hg⟩ := R6x.get hq
                  have HBx := Lib.hid hbx
                  have HRx := Lib.hid R6x
                  have HPR := Lib.hid (show True from trivial)
                  clear hbx R6x
                  go_wp2_with (go_at_call 17; (with_reducible refine hg.mono ?_); rintro e w7 ⟨t7, rfl, hok7, hpr7, hb7⟩; have s7 := run_stT w7 t7 zeroT hok7; have T7 := Blk.new w7 (tcs t7) 39; have k7 := t_pk T7; have n7 := t_pn T7; rw [hpr7] at k7 n7; have hB8 := hb7.trans ((Below.refl _ w7).alloc (Nat.le_refl _) (.cells (tcs t7) 39) |>.mono hb7.size); have HR8 := Lib.hid (HRx.out.call hB8); have HB8 := Lib.hid (HBx.out.trans (hB8.mono HBx.out.size)); have k7 : (w7.alloc (.cells (tcs t7) 39)).cell? ⟨w7.heap.size, 1, none⟩ = some (.int .i64 1) := k7; have PR12 := t_proto (T12.out.call HB8.out); rw [HP5.out] at PR12; have hput := HR8.out.put Xf HO.out HL.out (by have := HIL.out; omega); clear hb7 hB8 T7 hg; skip; refine Hid.out ?_)
                  refine Lib.hid ?_
                  have hin : decide (o ∈ L) = true := by rw [HLL.out, hl2]; simp [HEQ.out]
                  rw [hin] at hput
                  by_cases hsm : q = some p
                  · have eqv : ∀ w, (binOp .eql 30 (.agg (vcs (pv q))) (.agg (vcs (objV p)))).run Tryz.prog w = .ok (.bool true) w := fun w => by rw [eqV_at, pv_eq', show decide (q = some p) = true from by simp [hsm]]
                    have eqw : ∀ w, (binOp .eql 30 (.agg (vcs (pv q))) (.agg (vcs ⟨6, (p : Int), ⟨#[]⟩⟩))).run Tryz.prog w = .ok (.bool true) w := eqv
                    rw [HQ.out, show decide (some q = some (some p)) = true from by simp [hsm]] at hput
                    have HSM := Lib.hid hsm
                    clear hsm
                    go_wp2_with (go_at_call 16; (with_reducible refine hput.mono ?_); rintro e w9 ⟨r9, rfl, hg9, hf9, hk9, ps9, hl9, hR9⟩; have T9 := Blk.new w9 (rcs r9) 57; have f9 := (T9.cell 0).trans (rcs0 r9); have o9 := (T9.cell 4).trans (rcs4 r9); rw [hf9] at f9; rw [hk9] at o9; have HR9 := Lib.hid (hR9.call ((Below.refl _ w9).alloc (Nat.le_refl _) (.cells (rcs r9) 57))); have HL9 := Lib.hid hl9; clear T9 hR9 hl9 hput)
                    go_roundg (len - (i + 1))
                    case measure => have := HII.out; omega
                    case rel =>
                      exact ⟨i + 1, ps9, by have := HII.out; omega, rfl, by go_num, HL9.out.trans HPL.out, by have e : (1000 : Int) - (i : Int) - 1 = 1000 - ((i + 1 : Nat) : Int) := (by omega); rw [← e]; exact HR9.out⟩
                  · have eqv : ∀ w, (binOp .eql 30 (.agg (vcs (pv q))) (.agg (vcs (objV p)))).run Tryz.prog w = .ok (.bool false) w := fun w => by rw [eqV_at, pv_eq', show decide (q = some p) = false from by simp [hsm]]
                    have eqw : ∀ w, (binOp .eql 30 (.agg (vcs (pv q))) (.agg (vcs ⟨6, (p : Int), ⟨#[]⟩⟩))).run Tryz.prog w = .ok (.bool false) w := eqv
                    rw [HQ.out, show decide (some q = some (some p)) = false from by simp [hsm]] at hput
                    have HSM := Lib.hid hsm
                    clear hsm
                    go_wp2_with (go_at_call 16; (with_reducible refine hput.mono ?_); rintro e w9 ⟨r9, rfl, hg9, hf9, hk9, ps9, hl9, hR9⟩; have T9 := Blk.new w9 (rcs r9) 57; have f9 := (T9.cell 0).trans (rcs0 r9); have o9 := (T9.cell 4).trans (rcs4 r9); rw [hf9] at f9; rw [hk9] at o9; have HR9 := Lib.hid (hR9.call ((Below.refl _ w9).alloc (Nat.le_refl _) (.cells (rcs r9) 57))); have HL9 := Lib.hid hl9; clear T9 hR9 hl9 hput)
                    go_roundg (len - (i + 1))
                    case measure => have := HII.out; omega
                    case rel =>
                      exact ⟨i + 1, ps9, by have := HII.out; omega, rfl, by go_num, HL9.out.trans HPL.out, by have e : (1000 : Int) - (i : Int) - 1 = 1000 - ((i + 1 : Nat) : Int) := (by omega); rw [← e]; exact HR9.out⟩
                · obtain ⟨jn, l3, hq, hl2, hch⟩ := hnx
                  obtain ⟨hb, c0, hg⟩ := R6x.get hq
                  have HBx := Lib.hid hbx
                  have HRx := Lib.hid R6x
                  have HPR := Lib.hid (show True from trivial)
                  clear hbx R6x
                  go_wp2_with (go_at_call 17; (with_reducible refine hg.mono ?_); rintro e w7 ⟨t7, rfl, hok7, hpr7, hb7⟩; have s7 := run_stT w7 t7 zeroT hok7; have T7 := Blk.new w7 (tcs t7) 39; have k7 := t_pk T7; have n7 := t_pn T7; rw [hpr7] at k7 n7; have hB8 := hb7.trans ((Below.refl _ w7).alloc (Nat.le_refl _) (.cells (tcs t7) 39) |>.mono hb7.size); have HR8 := Lib.hid (HRx.out.call hB8); have HB8 := Lib.hid (HBx.out.trans (hB8.mono HBx.out.size)); have k7 : (w7.alloc (.cells (tcs t7) 39)).cell? ⟨w7.heap.size, 1, none⟩ = some (.int .i64 6) := k7; have n7 : (w7.alloc (.cells (tcs t7) 39)).cell? ⟨w7.heap.size, 2, none⟩ = some (.int .i64 jn) := n7; clear hb7 hB8 T7 hg; skip)
                  go_roundg (L.length - (l1.length + 1))
                  case measure => have := HNE.out; have := HL2.out; omega
                  case rel =>
                    refine ⟨l1 ++ [at_], jn, l3, by rw [HLL.out, hl2]; simp, hch, by simp, ?_, rfl, by simp [hwl], HB8.out⟩
                    congr 1; simp [HEQ.out]
              · have he1 : ((at_ : Int) == (o : Int)) = false := by simp; omega
                have he2 : (at_ == o) = false := by simp [he]
                have HEQ := Lib.hid he
                clear he
                rcases hnx with hnx | hnx
                · obtain ⟨hq, hl2⟩ := hnx
                  obtain ⟨hb, c0, hg⟩ := R6x.get hq
                  have HBx := Lib.hid hbx
                  have HRx := Lib.hid R6x
                  have HPR := Lib.hid (show True from trivial)
                  clear hbx R6x
                  go_wp2_with (go_at_call 17; (with_reducible refine hg.mono ?_); rintro e w7 ⟨t7, rfl, hok7, hpr7, hb7⟩; have s7 := run_stT w7 t7 zeroT hok7; have T7 := Blk.new w7 (tcs t7) 39; have k7 := t_pk T7; have n7 := t_pn T7; rw [hpr7] at k7 n7; have hB8 := hb7.trans ((Below.refl _ w7).alloc (Nat.le_refl _) (.cells (tcs t7) 39) |>.mono hb7.size); have HR8 := Lib.hid (HRx.out.call hB8); have HB8 := Lib.hid (HBx.out.trans (hB8.mono HBx.out.size)); have k7 : (w7.alloc (.cells (tcs t7) 39)).cell? ⟨w7.heap.size, 1, none⟩ = some (.int .i64 1) := k7; have PR12 := t_proto (T12.out.call HB8.out); rw [HP5.out] at PR12; have hput := HR8.out.put Xf HO.out HL.out (by have := HIL.out; omega); clear hb7 hB8 T7 hg; skip; refine Hid.out ?_)
                  refine Lib.hid ?_
                  have hin : decide (o ∈ L) = false := by rw [HLL.out, hl2]; simp [HRI.out]; exact fun e => HEQ.out e.symm
                  rw [hin] at hput
                  by_cases hsm : q = some p
                  · have eqv : ∀ w, (binOp .eql 30 (.agg (vcs (pv q))) (.agg (vcs (objV p)))).run Tryz.prog w = .ok (.bool true) w := fun w => by rw [eqV_at, pv_eq', show decide (q = some p) = true from by simp [hsm]]
                    have eqw : ∀ w, (binOp .eql 30 (.agg (vcs (pv q))) (.agg (vcs ⟨6, (p : Int), ⟨#[]⟩⟩))).run Tryz.prog w = .ok (.bool true) w := eqv
                    rw [HQ.out, show decide (some q = some (some p)) = true from by simp [hsm]] at hput
                    have HSM := Lib.hid hsm
                    clear hsm
                    go_wp2_with (go_at_call 16; (with_reducible refine hput.mono ?_); rintro e w9 ⟨r9, rfl, hg9, hf9, hk9, ps9, hl9, hR9⟩; have T9 := Blk.new w9 (rcs r9) 57; have f9 := (T9.cell 0).trans (rcs0 r9); have o9 := (T9.cell 4).trans (rcs4 r9); rw [hf9] at f9; rw [hk9] at o9; have HR9 := Lib.hid (hR9.call ((Below.refl _ w9).alloc (Nat.le_refl _) (.cells (rcs r9) 57))); have HL9 := Lib.hid hl9; clear T9 hR9 hl9 hput)
                    go_roundg (len - (i + 1))
                    case measure => have := HII.out; omega
                    case rel =>
                      exact ⟨i + 1, ps9, by have := HII.out; omega, rfl, by go_num, HL9.out.trans HPL.out, by have e : (1000 : Int) - (i : Int) - 1 = 1000 - ((i + 1 : Nat) : Int) := (by omega); rw [← e]; exact HR9.out⟩
                  · have eqv : ∀ w, (binOp .eql 30 (.agg (vcs (pv q))) (.agg (vcs (objV p)))).run Tryz.prog w = .ok (.bool false) w := fun w => by rw [eqV_at, pv_eq', show decide (q = some p) = false from by simp [hsm]]
                    have eqw : ∀ w, (binOp .eql 30 (.agg (vcs (pv q))) (.agg (vcs ⟨6, (p : Int), ⟨#[]⟩⟩))).run Tryz.prog w = .ok (.bool false) w := eqv
                    rw [HQ.out, show decide (some q = some (some p)) = false from by simp [hsm]] at hput
                    have HSM := Lib.hid hsm
                    clear hsm
                    go_wp2_with (go_at_call 16; (with_reducible refine hput.mono ?_); rintro e w9 ⟨r9, rfl, hg9, hf9, hk9, ps9, hl9, hR9⟩; have T9 := Blk.new w9 (rcs r9) 57; have f9 := (T9.cell 0).trans (rcs0 r9); have o9 := (T9.cell 4).trans (rcs4 r9); rw [hf9] at f9; rw [hk9] at o9; have HR9 := Lib.hid (hR9.call ((Below.refl _ w9).alloc (Nat.le_refl _) (.cells (rcs r9) 57))); have HL9 := Lib.hid hl9; clear T9 hR9 hl9 hput)
                    go_roundg (len - (i + 1))
                    case measure => have := HII.out; omega
                    case rel =>
                      exact ⟨i + 1, ps9, by have := HII.out; omega, rfl, by go_num, HL9.out.trans HPL.out, by have e : (1000 : Int) - (i : Int) - 1 = 1000 - ((i + 1 : Nat) : Int) := (by omega); rw [← e]; exact HR9.out⟩
                · obtain ⟨jn, l3, hq, hl2, hch⟩ := hnx
                  obtain ⟨hb, c0, hg⟩ := R6x.get hq
                  have HBx := Lib.hid hbx
                  have HRx := Lib.hid R6x
                  have HPR := Lib.hid (show True from trivial)
                  clear hbx R6x
                  go_wp2_with (go_at_call 17; (with_reducible refine hg.mono ?_); rintro e w7 ⟨t7, rfl, hok7, hpr7, hb7⟩; have s7 := run_stT w7 t7 zeroT hok7; have T7 := Blk.new w7 (tcs t7) 39; have k7 := t_pk T7; have n7 := t_pn T7; rw [hpr7] at k7 n7; have hB8 := hb7.trans ((Below.refl _ w7).alloc (Nat.le_refl _) (.cells (tcs t7) 39) |>.mono hb7.size); have HR8 := Lib.hid (HRx.out.call hB8); have HB8 := Lib.hid (HBx.out.trans (hB8.mono HBx.out.size)); have k7 : (w7.alloc (.cells (tcs t7) 39)).cell? ⟨w7.heap.size, 1, none⟩ = some (.int .i64 6) := k7; have n7 : (w7.alloc (.cells (tcs t7) 39)).cell? ⟨w7.heap.size, 2, none⟩ = some (.int .i64 jn) := n7; clear hb7 hB8 T7 hg; skip)
                  go_roundg (L.length - (l1.length + 1))
                  case measure => have := HNE.out; have := HL2.out; omega
                  case rel =>
                    refine ⟨l1 ++ [at_], jn, l3, by rw [HLL.out, hl2]; simp, hch, by simp, ?_, rfl, by simp [hwl], HB8.out⟩
                    congr 1; simp [HRI.out]; exact fun e => HEQ.out e.symm
        · have hil' : i = len := by omega
          subst hil'
          have hd3 : decide ((i : Int) < i) = false := by simp
          have hd4 : decide (i < i) = false := by simp
          have HRe := Lib.hid hR
          have HPL := Lib.hid hpl
          clear hR hil hi hpl
          obtain ⟨wz, hwz⟩ : ∃ u, u = wx := ⟨_, rfl⟩
          subst hwz
          go_wp2
          go_loopg [21] j (fun g q wv => ∃ i' : Nat, i' ≤ j ∧ g = j - i' ∧ q = .int .i64 i' ∧ Below wz.heap.size wz wv)
          case atStart => exact ⟨0, by omega, rfl, rfl, Below.refl _ _⟩
          case round =>
            rename World => wv
            obtain ⟨i', hi', rfl, rfl, hbv⟩ := hrel
            by_cases hil : i' < j
            · have hd3 : decide ((i' : Int) < j) = true := by simp; omega
              have hd4 : decide (i' < j) = true := by simp; omega
              have hwi : wrap64 ((i' : Int) + 1) = (i' : Int) + 1 := by have := H2.out; unfold wrap64; omega
              obtain ⟨L, hL⟩ := HRe.out.ends i' (by have := HPL.out; omega)
              have HII := Lib.hid hil
              have HL := Lib.hid hL
              have HLn := Lib.hid hL.len
              have HBv := Lib.hid hbv
              clear hL hbv
              go_wp2
              go_loopg [22, 23] L.length (fun g s22 s23 wu => ∃ (l1 : List Nat) (at_ : Nat) (l2 : List Nat), L = l1 ++ l2 ∧ Chn ps at_ l2 ∧ g = L.length - l1.length ∧ s22 = .int .i64 at_ ∧ s23 = .int .i64 l1.length ∧ Below wz.heap.size wz wu)
              case atStart => exact ⟨[], i', L, rfl, HL.out, by simp, rfl, rfl, HBv.out⟩
              case round =>
              rename World => wu
              obtain ⟨l1, at_, l2, hLL, hc2, rfl, rfl, rfl, hbx⟩ := hrel
              have hne : 1 ≤ l2.length := by obtain ⟨r, hr⟩ := hc2.head; rw [hr]; simp
              have hlen2 : l1.length + l2.length = L.length := by rw [hLL]; simp
              have hkl : l1.length < j := by have := HLn.out; have := HPL.out; omega
              have hd5 : decide ((l1.length : Int) ≤ j) = true := by simp; omega
              have hd6 : decide (l1.length ≤ j) = true := by simp; omega
              have hd7 : ((l1.length : Int) == (j : Int)) = false := by simp; omega
              have hd8 : (l1.length == j) = false := by simp; omega
              have R6x := HRe.out.call hbx
              have HLL := Lib.hid hLL
              have hnx : (ps[at_]? = some none ∧ l2 = [at_]) ∨ ∃ (jn : Nat) (l3 : List Nat), ps[at_]? = some (some jn) ∧ l2 = at_ :: l3 ∧ Chn ps jn l3 := by
                cases hc2 with
                | last _ h => exact .inl ⟨h, rfl⟩
                | next _ jn l3 h h' => exact .inr ⟨jn, l3, h, rfl, h'⟩
              have hwl : wrap64 ((l1.length : Int) + 1) = (l1.length : Int) + 1 := by have := H2.out; unfold wrap64; omega
              have HNE := Lib.hid hne
              have HL2 := Lib.hid hlen2
              clear hLL hc2 hne hlen2
              rcases hnx with hnx | hnx
              · obtain ⟨hq, hl2⟩ := hnx
                obtain ⟨hb, c0, hg⟩ := R6x.get hq
                have HBx := Lib.hid hbx
                have HRx := Lib.hid R6x
                clear hbx R6x
                go_wp2_with (go_at_call 17; (with_reducible refine hg.mono ?_); rintro e w7 ⟨t7, rfl, hok7, hpr7, hb7⟩; have s7 := run_stT w7 t7 zeroT hok7; have T7 := Blk.new w7 (tcs t7) 39; have k7 := t_pk T7; have n7 := t_pn T7; rw [hpr7] at k7 n7; have hB8 := hb7.trans ((Below.refl _ w7).alloc (Nat.le_refl _) (.cells (tcs t7) 39) |>.mono hb7.size); have HB8 := Lib.hid (HBx.out.trans (hB8.mono HBx.out.size)); have k7 : (w7.alloc (.cells (tcs t7) 39)).cell? ⟨w7.heap.size, 1, none⟩ = some (.int .i64 1) := k7; clear hb7 hB8 T7 hg)
                go_roundg (j - (i' + 1))
                case measure => have := HII.out; omega
                case rel => exact ⟨i' + 1, by have := HII.out; omega, rfl, by go_num, HB8.out⟩
              · obtain ⟨jn, l3, hq, hl2, hch⟩ := hnx
                obtain ⟨hb, c0, hg⟩ := R6x.get hq
                have HBx := Lib.hid hbx
                have HRx := Lib.hid R6x
                clear hbx R6x
                go_wp2_with (go_at_call 17; (with_reducible refine hg.mono ?_); rintro e w7 ⟨t7, rfl, hok7, hpr7, hb7⟩; have s7 := run_stT w7 t7 zeroT hok7; have T7 := Blk.new w7 (tcs t7) 39; have k7 := t_pk T7; have n7 := t_pn T7; rw [hpr7] at k7 n7; have hB8 := hb7.trans ((Below.refl _ w7).alloc (Nat.le_refl _) (.cells (tcs t7) 39) |>.mono hb7.size); have HB8 := Lib.hid (HBx.out.trans (hB8.mono HBx.out.size)); have k7 : (w7.alloc (.cells (tcs t7) 39)).cell? ⟨w7.heap.size, 1, none⟩ = some (.int .i64 6) := k7; have n7 : (w7.alloc (.cells (tcs t7) 39)).cell? ⟨w7.heap.size, 2, none⟩ = some (.int .i64 jn) := n7; clear hb7 hB8 T7 hg)
                go_roundg (L.length - (l1.length + 1))
                case measure => have := HNE.out; have := HL2.out; omega
                case rel => exact ⟨l1 ++ [at_], jn, l3, by rw [HLL.out, hl2]; simp, hch, by simp, rfl, by simp [hwl], HB8.out⟩
            · have hil' : i' = j := by omega
              subst hil'
              have hd3 : decide ((i' : Int) < i') = false := by simp
              have hd4 : decide (i' < i') = false := by simp
              have HBv := Lib.hid (HB2.out.trans (((HRe.out.bel).trans (hbv.mono HRe.out.bel.size)).mono HB2.out.size))
              clear hbv hil hi'
              go_wp2
              go_ret
              exact ⟨rfl, HBv.out⟩
theorem lawRings_walk (n : Int) (a : Option Addr) (len cap : Nat) (w : World) (hLw : Nums.Lw w) (hp : PairsAt w a len) : Calls Tryz.prog 8 #[.int .i64 n, .slice a len cap] w fun e w' => e = .returned (.bool true) ∧ Below w.heap.size w w' := by
  by_cases h : n < 1 ∨ 12 < n ∨ 40 < len
  · exact lawRings_out n a len cap w hLw h
  · obtain ⟨N, rfl⟩ := Int.eq_ofNat_of_zero_le (show 0 ≤ n by omega)
    exact lawRings_main N a len cap w hLw (by omega) (by omega) (by omega) hp
end
end Go.Proofs.YtphaefkaeinngaaGreatDoor.Mw
