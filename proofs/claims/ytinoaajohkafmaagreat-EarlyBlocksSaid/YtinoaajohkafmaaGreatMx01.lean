/-
  Texts of this seat in build order: EyLawB, EyLawC, EyOpI.
-/
import Derived.Test.YtinoaajohkafmaaGreatMx00
import Derived.Deep.RegionWith
import Derived.Test.YtinoaajohkafmaaGreatRows
import Derived.ProofKit
import Derived.OpenShut
import Derived.ChangeArms
import Derived.DataReads
/-
  EarlyBlocks: the walk.
-/
namespace Go.Proofs.YtinoaajohkafmaaGreat.Ey
open Go Go.RowKit Go.Maps Go.Proofs.YtinoaajohkafmaaGreat.Pa Go.Proofs.YtinoaajohkafmaaGreat.Pr
open Go.Proofs.YtinoaajohkafmaaGreat.Lx
open Go.Proofs.YtinoaajohkafmaaGreat.Uni (B)
set_option linter.unusedVariables false
set_option linter.unusedSimpArgs false
attribute [local go_sem ↓] ldK stK alK bdK bsK ldN stN alN bdN bsN
attribute [local irreducible] kcs ncs ncells SF SD TD lt1 ck
attribute [local go_sem] run_alN run_stNg run_ldNg run_bdN0
def Row (w : World) (a : Option Addr) (zs : List Int) : Prop := ∀ j z, zs[j]? = some z → ∃ b o, a = some ⟨b, o, none⟩ ∧ b < w.heap.size ∧ w.cell? ⟨b, o + j, none⟩ = some (.int .i64 z)
def kI (zs : List Int) : List Int := zs.map (· % 4)
structure OI (zs : List Int) (wB wr : World) (i : Nat) (v : Value) : Prop where
  own : It wB.heap.size wr v (kI (zs.take i))
  bel : Below wB.heap.size wB wr
theorem and3 (z : Int) : bits .and .i64 z 3 = z % 4 := by
  have e1 : ((BitVec.ofInt 64 z) &&& (BitVec.ofInt 64 3)).toNat = (z % 18446744073709551616).toNat % 4 := by
    rw [BitVec.toNat_and, BitVec.toNat_ofInt, BitVec.toNat_ofInt]
    have := Nat.and_two_pow_sub_one_eq_mod (z % 18446744073709551616).toNat 2
    exact this
  have e : bits .and .i64 z 3 = IntKind.i64.wrap (((BitVec.ofInt 64 z) &&& (BitVec.ofInt 64 3)).toNat : Int) := rfl
  rw [e, e1, IntKind.wrap_i64]
  omega
theorem kI_at {zs : List Int} {i j : Nat} {y : Int} (hj : j < i) (h : zs[j]? = some y) : (kI (zs.take i))[j]? = some (y % 4) := by
  unfold kI
  rw [List.getElem?_map, List.getElem?_take, if_pos hj, h]
  rfl
theorem lsI_at {zs : List Int} {i j : Nat} {y : Int} (hj : j < i) (h : zs[j]? = some y) : (lsI (zs.take i))[j]? = some (lt1 (ck y)) := by
  unfold lsI
  rw [List.getElem?_map, List.getElem?_take, if_pos hj, h]
  rfl
theorem ck_lit {z : Int} {k : Int} (h : z % 4 = k) : ck z = UInt8.ofNat (97 + k.toNat) := by unfold ck; rw [h]
set_option maxRecDepth 100000 in
set_option maxHeartbeats 8000000 in
theorem blocks_flat {a : Option Addr} {cap : Nat} {zs : List Int} {w : World} (hr : Row w a zs) (hl : zs.length ≤ 8) (hcap : cap ≤ 9223372036854775807) : Calls Tryz.prog 6 #[.slice a zs.length cap, .bool false] w (PostR w (.bool true)) := by
  have hal := alive_any w
  obtain ⟨n, hn⟩ : ∃ n, zs.length = n := ⟨_, rfl⟩
  rw [hn]
  have HN := Lib.hid hn
  have HR := Lib.hid hr
  have hn8 : decide ((8 : Int) < n) = false := by simp; omega
  have HL := Lib.hid hl
  clear hr hl hn
  go_enter Tryz.func6, Tryz.ntmps6
  go_wp2_with (go_at_call 7; (with_reducible refine hal.mono ?_); rintro e w1 ⟨rfl, hb1⟩; have HB1 := Lib.hid hb1; clear hb1)
  go_loopw [6, 7, 8, 9, 10] (fun v tw s tl iv wr => ∃ i : Nat, i ≤ n ∧ iv = .int .i64 (i : Int) ∧ OI zs w1 wr i v ∧ tw = .bool (dupF [] (lsI (zs.take i))) ∧ s = .string (SF (zs.take i)) ∧ tl = .string ⟨#[]⟩) (fun _ _ _ _ iv _ => n - (intOf iv).toNat)
  case atStart =>
    exact ⟨0, Nat.zero_le _, rfl, ⟨World.ownsRow_nil _ _ _ _, Below.refl _ _⟩, rfl, by kernel_rfl, rfl⟩
  case round =>
    obtain ⟨i, hi, rfl, hI, rfl, rfl, rfl⟩ := hrel
    by_cases hlt : i < n
    · obtain ⟨z, hz⟩ : ∃ z, zs[i]? = some z := ⟨zs[i]'(by have := HN.out; omega), List.getElem?_eq_getElem _⟩
      obtain ⟨b, o, ha, hbl, hc⟩ := HR.out i z hz
      subst ha
      have hc1 := kept_cell (kept_below (HB1.out.trans (hI.bel.mono HB1.out.size))) hbl hc
      have t1 : (i : Int) < n := by omega
      have t2 : decide ((n : Int) ≤ i) = false := by simp; omega
      obtain ⟨av, ac, rfl⟩ := hI.own.shape
      have hkl : (kI (zs.take i)).length = i := by unfold kI; have := HN.out; simp; omega
      rw [hkl]
      have HI := Lib.hid hI
      have HZ := Lib.hid hz
      have HLT := Lib.hid hlt
      obtain ⟨L, hL⟩ : ∃ L, lsI (zs.take i) = L := ⟨_, rfl⟩
      rw [hL]
      have HLL := Lib.hid hL
      obtain ⟨tw, htw⟩ : ∃ tw, dupF [] L = tw := ⟨_, rfl⟩
      rw [htw]
      have HTW := Lib.hid htw
      obtain ⟨K, hK⟩ : ∃ K, z % 4 = K := ⟨_, rfl⟩
      have hk : bits BinOp.and IntKind.i64 z 3 = K := by rw [and3, hK]
      have HK := Lib.hid hK
      obtain ⟨x, hx⟩ : ∃ x, lt1 (ck z) = x := ⟨_, rfl⟩
      have HX := Lib.hid hx
      have HKL := Lib.hid hkl
      obtain ⟨wq, hwq⟩ : ∃ u, u = wr := ⟨_, rfl⟩
      subst hwq
      clear hI hz hc hbl hkl hL htw hi hK hx
      go_wp2
      go_loopw [7, 12] (fun tv jv wj => ∃ j : Nat, j ≤ i ∧ jv = .int .i64 (j : Int) ∧ tv = .bool (tw || hasB (L.take j) x) ∧ wj = wq) (fun _ jv _ => i - (intOf jv).toNat)
      case atStart => exact ⟨0, Nat.zero_le _, rfl, by simp [hasB], rfl⟩
      case round =>
        obtain ⟨j, hj, rfl, rfl, hwj⟩ := hrel
        subst hwj
        by_cases hlj : j < i
        · obtain ⟨y, hy⟩ : ∃ y, zs[j]? = some y := ⟨zs[j]'(by have := HN.out; have := HLT.out; omega), List.getElem?_eq_getElem _⟩
          obtain ⟨g, c, e, hc⟩ := HI.out.own.at (kI_at hlj hy)
          rw [HKL.out] at e
          simp only [Value.slice.injEq] at e
          obtain ⟨rfl, -, rfl⟩ := e
          have hst := hasB_take (l := L) (x := lt1 (ck y)) (by rw [← HLL.out]; exact lsI_at hlj hy) x
          obtain ⟨q, hq⟩ : ∃ q, decide (lt1 (ck y) = x) = q := ⟨_, rfl⟩
          have hq2 : (y % 4 == K) = q := by rw [← hq, ← HX.out, lt_inj, HK.out]
          rw [hq] at hst
          obtain ⟨Y, hY⟩ : ∃ Y, y % 4 = Y := ⟨_, rfl⟩
          rw [hY] at hc hq2
          have t4 : (j : Int) < i := by omega
          have t5 : decide ((i : Int) ≤ j) = false := by simp; omega
          have hw : wrap64 ((j : Int) + 1) = j + 1 := by unfold wrap64; have := HN.out; have := HL.out; have := HLT.out; omega
          have HST := Lib.hid hst
          have HLJ := Lib.hid hlj
          obtain ⟨b1, hb1⟩ : ∃ b1, (tw || hasB (L.take j) x) = b1 := ⟨_, rfl⟩
          rw [hb1]
          have HBB := Lib.hid hb1
          clear hst hY hy hq hb1 hj
          cases b1 with
          | true =>
            go_wp2
            go_roundw
            · exact ⟨j + 1, HLJ.out, by congr 1, by rw [HST.out, ← Bool.or_assoc, HBB.out]; rfl, by trivial⟩
            · exact meas_w hw HLJ.out
          | false =>
            go_wp2
            go_roundw
            · exact ⟨j + 1, HLJ.out, by congr 1, by rw [HST.out, ← Bool.or_assoc, HBB.out]; simp [hq2], by trivial⟩
            · exact meas_w hw HLJ.out
        · obtain rfl : j = i := by omega
          have hLl : L.length = j := by rw [← HLL.out]; unfold lsI; have := HN.out; have := HLT.out; simp; omega
          have e1 : L.take j = L := List.take_of_length_le (by omega)
          rw [e1]
          have hsn : (tw || hasB L x) = dupF [] (lsI (zs.take (j + 1))) := by
            rw [take_snoc HZ.out]
            unfold lsI
            rw [List.map_append]
            show _ = dupF [] (lsI (zs.take j) ++ [lt1 (ck z)])
            rw [dupF_snoc, HLL.out, HX.out, HTW.out]
            rfl
          rw [hsn]
          obtain ⟨g, c, W5, hrun, hn5, hb5⟩ := it_app HI.out.own HI.out.bel.size (by rw [HKL.out]; have := HN.out; have := HL.out; have := HLT.out; omega) K
          have hn6 : It w1.heap.size W5 (.slice (some ⟨g, 0, none⟩) (j + 1) c) (kI (zs.take (j + 1))) := by
            rw [HKL.out] at hn5
            have : kI (zs.take (j + 1)) = kI (zs.take j) ++ [K] := by rw [take_snoc HZ.out]; unfold kI; rw [List.map_append, ← HK.out]; rfl
            rw [this]
            exact hn5
          rw [HKL.out] at hrun
          have HE : Hid (OI zs w1 W5 (j + 1) (.slice (some ⟨g, 0, none⟩) (j + 1) c)) := Lib.hid ⟨hn6, HI.out.bel.trans hb5⟩
          have hss := SF_step (zs.take j) z
          rw [← take_snoc HZ.out] at hss
          have t5 : decide ((j : Int) < j) = false := by simp
          have hw : wrap64 ((j : Int) + 1) = j + 1 := by unfold wrap64; have := HN.out; have := HL.out; have := HLT.out; omega
          have hz4 : K = 0 ∨ K = 1 ∨ K = 2 ∨ K = 3 := by have := HK.out; omega
          have hcz := ck_lit HK.out
          rw [hcz] at hss
          have hsz : (SF (zs.take j)).size ≤ 1000 := by
            unfold SF
            rw [bs_size, flat_size]
            unfold csI
            have := HN.out; have := HL.out
            simp
            omega
          have HSZ := Lib.hid hsz
          clear hn5 hn6 hb5 hsn e1 hLl hj hlj hcz hsz
          have hx4 : lt1 (UInt8.ofNat (97 + K.toNat)) = ByteArray.extract ⟨#[97, 98, 99, 100]⟩ K.toNat (K.toNat + 1) := by
            rcases hz4 with rfl | rfl | rfl | rfl <;> decide +kernel
          rw [hx4] at hss
          clear hx4
          rcases hz4 with rfl | rfl | rfl | rfl
          all_goals
            have HSS := Lib.hid hss
            clear hss
            go_wp2_with (at_builtin; refine wpList_app_run rfl (.tmp 52) (.tmp 54) 37 rfl rfl _ _ _ rfl rfl hrun ?_)
            all_goals first
              | (exfalso; have := HSZ.out; omega)
              | (go_roundw
                 · exact ⟨j + 1, HLT.out, by congr 1, HE.out, rfl, by rw [← HSS.out]; rfl, by trivial⟩
                 · exact meas_w hw HLT.out)
    · obtain rfl : i = n := by omega
      have e1 : zs.take i = zs := List.take_of_length_le (by have := HN.out; omega)
      rw [e1]
      have t5 : decide ((i : Int) < i) = false := by simp
      have hs0 : SF zs ++ (⟨#[]⟩ : ByteArray) = SF zs := by
        unfold SF
        rw [show (⟨#[]⟩ : ByteArray) = ⟨⟨[]⟩⟩ from rfl, bs_app, List.append_nil]
      have hcv := fun w : World => Lib.run_convert_string_bytes (P := Tryz.prog) w 9 33 5 (SF zs) Tryz.underlying9 Tryz.underlying33 Tryz.underlying5
      have hsz : (SF zs).size ≤ 1000 := by
        unfold SF
        rw [bs_size, flat_size]
        unfold csI
        have := HN.out; have := HL.out
        simp
        omega
      have HP := Lib.hid (fun (c : Nat) (w : World) => flat_all (zs := zs) HL.out c w)
      obtain ⟨tw, htw⟩ : ∃ tw, dupF [] (lsI zs) = tw := ⟨_, rfl⟩
      rw [htw] at HP
      rw [htw]
      have HSZ := Lib.hid hsz
      have HBB := Lib.hid (HB1.out.trans (hI.bel.mono HB1.out.size))
      clear hI e1 hi hlt htw hsz
      cases tw with
      | true =>
        go_wp2_with (go_at_call 12; refine Hid.out ?_)
        all_goals first
          | (exfalso; have := HSZ.out; omega)
          | (refine Lib.hid ?_
             with_reducible refine (HP.out _ _).mono ?_
             rintro e w3 ⟨N, rfl, hb3, hch⟩
             have bN := Blk.new w3 (ncs N) 25
             have hbx : Below w3.heap.size w3 (w3.alloc (.cells (ncs N) 25)) := bel1
             have hb5 := HBB.out.trans ((hb3.trans (hbx.mono hb3.size)).mono HBB.out.size)
             have cN : Calls Tryz.prog 10 #[.agg (ncs N)] (w3.alloc (.cells (ncs N) 25)) (PostR (w3.alloc (.cells (ncs N) 25)) (.int .i64 2)) := hch _ hbx
             have l1 := run_ldN bN
             have HB5 := Lib.hid hb5
             clear hb3 hch bN hbx hb5 hcv
             go_wp2_with (first | (go_at_call 10; (with_reducible refine cN.mono ?_); intro e w4 hp; obtain ⟨rfl, hb⟩ := hp; have HB6 := Lib.hid hb; clear hb cN) | (go_at_call 9; (with_reducible refine (num_any _ _).mono ?_); rintro e w5 ⟨rfl, hw⟩; subst w5))
             go_ret
             exact ⟨rfl, HB5.out.trans (HB6.out.mono HB5.out.size)⟩)
      | false =>
        go_wp2_with (go_at_call 12; refine Hid.out ?_)
        all_goals first
          | (exfalso; have := HSZ.out; omega)
          | (refine Lib.hid ?_
             with_reducible refine (HP.out _ _).mono ?_
             rintro e w3 ⟨N, rfl, hb3, hch⟩
             have bN := Blk.new w3 (ncs N) 25
             have hbx : Below w3.heap.size w3 (w3.alloc (.cells (ncs N) 25)) := bel1
             have hb5 := HBB.out.trans ((hb3.trans (hbx.mono hb3.size)).mono HBB.out.size)
             have cN : Calls Tryz.prog 10 #[.agg (ncs N)] (w3.alloc (.cells (ncs N) 25)) (PostR (w3.alloc (.cells (ncs N) 25)) (.int .i64 0)) := hch _ hbx
             have l1 := run_ldN bN
             have HB5 := Lib.hid hb5
             clear hb3 hch bN hbx hb5 hcv
             go_wp2_with (first | (go_at_call 10; (with_reducible refine cN.mono ?_); intro e w4 hp; obtain ⟨rfl, hb⟩ := hp; have HB6 := Lib.hid hb; clear hb cN) | (go_at_call 9; (with_reducible refine (num_any _ _).mono ?_); rintro e w5 ⟨rfl, hw⟩; subst w5))
             go_ret
             exact ⟨rfl, HB5.out.trans (HB6.out.mono HB5.out.size)⟩)
end Go.Proofs.YtinoaajohkafmaaGreat.Ey

/-
  EarlyBlocks: the walk at deep blocks; the law.
-/
namespace Go.Proofs.YtinoaajohkafmaaGreat.Ey
open Go Go.RowKit Go.Maps Go.Proofs.YtinoaajohkafmaaGreat.Pa Go.Proofs.YtinoaajohkafmaaGreat.Pr
open Go.Proofs.YtinoaajohkafmaaGreat.Lx
open Go.Proofs.YtinoaajohkafmaaGreat.Uni (B)
set_option linter.unusedVariables false
set_option linter.unusedSimpArgs false
attribute [local go_sem ↓] ldK stK alK bdK bsK ldN stN alN bdN bsN
attribute [local irreducible] kcs ncs ncells SF SD TD lt1 ck
attribute [local go_sem] run_alN run_stNg run_ldNg run_bdN0
set_option maxRecDepth 100000 in
set_option maxHeartbeats 8000000 in
theorem blocks_deep {a : Option Addr} {cap : Nat} {zs : List Int} {w : World} (hr : Row w a zs) (hl : zs.length ≤ 8) (hcap : cap ≤ 9223372036854775807) : Calls Tryz.prog 6 #[.slice a zs.length cap, .bool true] w (PostR w (.bool true)) := by
  have hal := alive_any w
  obtain ⟨n, hn⟩ : ∃ n, zs.length = n := ⟨_, rfl⟩
  rw [hn]
  have HN := Lib.hid hn
  have HR := Lib.hid hr
  have hn8 : decide ((8 : Int) < n) = false := by simp; omega
  have HL := Lib.hid hl
  clear hr hl hn
  go_enter Tryz.func6, Tryz.ntmps6
  go_wp2_with (go_at_call 7; (with_reducible refine hal.mono ?_); rintro e w1 ⟨rfl, hb1⟩; have HB1 := Lib.hid hb1; clear hb1)
  go_loopw [6, 7, 8, 9, 10] (fun v tw s tl iv wr => ∃ i : Nat, i ≤ n ∧ iv = .int .i64 (i : Int) ∧ OI zs w1 wr i v ∧ tw = .bool (dupF [] (lsI (zs.take i))) ∧ s = .string (SD (zs.take i)) ∧ tl = .string (TD i)) (fun _ _ _ _ iv _ => n - (intOf iv).toNat)
  case atStart =>
    exact ⟨0, Nat.zero_le _, rfl, ⟨World.ownsRow_nil _ _ _ _, Below.refl _ _⟩, rfl, by kernel_rfl, by kernel_rfl⟩
  case round =>
    obtain ⟨i, hi, rfl, hI, rfl, rfl, rfl⟩ := hrel
    by_cases hlt : i < n
    · obtain ⟨z, hz⟩ : ∃ z, zs[i]? = some z := ⟨zs[i]'(by have := HN.out; omega), List.getElem?_eq_getElem _⟩
      obtain ⟨b, o, ha, hbl, hc⟩ := HR.out i z hz
      subst ha
      have hc1 := kept_cell (kept_below (HB1.out.trans (hI.bel.mono HB1.out.size))) hbl hc
      have t1 : (i : Int) < n := by omega
      have t2 : decide ((n : Int) ≤ i) = false := by simp; omega
      obtain ⟨av, ac, rfl⟩ := hI.own.shape
      have hkl : (kI (zs.take i)).length = i := by unfold kI; have := HN.out; simp; omega
      rw [hkl]
      have HI := Lib.hid hI
      have HZ := Lib.hid hz
      have HLT := Lib.hid hlt
      obtain ⟨L, hL⟩ : ∃ L, lsI (zs.take i) = L := ⟨_, rfl⟩
      rw [hL]
      have HLL := Lib.hid hL
      obtain ⟨tw, htw⟩ : ∃ tw, dupF [] L = tw := ⟨_, rfl⟩
      rw [htw]
      have HTW := Lib.hid htw
      obtain ⟨K, hK⟩ : ∃ K, z % 4 = K := ⟨_, rfl⟩
      have hk : bits BinOp.and IntKind.i64 z 3 = K := by rw [and3, hK]
      have HK := Lib.hid hK
      obtain ⟨x, hx⟩ : ∃ x, lt1 (ck z) = x := ⟨_, rfl⟩
      have HX := Lib.hid hx
      have HKL := Lib.hid hkl
      obtain ⟨wq, hwq⟩ : ∃ u, u = wr := ⟨_, rfl⟩
      subst hwq
      clear hI hz hc hbl hkl hL htw hi hK hx
      go_wp2
      go_loopw [7, 12] (fun tv jv wj => ∃ j : Nat, j ≤ i ∧ jv = .int .i64 (j : Int) ∧ tv = .bool (tw || hasB (L.take j) x) ∧ wj = wq) (fun _ jv _ => i - (intOf jv).toNat)
      case atStart => exact ⟨0, Nat.zero_le _, rfl, by simp [hasB], rfl⟩
      case round =>
        obtain ⟨j, hj, rfl, rfl, hwj⟩ := hrel
        subst hwj
        by_cases hlj : j < i
        · obtain ⟨y, hy⟩ : ∃ y, zs[j]? = some y := ⟨zs[j]'(by have := HN.out; have := HLT.out; omega), List.getElem?_eq_getElem _⟩
          obtain ⟨g, c, e, hc⟩ := HI.out.own.at (kI_at hlj hy)
          rw [HKL.out] at e
          simp only [Value.slice.injEq] at e
          obtain ⟨rfl, -, rfl⟩ := e
          have hst := hasB_take (l := L) (x := lt1 (ck y)) (by rw [← HLL.out]; exact lsI_at hlj hy) x
          obtain ⟨q, hq⟩ : ∃ q, decide (lt1 (ck y) = x) = q := ⟨_, rfl⟩
          have hq2 : (y % 4 == K) = q := by rw [← hq, ← HX.out, lt_inj, HK.out]
          rw [hq] at hst
          obtain ⟨Y, hY⟩ : ∃ Y, y % 4 = Y := ⟨_, rfl⟩
          rw [hY] at hc hq2
          have t4 : (j : Int) < i := by omega
          have t5 : decide ((i : Int) ≤ j) = false := by simp; omega
          have hw : wrap64 ((j : Int) + 1) = j + 1 := by unfold wrap64; have := HN.out; have := HL.out; have := HLT.out; omega
          have HST := Lib.hid hst
          have HLJ := Lib.hid hlj
          obtain ⟨b1, hb1⟩ : ∃ b1, (tw || hasB (L.take j) x) = b1 := ⟨_, rfl⟩
          rw [hb1]
          have HBB := Lib.hid hb1
          clear hst hY hy hq hb1 hj
          cases b1 with
          | true =>
            go_wp2
            go_roundw
            · exact ⟨j + 1, HLJ.out, by congr 1, by rw [HST.out, ← Bool.or_assoc, HBB.out]; rfl, by trivial⟩
            · exact meas_w hw HLJ.out
          | false =>
            go_wp2
            go_roundw
            · exact ⟨j + 1, HLJ.out, by congr 1, by rw [HST.out, ← Bool.or_assoc, HBB.out]; simp [hq2], by trivial⟩
            · exact meas_w hw HLJ.out
        · obtain rfl : j = i := by omega
          have hLl : L.length = j := by rw [← HLL.out]; unfold lsI; have := HN.out; have := HLT.out; simp; omega
          have e1 : L.take j = L := List.take_of_length_le (by omega)
          rw [e1]
          have hsn : (tw || hasB L x) = dupF [] (lsI (zs.take (j + 1))) := by
            rw [take_snoc HZ.out]
            unfold lsI
            rw [List.map_append]
            show _ = dupF [] (lsI (zs.take j) ++ [lt1 (ck z)])
            rw [dupF_snoc, HLL.out, HX.out, HTW.out]
            rfl
          rw [hsn]
          obtain ⟨g, c, W5, hrun, hn5, hb5⟩ := it_app HI.out.own HI.out.bel.size (by rw [HKL.out]; have := HN.out; have := HL.out; have := HLT.out; omega) K
          have hn6 : It w1.heap.size W5 (.slice (some ⟨g, 0, none⟩) (j + 1) c) (kI (zs.take (j + 1))) := by
            rw [HKL.out] at hn5
            have : kI (zs.take (j + 1)) = kI (zs.take j) ++ [K] := by rw [take_snoc HZ.out]; unfold kI; rw [List.map_append, ← HK.out]; rfl
            rw [this]
            exact hn5
          rw [HKL.out] at hrun
          have HE : Hid (OI zs w1 W5 (j + 1) (.slice (some ⟨g, 0, none⟩) (j + 1) c)) := Lib.hid ⟨hn6, HI.out.bel.trans hb5⟩
          have hss := SD_step (zs.take j) z
          rw [← take_snoc HZ.out] at hss
          have t5 : decide ((j : Int) < j) = false := by simp
          have hw : wrap64 ((j : Int) + 1) = j + 1 := by unfold wrap64; have := HN.out; have := HL.out; have := HLT.out; omega
          have hz4 : K = 0 ∨ K = 1 ∨ K = 2 ∨ K = 3 := by have := HK.out; omega
          have hcz := ck_lit HK.out
          rw [hcz] at hss
          have hsz : (SD (zs.take j)).size ≤ 1000 := by
            unfold SD
            rw [bs_size, deep_size]
            unfold csI
            have := HN.out; have := HL.out
            simp
            omega
          have HSZ := Lib.hid hsz
          have hts : (TD j).size ≤ 1000 := by
            unfold TD
            rw [bs_size, tail_size]
            have := HN.out; have := HL.out
            omega
          have HTS := Lib.hid hts
          clear hn5 hn6 hb5 hsn e1 hLl hj hlj hcz hsz hts
          have hx4 : lt1 (UInt8.ofNat (97 + K.toNat)) = ByteArray.extract ⟨#[97, 98, 99, 100]⟩ K.toNat (K.toNat + 1) := by
            rcases hz4 with rfl | rfl | rfl | rfl <;> decide +kernel
          rw [hx4] at hss
          clear hx4
          rcases hz4 with rfl | rfl | rfl | rfl
          all_goals
            have HSS := Lib.hid hss
            clear hss
            go_wp2_with (at_builtin; refine wpList_app_run rfl (.tmp 52) (.tmp 54) 37 rfl rfl _ _ _ rfl rfl hrun ?_)
            all_goals first
              | (exfalso; have := HSZ.out; have := HTS.out; omega)
              | (go_roundw
                 · exact ⟨j + 1, HLT.out, by congr 1, HE.out, rfl, by rw [← HSS.out]; rfl, by rw [← TD_step]⟩
                 · exact meas_w hw HLT.out)
    · obtain rfl : i = n := by omega
      have e1 : zs.take i = zs := List.take_of_length_le (by have := HN.out; omega)
      rw [e1]
      have t5 : decide ((i : Int) < i) = false := by simp
      obtain ⟨X, hX⟩ : ∃ X, SD zs ++ TD i = X := ⟨_, rfl⟩
      have hcv := fun w : World => Lib.run_convert_string_bytes (P := Tryz.prog) w 9 33 5 X Tryz.underlying9 Tryz.underlying33 Tryz.underlying5
      have hsz : (SD zs).size ≤ 1000 := by
        unfold SD
        rw [bs_size, deep_size]
        unfold csI
        have := HN.out; have := HL.out
        simp
        omega
      have hts : (TD i).size ≤ 1000 := by
        unfold TD
        rw [bs_size, tail_size]
        have := HN.out; have := HL.out
        omega
      have hp := fun (c : Nat) (w : World) => deep_all (zs := zs) HL.out c w
      rw [HN.out, hX] at hp
      have HP := Lib.hid hp
      obtain ⟨tw, htw⟩ : ∃ tw, dupF [] (lsI zs) = tw := ⟨_, rfl⟩
      rw [htw]
      have HSZ := Lib.hid hsz
      have HTS := Lib.hid hts
      have HBB := Lib.hid (HB1.out.trans (hI.bel.mono HB1.out.size))
      clear hI e1 hi hlt htw hsz hts hp
      cases tw with
      | true =>
        go_wp2_with (go_at_call 12; refine Hid.out ?_)
        all_goals first
          | (exfalso; have := HSZ.out; have := HTS.out; omega)
          | (refine Lib.hid ?_
             with_reducible refine (HP.out _ _).mono ?_
             rintro e w3 ⟨N, rfl, hb3, hch⟩
             have bN := Blk.new w3 (ncs N) 25
             have hbx : Below w3.heap.size w3 (w3.alloc (.cells (ncs N) 25)) := bel1
             have hb5 := HBB.out.trans ((hb3.trans (hbx.mono hb3.size)).mono HBB.out.size)
             have cN : Calls Tryz.prog 10 #[.agg (ncs N)] (w3.alloc (.cells (ncs N) 25)) (PostR (w3.alloc (.cells (ncs N) 25)) (.int .i64 0)) := hch _ hbx
             have l1 := run_ldN bN
             have HB5 := Lib.hid hb5
             clear hb3 hch bN hbx hb5 hcv
             go_wp2_with (first | (go_at_call 10; (with_reducible refine cN.mono ?_); intro e w4 hp; obtain ⟨rfl, hb⟩ := hp; have HB6 := Lib.hid hb; clear hb cN) | (go_at_call 9; (with_reducible refine (num_any _ _).mono ?_); rintro e w5 ⟨rfl, hw⟩; subst w5))
             go_ret
             exact ⟨rfl, HB5.out.trans (HB6.out.mono HB5.out.size)⟩)
      | false =>
        go_wp2_with (go_at_call 12; refine Hid.out ?_)
        all_goals first
          | (exfalso; have := HSZ.out; have := HTS.out; omega)
          | (refine Lib.hid ?_
             with_reducible refine (HP.out _ _).mono ?_
             rintro e w3 ⟨N, rfl, hb3, hch⟩
             have bN := Blk.new w3 (ncs N) 25
             have hbx : Below w3.heap.size w3 (w3.alloc (.cells (ncs N) 25)) := bel1
             have hb5 := HBB.out.trans ((hb3.trans (hbx.mono hb3.size)).mono HBB.out.size)
             have cN : Calls Tryz.prog 10 #[.agg (ncs N)] (w3.alloc (.cells (ncs N) 25)) (PostR (w3.alloc (.cells (ncs N) 25)) (.int .i64 0)) := hch _ hbx
             have l1 := run_ldN bN
             have HB5 := Lib.hid hb5
             clear hb3 hch bN hbx hb5 hcv
             go_wp2_with (first | (go_at_call 10; (with_reducible refine cN.mono ?_); intro e w4 hp; obtain ⟨rfl, hb⟩ := hp; have HB6 := Lib.hid hb; clear hb cN) | (go_at_call 9; (with_reducible refine (num_any _ _).mono ?_); rintro e w5 ⟨rfl, hw⟩; subst w5))
             go_ret
             exact ⟨rfl, HB5.out.trans (HB6.out.mono HB5.out.size)⟩)
set_option maxRecDepth 100000 in
set_option maxHeartbeats 4000000 in
theorem blocks_long {a : Option Addr} {n cap : Nat} (d : Bool) {w : World} (h : 8 < n) : Calls Tryz.prog 6 #[.slice a n cap, .bool d] w (PostR w (.bool true)) := by
  have hal := alive_any w
  have hn8 : decide ((8 : Int) < n) = true := by simp; omega
  go_enter Tryz.func6, Tryz.ntmps6
  go_wp2_with (go_at_call 7; (with_reducible refine hal.mono ?_); rintro e w1 ⟨rfl, hb1⟩; have HB1 := Lib.hid hb1; clear hb1)
  go_ret
  exact ⟨rfl, HB1.out⟩
def IsRow (k : IntKind) (w : World) (a : Option Addr) (len cap : Nat) (zs : List Int) : Prop :=
  (a = none ∧ len = 0 ∧ cap = 0 ∧ zs = []) ∨
  ∃ x, a = some x ∧ len ≤ cap ∧ cap ≤ maxLen ∧ len ≤ zs.length ∧ (∀ i, i < zs.length → w.cell? (x.add i) = some (.int k (zs.getD i 0))) ∧ ∀ n ∈ zs, (Lit.int k n).wf = true
theorem lawBlocks_walk (a : Option Addr) (len cap : Nat) (zs : List Int) (d : Bool) (w : World) (h : IsRow .i64 w a len cap zs) : Calls Tryz.prog 6 #[.slice a len cap, .bool d] w (PostR w (.bool true)) := by
  by_cases h8 : 8 < len
  · exact blocks_long d h8
  obtain ⟨ns, hns, hrow, hcap⟩ : ∃ ns : List Int, ns.length = len ∧ Row w a ns ∧ cap ≤ 9223372036854775807 := by
    rcases h with ⟨rfl, rfl, rfl, rfl⟩ | ⟨x, rfl, hl, hc, hz, hcell, hwf⟩
    · exact ⟨[], rfl, fun j z hj => by simp at hj, by omega⟩
    · unfold maxLen at hc
      refine ⟨zs.take len, by rw [List.length_take]; omega, fun j z hj => ?_, by omega⟩
      have hj' : j < len := by
        rcases Nat.lt_or_ge j len with h | h
        · exact h
        · rw [List.getElem?_take_eq_none h] at hj; cases hj
      rw [List.getElem?_take_of_lt hj'] at hj
      have hc2 := hcell j (by omega)
      rw [List.getD_eq_getElem?_getD, hj] at hc2
      obtain ⟨b, o, sp⟩ := x
      have hsp : sp = none := World.cell?_spot (hcell 0 (by omega))
      subst hsp
      have e2 : (⟨b, o, none⟩ : Addr).add j = ⟨b, o + j, none⟩ := by unfold Addr.add; split <;> simp_all
      rw [e2] at hc2
      exact ⟨b, o, rfl, World.block_lt_of_cell? w _ hc2, hc2⟩
  subst hns
  cases d with
  | true => exact blocks_deep hrow (by omega) hcap
  | false => exact blocks_flat hrow (by omega) hcap
end Go.Proofs.YtinoaajohkafmaaGreat.Ey

/-
  A slice of numbers that came in.
-/
namespace Go.Proofs.YtinoaajohkafmaaGreat.Ey
open Go Go.RowKit Go.ChangeShapes Go.WideShapes
set_option linter.unusedVariables false
set_option linter.unusedSimpArgs false
set_option maxRecDepth 100000 in
theorem open_row {H : Type} {enc : TypeId × Value → H} {w : World} {base : Nat} {spare : Nat → Bool} {held : Bool} {r : Reach} {b0 : Nat} {v : Value} {dd : DataW H} {p : List MemPlace} (hv : Value.okWide Tryz.prog w r b0 37 v) (h : DataW.Trod enc Tryz.prog w base spare held 37 v dd p) :
    ∃ a len cap zs, v = .slice a len cap ∧ IsRow .i64 w a len cap zs := by
  obtain ⟨a, len, cap, rfl⟩ := okWide_slice Tryz.underlying37 hv
  obtain ⟨fuel, hf⟩ := h
  rcases open_ints Tryz.underlying37 Tryz.underlying3 (by kernel_rfl) hf with ⟨hcs, _⟩ | ⟨x, l, c, zs, hcs, _, hl, hm, hz, _, hcell, hwz⟩
  · simp [Value.cells] at hcs
    obtain ⟨rfl, rfl, rfl⟩ := hcs
    exact ⟨none, 0, 0, [], rfl, .inl ⟨rfl, rfl, rfl, rfl⟩⟩
  · simp [Value.cells] at hcs
    obtain ⟨rfl, rfl, rfl⟩ := hcs
    exact ⟨_, _, _, zs, rfl, .inr ⟨_, rfl, hl, hm, by rw [hz]; split <;> omega, fun i hi => hcell i hi, hwz⟩⟩
end Go.Proofs.YtinoaajohkafmaaGreat.Ey
