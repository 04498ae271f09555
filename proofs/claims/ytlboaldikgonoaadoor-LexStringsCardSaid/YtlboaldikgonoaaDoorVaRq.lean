/-
  understudyref1.Quote.
-/
import Derived.Test.YtlboaldikgonoaaDoorVaQm
namespace Go.Proofs.YtlboaldikgonoaaDoor.Vals
open Go.RowKit Go.Proofs.YtlboaldikgonoaaDoor.Uni
set_option linter.unusedVariables false

def hexT (d : Nat) : ByteArray := ⟨[Nat.toUInt8 (hexd d)].toArray⟩
theorem hex_slice (d : Nat) (h : d < 16) (w : World) : (Instr.slice 9 (.string ⟨#[48, 49, 50, 51, 52, 53, 54, 55, 56, 57, 97, 98, 99, 100, 101, 102]⟩) (some (.int .i64 (d : Int))) (some (.int .i64 ((d : Int) + 1))) none).run Tryd.prog w = .ok (.string (hexT d)) w := by
  rw [run_slice_string_if (h := Tryd.underlying9)]
  have hs : ((⟨#[48, 49, 50, 51, 52, 53, 54, 55, 56, 57, 97, 98, 99, 100, 101, 102]⟩ : ByteArray).size : Int) = 16 := rfl
  rw [hs, if_pos (by omega), if_pos (by omega)]
  rcases (by omega : d = 0 ∨ d = 1 ∨ d = 2 ∨ d = 3 ∨ d = 4 ∨ d = 5 ∨ d = 6 ∨ d = 7 ∨ d = 8 ∨ d = 9 ∨ d = 10 ∨ d = 11 ∨ d = 12 ∨ d = 13 ∨ d = 14 ∨ d = 15) with rfl | rfl | rfl | rfl | rfl | rfl | rfl | rfl | rfl | rfl | rfl | rfl | rfl | rfl | rfl | rfl <;> rfl
theorem and15i (x : Int) (h0 : 0 ≤ x) (h1 : x < 1000000000) : bits .and .i64 x 15 = x % 16 := bits_mask .i64 63 (by decide) wraps_i64 4 (by decide) x h0 (by omega)

def bs (l : List UInt8) : ByteArray := ⟨l.toArray⟩
theorem bs_app (a b : List UInt8) : bs a ++ bs b = bs (a ++ b) := by
  apply ByteArray.ext
  simp [bs]
theorem bs_size (l : List UInt8) : (bs l).size = l.length := by simp [bs, ByteArray.size]
theorem hexT_bs (d : Nat) : hexT d = bs [Nat.toUInt8 (hexd d)] := rfl

theorem conv_one (u : Nat) (h : u < 256) (wr : World) : (convert 25 9 (.slice (some ⟨wr.heap.size, 0, none⟩) 1 1)).run Tryd.prog (wr.alloc (.cells #[.int .u8 (u : Nat)] 5)) = .ok (.string (bs [Nat.toUInt8 u])) (wr.alloc (.cells #[.int .u8 (u : Nat)] 5)) := by
  have hr := run_convert_bytes_arg (wr.alloc (.cells #[.int .u8 (u : Nat)] 5)) 25 5 Tryd.underlying25 Tryd.underlying5 wr.heap.size 0 1 1 [(u : Int)] rfl (fun i hi => by
    obtain rfl : i = 0 := by omega
    rw [Lib.cell_of_heap (heap_alloc_new wr _)]
    rfl) 9 Tryd.underlying9
  rw [hr]
  rfl

def QInv (us : List Nat) (lv : Value) (w0 : World) (o i : Value) (wr : World) : Prop :=
  ∃ (k : Nat) (l : List UInt8), i = .int .i64 (k : Nat) ∧ k ≤ us.length ∧ o = .string (bs l) ∧ l = [34] ++ qUs (us.take k) ∧ wr.ownsRow w0.heap.size 51 1 lv us.length (uc us) ∧ Below w0.heap.size w0 wr

set_option maxRecDepth 100000 in
set_option maxHeartbeats 2000000 in
theorem rquote_any (s : ByteArray) (w : World) (hs : s.size ≤ 1000000) :
    Calls Tryd.prog 15 #[.string s] w fun e w' => e = .returned (.string (bs (quoteL s))) ∧ Below w.heap.size w w' := by
  go_enter Tryd.func15, Tryd.ntmps15
  go_wp2_with (go_at_call 22; refine (runits_any s w (by omega)).mono ?_)
  rintro e w1 ⟨lv, rfl, hown, hbel⟩
  obtain ⟨ao, cp, rfl⟩ := own_shape hown
  obtain ⟨us, hus⟩ : ∃ us, us = units s := ⟨_, rfl⟩
  have hul : us.length ≤ 2000000 := by have := units_le s; rw [hus]; omega
  have hub : ∀ u ∈ us, u < 65536 := by
    rw [hus]
    intro u hu
    unfold units at hu
    cases hp : pts s with
    | none => rw [hp] at hu; simp at hu
    | some L =>
      rw [hp] at hu
      simp only [Option.map_some, Option.getD_some, uns, List.mem_flatMap] at hu
      obtain ⟨c, hc, hu⟩ := hu
      exact un_lt (pts_bd hp c hc) u hu
  have hq : quoteL s = [34] ++ qUs us ++ [34] := by rw [hus]; rfl
  rw [← hus] at hown ⊢
  have HQ0 := Lib.hid hq
  have HB := Lib.hid hub
  have hst0 : QInv us (.slice ao us.length cp) w (.string (bs [34])) (.int .i64 0) w1 := ⟨0, [34], rfl, Nat.zero_le _, rfl, rfl, hown, hbel⟩
  have HST := Lib.hid hst0
  have e34 : (⟨#[34]⟩ : ByteArray) = bs [34] := rfl
  clear hst0 hub hus hq hown hbel
  go_wp2
  go_loopw [4, 5] (fun o i wr => QInv us (.slice ao us.length cp) w o i wr) (fun _ i _ => us.length - (intOf i).toNat)
  case atStart => exact HST.out
  case round =>
    obtain ⟨k, l, rfl, hk, rfl, hl, hown, hbel⟩ := hrel
    have hql := qUs_len (us.take k)
    have htk0 : (us.take k).length ≤ k := List.length_take_le _ _
    have hll : l.length ≤ 20000000 := by rw [hl, List.length_append]; simp; omega
    have HL := Lib.hid hl
    by_cases hlt : k < us.length
    · have hlt2 : (k : Int) < us.length := by omega
      obtain ⟨u, hu⟩ : ∃ u, us[k]? = some u := ⟨us[k], by simp [hlt]⟩
      obtain ⟨gb, rfl, hcell⟩ := own_at hown (k := k) (u := .int .u16 (u : Nat)) (by simp [uc, hu])
      have hu2 := HB.out u (List.mem_of_getElem? hu)
      have hui : (u : Int) ≤ 65535 := by omega
      have htk : us.take (k + 1) = us.take k ++ [u] := by rw [List.take_add_one, hu]; rfl
      have hnext : l ++ qU u = [34] ++ qUs (us.take (k + 1)) := by rw [htk, qUs_append, qUs_one, ← List.append_assoc, ← hl]
      have HN := Lib.hid hnext
      cases hpl : plainB u with
      | true =>
        have hp := plain_iff.1 hpl
        have i1 : (32 : Int) ≤ u := by omega
        have i2 : (u : Int) ≤ 126 := by omega
        have i3 : ((u : Int) == 34) = false := by simp; omega
        have i4 : ((u : Int) == 92) = false := by simp; omega
        have hqu := qU_plain hpl
        have HQ := Lib.hid hqu
        have hcv := conv_one u (by omega) wr
        obtain ⟨z, hz⟩ : ∃ z, z = bs [Nat.toUInt8 u] := ⟨_, rfl⟩
        have hzs : z.size = 1 := by rw [hz, bs_size]; rfl
        have hls := bs_size l
        have hsum : (bs l).size + z.size ≤ 9223372036854775807 := by rw [hls, hzs]; omega
        rw [← hz] at hcv
        have HZ := Lib.hid hz
        have hbel2 := hbel.alloc hbel.size (.cells #[.int .u8 (u : Nat)] 5)
        have hown2 := hown.alloc (.cells #[.int .u8 (u : Nat)] 5)
        clear hp hpl hqu hu2 hui hql htk0 hl htk hnext hu hz hzs hls
        go_wp2
        go_roundw
        case rel =>
          refine ⟨k + 1, l ++ qU u, by go_num, by omega, ?_, HN.out, hown2, hbel2⟩
          rw [HQ.out, ← bs_app, ← HZ.out]
        case measure => simp [intOf]; omega
      | false =>
        have hqu := qU_esc hpl
        have hcond : ((u : Int) < 32) ∨ (¬ (u : Int) < 32 ∧ (126 : Int) < u) ∨ (¬ (u : Int) < 32 ∧ ¬ (126 : Int) < u ∧ ((u : Int) == 34) = true) ∨ (¬ (u : Int) < 32 ∧ ¬ (126 : Int) < u ∧ ((u : Int) == 34) = false ∧ ((u : Int) == 92) = true) := by
          have := of_decide_eq_false hpl
          simp only [beq_iff_eq, beq_eq_false_iff_ne]
          omega
        have HQ := Lib.hid hqu
        have hls := bs_size l
        have hsum : (bs l).size + (bs [92, 117]).size ≤ 9223372036854775807 := by rw [hls, bs_size]; simp; omega
        have e2 : (⟨#[92, 117]⟩ : ByteArray) = bs [92, 117] := rfl
        have e16 : (⟨#[48, 49, 50, 51, 52, 53, 54, 55, 56, 57, 97, 98, 99, 100, 101, 102]⟩ : ByteArray).size = 16 := rfl
        have hdig : ∀ j, j < 4 → ∃ d : Nat, d < 16 ∧ (dsOf u 4)[j]? = some (hexd d) ∧ d = u / 16 ^ (3 - j) % 16 := by
          intro j hj
          refine ⟨_, Nat.mod_lt _ (by decide), ?_, rfl⟩
          rcases (by omega : j = 0 ∨ j = 1 ∨ j = 2 ∨ j = 3) with rfl | rfl | rfl | rfl <;> rfl
        have HD := Lib.hid hdig
        clear hpl hqu hql htk0 hl htk hnext hu hdig e16
        rcases hcond with c1 | ⟨c1, c2⟩ | ⟨c1, c2, c3⟩ | ⟨c1, c2, c3, c4⟩
        all_goals
          go_wp2
          go_loop [4, 8] (fun o i => ∃ j : Nat, j ≤ 4 ∧ i = .int .i64 (12 - 4 * (j : Int)) ∧ o = .string (bs (l ++ [92, 117] ++ ((dsOf u 4).take j).map Nat.toUInt8))) (fun _ i => (intOf i + 4).toNat)
          case atStart => exact ⟨0, Nat.zero_le _, rfl, by rw [bs_app]; simp⟩
          case round =>
            obtain ⟨j, hj, rfl, rfl⟩ := hrel
            obtain ⟨L', hL'⟩ : ∃ L', L' = l ++ [92, 117] ++ ((dsOf u 4).take j).map Nat.toUInt8 := ⟨_, rfl⟩
            have hLs : L'.length ≤ 30000000 := by
              have : ((dsOf u 4).take j).length ≤ j := List.length_take_le _ _
              rw [hL', List.length_append, List.length_append, List.length_map]; simp; omega
            rw [← hL']
            rcases (by omega : j = 0 ∨ j = 1 ∨ j = 2 ∨ j = 3 ∨ j = 4) with rfl | rfl | rfl | rfl | rfl
            · obtain ⟨d, hd16, hget, hdv⟩ := HD.out 0 (by decide)
              have hand : bits .and .i64 ((u : Int) / 4096) 15 = (d : Int) := by
                rw [and15i _ (by omega) (by omega)]
                simp at hdv
                omega
              have hsl := fun w => hex_slice d hd16 w
              have hzs : (hexT d).size = 1 := rfl
              have hls2 := bs_size L'
              have hsum2 : (bs L').size + (hexT d).size ≤ 9223372036854775807 := by rw [hls2, hzs]; omega
              have hnx : bs L' ++ hexT d = bs (l ++ [92, 117] ++ ((dsOf u 4).take 1).map Nat.toUInt8) := by
                rw [hexT_bs, bs_app, hL', List.take_add_one (i := 0), hget]
                simp
              have HX := Lib.hid hnx
              clear hL' hget hdv hzs hls2 hnx hsum
              go_wp2
              go_round
              case rel => exact ⟨1, by decide, by go_num, by rw [HX.out]⟩
              case measure => simp [intOf]
            · obtain ⟨d, hd16, hget, hdv⟩ := HD.out 1 (by decide)
              have hand : bits .and .i64 ((u : Int) / 256) 15 = (d : Int) := by
                rw [and15i _ (by omega) (by omega)]
                simp at hdv
                omega
              have hsl := fun w => hex_slice d hd16 w
              have hzs : (hexT d).size = 1 := rfl
              have hls2 := bs_size L'
              have hsum2 : (bs L').size + (hexT d).size ≤ 9223372036854775807 := by rw [hls2, hzs]; omega
              have hnx : bs L' ++ hexT d = bs (l ++ [92, 117] ++ ((dsOf u 4).take 2).map Nat.toUInt8) := by
                rw [hexT_bs, bs_app, hL', List.take_add_one (i := 1), hget]
                simp
              have HX := Lib.hid hnx
              clear hL' hget hdv hzs hls2 hnx hsum
              go_wp2
              go_round
              case rel => exact ⟨2, by decide, by go_num, by rw [HX.out]⟩
              case measure => simp [intOf]
            · obtain ⟨d, hd16, hget, hdv⟩ := HD.out 2 (by decide)
              have hand : bits .and .i64 ((u : Int) / 16) 15 = (d : Int) := by
                rw [and15i _ (by omega) (by omega)]
                simp at hdv
                omega
              have hsl := fun w => hex_slice d hd16 w
              have hzs : (hexT d).size = 1 := rfl
              have hls2 := bs_size L'
              have hsum2 : (bs L').size + (hexT d).size ≤ 9223372036854775807 := by rw [hls2, hzs]; omega
              have hnx : bs L' ++ hexT d = bs (l ++ [92, 117] ++ ((dsOf u 4).take 3).map Nat.toUInt8) := by
                rw [hexT_bs, bs_app, hL', List.take_add_one (i := 2), hget]
                simp
              have HX := Lib.hid hnx
              clear hL' hget hdv hzs hls2 hnx hsum
              go_wp2
              go_round
              case rel => exact ⟨3, by decide, by go_num, by rw [HX.out]⟩
              case measure => simp [intOf]
            · obtain ⟨d, hd16, hget, hdv⟩ := HD.out 3 (by decide)
              have hand : bits .and .i64 ((u : Int)) 15 = (d : Int) := by
                rw [and15i _ (by omega) (by omega)]
                simp at hdv
                omega
              have hsl := fun w => hex_slice d hd16 w
              have hzs : (hexT d).size = 1 := rfl
              have hls2 := bs_size L'
              have hsum2 : (bs L').size + (hexT d).size ≤ 9223372036854775807 := by rw [hls2, hzs]; omega
              have hnx : bs L' ++ hexT d = bs (l ++ [92, 117] ++ ((dsOf u 4).take 4).map Nat.toUInt8) := by
                rw [hexT_bs, bs_app, hL', List.take_add_one (i := 3), hget]
                simp
              have HX := Lib.hid hnx
              clear hL' hget hdv hzs hls2 hnx hsum
              go_wp2
              go_round
              case rel => exact ⟨4, by decide, by go_num, by rw [HX.out]⟩
              case measure => simp [intOf]
            · have hfin : L' = [34] ++ qUs (us.take (k + 1)) := by
                rw [hL', List.take_of_length_le (by rw [dsOf_len]; exact Nat.le_refl _), ← HN.out, HQ.out, escL, ← List.append_assoc]
              have HF := Lib.hid hfin
              clear hL' hfin hsum
              go_wp2
              go_roundw
              case rel => exact ⟨k + 1, L', by go_num, by omega, rfl, HF.out, hown, hbel⟩
              case measure => simp [intOf]; omega
    · obtain rfl : k = us.length := by omega
      have hls := bs_size l
      have hsum : (bs l).size + (bs [34]).size ≤ 9223372036854775807 := by rw [hls, bs_size]; simp; omega
      rw [List.take_length] at hl
      have hfin : bs l ++ bs [34] = bs (quoteL s) := by rw [bs_app, hl, HQ0.out]
      have HF := Lib.hid hfin
      clear hl hls hql htk0 hfin
      go_wp2
      go_ret
      exact ⟨by rw [← HF.out]; rfl, hbel⟩
end Go.Proofs.YtlboaldikgonoaaDoor.Vals
