/-
  Texts of this seat in build order: KyOw, HpBase, VaKind, UnMath, UnLow, UnPts, UnOf, UnLen, UnPtm, UnPoint, UnRef, UnUnits, VaRight, DeMem.
-/
import Derived.Test.YtphaefkaeinngaaGreatDoorMy01
import Derived.Laws.OwnMore
import Derived.Test.YtphaefkaeinngaaGreatDoorMy00
import Derived.Below
import Derived.Laws.RangeString
import Derived.Laws.RangeAny
import Derived.Test.YtphaefkaeinngaaGreatDoorProg
import Derived.WalkKit
import Derived.WalkSpells
import Derived.WalkLawsBesides
import Derived.RegionTactic
import Derived.ChangeAlike
import Derived.Deep.QuietTactic
import Derived.BigQuiet
import Derived.Lib.Hide
import Derived.OneCell
import Derived.Deep.RegionWith
import Derived.Laws.Tables
import Derived.Laws.Rows
import Derived.Laws.StructEq
import Derived.Laws.ResultCell
import Derived.Deep.MidRow
/-
  keys.Order: what it gives, at every list of keys.
-/
namespace Go.Proofs.YtphaefkaeinngaaGreatDoor.Keys
open Go Go.RowKit Go.Maps Go.Proofs.YtphaefkaeinngaaGreatDoor.Nums
set_option linter.unusedVariables false
def IdxK (k : KV) (n : Int) (ok : Bool) : Prop := ∀ w, Lw w → Calls Tryz.prog 87 #[.agg #[.string k.1, .int .i64 k.2]] w fun e w' => e = .returned (.tuple #[.int .i64 n, .bool ok]) ∧ Below w.heap.size w w'
theorem IdxK.at {k : KV} {n : Int} {ok : Bool} (h : IdxK k n ok) {w : World} (hL : Lw w) : Calls Tryz.prog 87 #[.agg #[.string k.1, .int .i64 k.2]] w fun e w' => e = .returned (.tuple #[.int .i64 n, .bool ok]) ∧ Below w.heap.size w w' := h w hL
theorem index_key (k : KV) (hk : Fine k) : IdxK k ((kidx k).getD 0) (kidx k).isSome := fun w hL => by
  unfold kidx
  split
  · rename_i h
    rw [h]
    exact index_str k.1 hk.1 w hL
  · rename_i h
    exact index_sym k.1 k.2 (by simpa using h) w
theorem sym_nok (k : KV) (h : k.2 = 0) (w : World) : Calls Tryz.prog 125 #[.agg #[.string k.1, .int .i64 k.2]] w fun e w' => e = .returned (.bool false) ∧ Below w.heap.size w w' := by
  rw [h]
  exact sym_no k.1 w
theorem blk_lt {w : World} {g i : Nat} {v : Value} (h : w.cell? ⟨g, i, none⟩ = some v) : g < w.heap.size := World.block_lt_of_cell? w ⟨g, i, none⟩ h
theorem rise_mem (l : List Int) (n : Int) : n ∈ rise l ↔ n ∈ l := (List.mergeSort_perm l _).mem_iff
theorem rise_bd (l : List KV) : ∀ n ∈ rise (idxs l), 0 ≤ n ∧ n ≤ 4294967294 := fun n hn => by
  obtain ⟨k, _, hk⟩ := List.mem_filterMap.1 ((rise_mem _ _).1 hn)
  have := idxF_some (kidx_some hk).2
  exact ⟨this.1, this.2.1⟩
def OrdPost (ks : List KV) (w : World) (e : Ending) (w' : World) : Prop := ∃ v, e = .returned v ∧ w'.ownsRow (w.heap.size + 1) 32 2 v (ordF ks).length (cellsK (ordF ks)) ∧ Below w.heap.size w w'
def TextIs (n : Int) : Prop := ∀ w, Lw w → Calls Tryz.prog 172 #[.int .i64 n] w fun e w' => e = .returned (.string (kb n)) ∧ Below w.heap.size w w'
theorem TextIs.at {n : Int} (h : TextIs n) {w : World} (hL : Lw w) : Calls Tryz.prog 172 #[.int .i64 n] w fun e w' => e = .returned (.string (kb n)) ∧ Below w.heap.size w w' := h w hL
def KeysAt (ao : Option Addr) (ks : List KV) (w : World) : Prop := ∀ j k, ks[j]? = some k → ∃ b off, ao = some ⟨b, off, none⟩ ∧ b < w.heap.size ∧ w.cell? ⟨b, off + j * 2, none⟩ = some (.string k.1) ∧ w.cell? ⟨b, off + j * 2 + 1, none⟩ = some (.int .i64 k.2)
theorem keysAt_own {w : World} {base : Nat} {ao : Option Addr} {cp : Nat} {ks : List KV} (h : w.ownsRow base 32 2 (.slice ao ks.length cp) ks.length (cellsK ks)) : KeysAt ao ks w := fun j k hk => by
  have hj : j < ks.length := (List.getElem?_eq_some_iff.1 hk).1
  rcases h.2 with ⟨_, hn⟩ | ⟨g, cap, cur, hv, hb, hg, _⟩
  · omega
  · simp only [Value.slice.injEq] at hv
    obtain ⟨rfl, -, rfl⟩ := hv
    obtain ⟨e0, e1⟩ := cellsK_at ks j k hk
    exact ⟨g, 0, rfl, (Array.getElem?_eq_some_iff.1 hg).1, by rw [h.cellAt _ (by omega), ← e0]; congr 1; omega, by rw [h.cellAt _ (by omega), ← e1]; congr 1; omega⟩
set_option maxRecDepth 100000 in
set_option maxHeartbeats 1000000 in
theorem order_any (ao : Option Addr) (cap : Nat) (ks : List KV) (w : World) (hL : Lw w) (hlen : ks.length ≤ 1000000) (hc : KeysAt ao ks w) (hf : ∀ k ∈ ks, Fine k) :
    Calls Tryz.prog 139 #[.slice ao ks.length cap] w (OrdPost ks w) := by
  have hmm := fun (n : Int) (w : World) => make_map Tryz.underlying238 .i64 n w
  obtain ⟨i3, hi3, hz30, hz31, hz32⟩ := info_parts info3
  obtain ⟨i26, hi26, hz260, hz261, hz262⟩ := info_parts info26
  have HC := Lib.hid hc
  have HF := Lib.hid hf
  clear hc hf
  go_enter Tryz.func139, Tryz.ntmps139
  go_wp2
  clear hmm
  go_loopw [3, 4, 5, 21] (fun v3 v4 v5 i wr => ∃ j : Nat, j ≤ ks.length ∧ i = .int .i64 j ∧ OrdInv w ks j v3 v4 v5 wr) (fun _ _ _ i _ => ks.length - (intOf i).toNat)
  case atStart => exact ⟨0, Nat.zero_le _, rfl, OrdInv.start w ks⟩
  case round =>
    obtain ⟨j, hj, rfl, hinv⟩ := hrel
    by_cases hlt : j < ks.length
    · obtain ⟨k, hk⟩ : ∃ k, ks[j]? = some k := ⟨ks[j], by simp [hlt]⟩
      have hlt2 : (j : Int) < ks.length := by omega
      obtain ⟨b, off, rfl, hb, c0, c1⟩ := HC.out j k hk
      have hb2 := hinv.below
      rw [← hb2.cell (p := ⟨b, off + j * 2, none⟩) hb] at c0
      rw [← hb2.cell (p := ⟨b, off + j * 2 + 1, none⟩) hb] at c1
      have hkf := HF.out k (List.mem_of_getElem? hk)
      have hkey := hkf.key
      have hown := hinv.map
      have hix := index_key k hkf
      have hol := once_len hj
      have hil := idxs_len (once (ks.take j))
      have hws := hinv.size
      cases hm : memb k (once (ks.take j)) with
      | true =>
        have hh : Maps.has (SetK (once (ks.take j))) (klit k) = true := by
          rw [has_set (fun x hx => HF.out x (List.mem_of_mem_take ((once_mem _ x).1 hx))) hkf, hm]
        have HK := Lib.hid hk
        have HM := Lib.hid hm
        clear hk hm hb2
        go_wp2_with (at_lookup; refine wpList_lookup_own_unit _ rfl _ _ 238 rfl 32 239 law26 Tryz.underlying238 (zero36 _) w.heap.size j _ rfl (hown.alloc _) _ _ rfl hkey ?_; rw [hh])
        go_roundw
        case rel => exact ⟨j + 1, by omega, by go_num, OrdInv.old hinv HK.out HM.out⟩
        case measure => simp [intOf]; omega
      | false =>
        have hh : Maps.has (SetK (once (ks.take j))) (klit k) = false := by
          rw [has_set (fun x hx => HF.out x (List.mem_of_mem_take ((once_mem _ x).1 hx))) hkf, hm]
        have HK := Lib.hid hk
        have HM := Lib.hid hm
        have HL := Lib.hid hL
        clear hk hm hb2
        rcases sort3 k with ⟨n, hs⟩ | ⟨hs, hs0⟩ | ⟨hs, hs0⟩
        · rw [hs] at hix
          have HS := Lib.hid hs
          clear hs hkf
          go_wp2_with (first
            | (at_lookup; refine wpList_lookup_own_unit _ rfl _ _ 238 rfl 32 239 law26 Tryz.underlying238 (zero36 _) w.heap.size j _ rfl (hown.alloc _) _ _ rfl hkey ?_; rw [hh])
            | (at_mapUpdate; refine wpList_mapUpdate_own _ rfl _ _ _ 238 rfl 32 239 law26 Tryz.underlying238 (unitElem (H := Unit)) w.heap.size j _ rfl ((hown.alloc _).alloc _) (by unfold maxLen; omega) _ _ _ rfl rfl hkey _ [] unitElem_mk ?_; intro w1 hown1 hgrow1; refine Hid.out ?_))
          refine Lib.hid ?_
          have hmid := hinv.mid HK.out HM.out hown1 hgrow1
          have L1 := HL.out.below hmid.below
          obtain ⟨⟨a0, a1⟩, -⟩ := box_cells hgrow1 (by omega) (Below.refl _ w1)
          clear c0 c1 hh hkey hown hown1
          go_wp2_with (go_at_call 87; refine (hix.at L1).mono ?_; rintro e w2 ⟨rfl, hb2⟩; refine Hid.out ?_)
          refine Lib.hid ?_
          obtain ⟨-, ⟨d0, d1⟩⟩ := box_cells hgrow1 (by omega) hb2
          have hmid2 := hmid.next hb2
          have hws2 := hmid2.size
          clear a0 a1 hmid hinv hgrow1 hb2
          have hr := hmid2.r3
          obtain ⟨m, hm⟩ : ∃ m, (idxs (once (ks.take j))).length = m := ⟨_, rfl⟩
          rw [hm] at hr hil
          have HN := Lib.hid hm
          clear hm
          go_wp2_with (at_builtin; refine wpList_append_own _ rfl _ _ 119 rfl (w.heap.size + 1) 3 i3 (.int .i64 0) 1 8 Tryz.underlying119 hi3 hz30 hz31 hz32 rfl (by decide) _ _ _ rfl (hr.alloc _) ⟨w2.heap.size, 0, none⟩ 1 1 [.int .i64 n] rfl rfl (cell_one_new _ _ _) (one_int _) (by unfold maxLen; omega) (by omega) (size_alloc_le _ hws2) ?_; intro v' w3 hown3 hgrow3 _)
          have hinv' := hmid2.idx HK.out HM.out HS.out (by rw [HN.out]; exact hown3) hgrow3
          clear hown3 hgrow3 hmid2 hr
          go_wp2
          go_roundw
          case rel => exact ⟨j + 1, by omega, by go_num, hinv'⟩
          case measure => simp [intOf]; omega
        · have hix2 := hix
          rw [hs0] at hix2
          have hix3 : IdxK k 0 false := hix2
          have HS := Lib.hid hs
          have HS0 := Lib.hid hs0
          clear hix hix2 hs hs0 hkf
          go_wp2_with (first
            | (at_lookup; refine wpList_lookup_own_unit _ rfl _ _ 238 rfl 32 239 law26 Tryz.underlying238 (zero36 _) w.heap.size j _ rfl (hown.alloc _) _ _ rfl hkey ?_; rw [hh])
            | (at_mapUpdate; refine wpList_mapUpdate_own _ rfl _ _ _ 238 rfl 32 239 law26 Tryz.underlying238 (unitElem (H := Unit)) w.heap.size j _ rfl ((hown.alloc _).alloc _) (by unfold maxLen; omega) _ _ _ rfl rfl hkey _ [] unitElem_mk ?_; intro w1 hown1 hgrow1; refine Hid.out ?_))
          refine Lib.hid ?_
          have hmid := hinv.mid HK.out HM.out hown1 hgrow1
          have L1 := HL.out.below hmid.below
          obtain ⟨⟨a0, a1⟩, -⟩ := box_cells hgrow1 (by omega) (Below.refl _ w1)
          clear c0 c1 hh hkey hown hown1
          go_wp2_with (go_at_call 87; refine (hix3.at L1).mono ?_; rintro e w2 ⟨rfl, hb2⟩; refine Hid.out ?_)
          refine Lib.hid ?_
          obtain ⟨-, ⟨d0, d1⟩⟩ := box_cells hgrow1 (by omega) hb2
          have hmid2 := hmid.next hb2
          have hws2 := hmid2.size
          clear a0 a1 hmid hinv hgrow1 hb2
          have L2 := HL.out.below hmid2.below
          go_wp2_with (go_at_call 125; refine (sym_yes k.1 k.2 HS.out _).mono ?_; rintro e w3 ⟨rfl, hb3⟩; refine Hid.out ?_)
          refine Lib.hid ?_
          have e0 := (hb3.cell (p := ⟨wr.heap.size, 0, none⟩) (show wr.heap.size < w2.heap.size from blk_lt d0)).trans d0
          have e1 := (hb3.cell (p := ⟨wr.heap.size, 1, none⟩) (show wr.heap.size < w2.heap.size from blk_lt d0)).trans d1
          have hmid3 := hmid2.next hb3
          have hws3 := hmid3.size
          clear d0 d1 hmid2 hb3 L2
          have hr := hmid3.r5
          obtain ⟨m, hm⟩ : ∃ m, (syms (once (ks.take j))).length = m := ⟨_, rfl⟩
          have hil2 := syms_len (once (ks.take j))
          rw [hm] at hr hil2
          have HN := Lib.hid hm
          clear hm
          go_wp2_with (at_builtin; refine wpList_append_own_at _ rfl _ _ 55 rfl (w.heap.size + 1) 32 i26 (.agg #[.string ⟨#[]⟩, .int .i64 0]) 2 24 Tryz.underlying55 hi26 hz260 hz261 hz262 rfl (by decide) _ _ _ rfl (hr.alloc _) ⟨w3.heap.size, 0, none⟩ 1 1 [.string k.1, .int .i64 k.2] rfl rfl (two_new _ _ _ _) (two_cells _ _) (by unfold maxLen; omega) (by omega) (size_alloc_le _ hws3) ?_; intro v' w4 hown4 hgrow4 _ hat4)
          have hinv' := hmid3.sym HK.out HM.out HS.out HS0.out (by rw [HN.out]; exact hown4) hgrow4 hat4
          clear hown4 hgrow4 hat4 hmid3 hr
          go_wp2
          go_roundw
          case rel => exact ⟨j + 1, by omega, by go_num, hinv'⟩
          case measure => simp [intOf]; omega
        · have hix2 := hix
          rw [show kidx k = none by rw [kidx, if_pos hs, hs0]] at hix2
          have hix3 : IdxK k 0 false := hix2
          have HS := Lib.hid hs
          have HS0 := Lib.hid hs0
          clear hix hix2 hs hs0 hkf
          go_wp2_with (first
            | (at_lookup; refine wpList_lookup_own_unit _ rfl _ _ 238 rfl 32 239 law26 Tryz.underlying238 (zero36 _) w.heap.size j _ rfl (hown.alloc _) _ _ rfl hkey ?_; rw [hh])
            | (at_mapUpdate; refine wpList_mapUpdate_own _ rfl _ _ _ 238 rfl 32 239 law26 Tryz.underlying238 (unitElem (H := Unit)) w.heap.size j _ rfl ((hown.alloc _).alloc _) (by unfold maxLen; omega) _ _ _ rfl rfl hkey _ [] unitElem_mk ?_; intro w1 hown1 hgrow1; refine Hid.out ?_))
          refine Lib.hid ?_
          have hmid := hinv.mid HK.out HM.out hown1 hgrow1
          have L1 := HL.out.below hmid.below
          obtain ⟨⟨a0, a1⟩, -⟩ := box_cells hgrow1 (by omega) (Below.refl _ w1)
          clear c0 c1 hh hkey hown hown1
          go_wp2_with (go_at_call 87; refine (hix3.at L1).mono ?_; rintro e w2 ⟨rfl, hb2⟩; refine Hid.out ?_)
          refine Lib.hid ?_
          obtain ⟨-, ⟨d0, d1⟩⟩ := box_cells hgrow1 (by omega) hb2
          have hmid2 := hmid.next hb2
          have hws2 := hmid2.size
          clear a0 a1 hmid hinv hgrow1 hb2
          have L2 := HL.out.below hmid2.below
          go_wp2_with (go_at_call 125; refine (sym_nok k HS.out _).mono ?_; rintro e w3 ⟨rfl, hb3⟩; refine Hid.out ?_)
          refine Lib.hid ?_
          have e0 := (hb3.cell (p := ⟨wr.heap.size, 0, none⟩) (show wr.heap.size < w2.heap.size from blk_lt d0)).trans d0
          have e1 := (hb3.cell (p := ⟨wr.heap.size, 1, none⟩) (show wr.heap.size < w2.heap.size from blk_lt d0)).trans d1
          have hmid3 := hmid2.next hb3
          have hws3 := hmid3.size
          clear d0 d1 hmid2 hb3 L2
          have hr := hmid3.r4
          obtain ⟨m, hm⟩ : ∃ m, (names (once (ks.take j))).length = m := ⟨_, rfl⟩
          have hil2 := names_len (once (ks.take j))
          rw [hm] at hr hil2
          have HN := Lib.hid hm
          clear hm
          go_wp2_with (at_builtin; refine wpList_append_own_at _ rfl _ _ 55 rfl (w.heap.size + 1) 32 i26 (.agg #[.string ⟨#[]⟩, .int .i64 0]) 2 24 Tryz.underlying55 hi26 hz260 hz261 hz262 rfl (by decide) _ _ _ rfl (hr.alloc _) ⟨w3.heap.size, 0, none⟩ 1 1 [.string k.1, .int .i64 k.2] rfl rfl (two_new _ _ _ _) (two_cells _ _) (by unfold maxLen; omega) (by omega) (size_alloc_le _ hws3) ?_; intro v' w4 hown4 hgrow4 _ hat4)
          have hinv' := hmid3.name HK.out HM.out HS.out HS0.out (by rw [HN.out]; exact hown4) hgrow4 hat4
          clear hown4 hgrow4 hat4 hmid3 hr
          go_wp2
          go_roundw
          case rel => exact ⟨j + 1, by omega, by go_num, hinv'⟩
          case measure => simp [intOf]; omega
    · obtain rfl : j = ks.length := by omega
      have HL := Lib.hid hL
      clear hlt hj
      have htk : ks.take ks.length = ks := List.take_length
      have hol := once_length ks
      have hil := idxs_len (once ks)
      have hnl := names_len (once ks)
      have hyl := syms_len (once ks)
      have r3 := hinv.r3
      rw [htk] at r3
      have hsort := sort_own _ _ _ _ r3 (by omega)
      have hbd : ∀ n ∈ rise (idxs (once ks)), 0 ≤ n ∧ n ≤ 4294967294 := rise_bd (once ks)
      obtain ⟨S, hS⟩ : ∃ S, rise (idxs (once ks)) = S := ⟨_, rfl⟩
      have hSl : (idxs (once ks)).length = S.length := by rw [← hS, rise_length]
      rw [hSl, hS] at hsort
      rw [hSl] at r3 hil
      rw [hS] at hbd
      obtain ⟨a3, c3, rfl⟩ := own_shape r3
      have HS := Lib.hid hS
      have HSL := Lib.hid hSl
      have HTK := Lib.hid htk
      have HB := Lib.hid hbd
      clear r3 hS hSl htk hbd
      go_wp2_with (go_at_call 176; refine hsort.mono ?_; rintro e w1 ⟨rfl, hown1, hgrow1⟩; refine Hid.out ?_)
      refine Lib.hid ?_
      have hso := hinv.sorted (by rw [HTK.out, HSL.out, HS.out]; exact hown1) hgrow1
      rw [HTK.out] at hso
      obtain ⟨g1, g2, g3, g4, g5⟩ := hso
      have hmz := g1.size_le
      clear hinv hgrow1 hsort
      obtain ⟨N, hN⟩ : ∃ N, names (once ks) = N := ⟨_, rfl⟩
      obtain ⟨Y, hY⟩ : ∃ Y, syms (once ks) = Y := ⟨_, rfl⟩
      rw [hN] at g2 hnl
      rw [hY] at g3 hyl
      have HN := Lib.hid hN
      have HY := Lib.hid hY
      clear hN hY
      obtain ⟨c, hcz⟩ : ∃ c, Maps.size (SetK (once ks)) = c := ⟨_, rfl⟩
      rw [hcz] at hmz
      go_wp2_with (at_len; refine wpList_len_own _ rfl _ 238 rfl 32 239 Tryz.underlying238 _ _ _ _ rfl g1 ?_; rw [hcz]; clear hcz g1; refine Hid.out ?_)
      refine Lib.hid ?_
      go_wp2_with (at_make; refine wpList_make_own _ rfl _ _ 55 rfl (w.heap.size + 1) 32 i26 (.agg #[.string ⟨#[]⟩, .int .i64 0]) 2 Tryz.underlying55 hi26 hz260 hz261 _ _ _ c rfl rfl (by omega) (by rw [hz262]; omega) (by unfold maxLen; omega) g5 ?_; intro w2 hown2 hgrow2; refine Hid.out ?_)
      refine Lib.hid ?_
      have hout := OutInv.start hown1 g2 g3 g4 g5 hown2 hgrow2
      clear hown1 g2 g3 g4 g5 hown2 hgrow2
      go_wp2
      go_loopw [13, 63] (fun vo i wr => ∃ j : Nat, j ≤ S.length ∧ i = .int .i64 j ∧ OutInv w S N Y j vo (.slice a3 S.length c3) u4 u5 wr) (fun _ i _ => S.length - (intOf i).toNat)
      case atStart => exact ⟨0, Nat.zero_le _, rfl, hout⟩
      case round =>
        clear hout
        obtain ⟨j, hj, rfl, hout⟩ := hrel
        have hrs := hout.size
        by_cases hlt : j < S.length
        · obtain ⟨n, hn⟩ : ∃ n, S[j]? = some n := ⟨S[j], by simp [hlt]⟩
          have hlt2 : (j : Int) < S.length := by omega
          have hnb := HB.out n (List.mem_of_getElem? hn)
          have ht : TextIs n := fun w hL => text_any n (by omega) (by omega) w hL
          obtain ⟨g, hg, hcell⟩ := own_at hout.r3 (k := j) (u := .int .i64 n) (by simp [ints, hn])
          subst hg
          have HN2 := Lib.hid hn
          have LR := HL.out.below hout.below
          clear hn
          go_wp2_with (go_at_call 172; (with_reducible refine (ht.at LR).mono ?_); rintro e w5 ⟨rfl, hb5⟩; refine Hid.out ?_)
          refine Lib.hid ?_
          have hout2 := hout.next hb5
          have hr := hout2.out
          obtain ⟨m, hm⟩ : ∃ m, (numK (S.take j)).length = m := ⟨_, rfl⟩
          have hmj : m ≤ j := by rw [← hm, numK_length, List.length_take]; omega
          rw [hm] at hr
          have HM := Lib.hid hm
          have hrs2 := hout2.size
          clear hm hcell hout hb5
          go_wp2_with (at_builtin; refine wpList_append_own_at _ rfl _ _ 55 rfl (w.heap.size + 1) 32 i26 (.agg #[.string ⟨#[]⟩, .int .i64 0]) 2 24 Tryz.underlying55 hi26 hz260 hz261 hz262 rfl (by decide) _ _ _ rfl (hr.alloc _) ⟨w5.heap.size, 0, none⟩ 1 1 [.string (kb n), .int .i64 0] rfl rfl (two_new _ _ _ _) (two_cells _ _) (by unfold maxLen; omega) (by omega) (size_alloc_le _ hrs2) ?_; intro v' w6 hown6 hgrow6 _ hat6)
          have hout3 := hout2.step HN2.out HM.out hown6 hgrow6 hat6
          clear hown6 hgrow6 hat6 hout2 hr
          go_wp2
          go_roundw
          case rel => exact ⟨j + 1, by omega, by go_num, hout3⟩
          case measure => simp [intOf]; omega
        · obtain rfl : j = S.length := by omega
          clear hlt hj
          obtain ⟨h1, h2, h3, h4, h5, h6, h7, h8⟩ := hout
          rw [List.take_length, numK_length] at h1
          go_wp2_with (at_builtin; refine wpList_append_src rfl _ _ 55 rfl (w.heap.size + 1) 32 i26 (.agg #[.string ⟨#[]⟩, .int .i64 0]) 2 24 Tryz.underlying55 hi26 hz260 hz261 hz262 rfl (by decide) _ _ _ rfl h1 _ _ _ _ rfl h3 (cellsK_one' _) (by unfold maxLen; omega) (by omega) h8 ?_; intro v6 w6 hown6 hgrow6 _; refine Hid.out ?_)
          refine Lib.hid ?_
          have h4' := h4.kept hgrow6 h6
          have hb6 := h7.grown hgrow6 (by omega) (fun k hk => by have := (h1.lt k hk).1; omega)
          have hs6 := Nat.le_trans h8 hgrow6.size
          clear h1 h3 h4 h5 h6 h7 hgrow6
          go_wp2_with (at_builtin; refine wpList_append_src rfl _ _ 55 rfl (w.heap.size + 1) 32 i26 (.agg #[.string ⟨#[]⟩, .int .i64 0]) 2 24 Tryz.underlying55 hi26 hz260 hz261 hz262 rfl (by decide) _ _ _ rfl hown6 _ _ _ _ rfl h4' (cellsK_one' _) (by unfold maxLen; omega) (by omega) hs6 ?_; intro v7 w7 hown7 hgrow7 _; refine Hid.out ?_)
          refine Lib.hid ?_
          have hb7 := hb6.grown hgrow7 (by omega) (fun k hk => by have := (hown6.lt k hk).1; omega)
          clear hown6 hgrow7 hb6 h4'
          go_wp2
          go_ret
          refine ⟨v7, rfl, ?_, hb7⟩
          rw [ordF_eq, HS.out, HN.out, HY.out, cellsK_append, cellsK_append, List.length_append, List.length_append, numK_length]
          exact hown7
end Go.Proofs.YtphaefkaeinngaaGreatDoor.Keys

/-
  values.Truth and Type, and the reference's: what they give, kind by kind.
-/
namespace Go.Proofs.YtphaefkaeinngaaGreatDoor.Vals
open Go.RowKit Go.Proofs.YtphaefkaeinngaaGreatDoor.Nums
set_option linter.unusedVariables false
theorem ball (w : World) (o : Obj) : Below w.heap.size w (w.alloc o) := (Below.refl _ _).alloc (Nat.le_refl _) _
end Go.Proofs.YtphaefkaeinngaaGreatDoor.Vals

/-
  Plain mathematics of chapter 1: bytes, code points and 16-bit units; nothing here speaks of the program.
-/
namespace Go.Proofs.YtphaefkaeinngaaGreatDoor.Uni
def B (s : ByteArray) (k : Nat) : Nat := (s.data.toList[k]?.getD 0).toNat
end Go.Proofs.YtphaefkaeinngaaGreatDoor.Uni

/-
  The small functions of package units: what each call gives.
-/
namespace Go.Proofs.YtphaefkaeinngaaGreatDoor.Uni
open Go.RowKit
set_option linter.unusedVariables false
def wd (p : Nat) : Nat := if p < 65536 then 1 else 2
end Go.Proofs.YtphaefkaeinngaaGreatDoor.Uni

/-
  units.points: what it gives for whatever visitor keeps its own invariant.
-/
namespace Go.Proofs.YtphaefkaeinngaaGreatDoor.Uni
open Go.RowKit
set_option linter.unusedVariables false
end Go.Proofs.YtphaefkaeinngaaGreatDoor.Uni

/-
  units.Of, units.Right and units.Len, by their visitors.
-/
namespace Go.Proofs.YtphaefkaeinngaaGreatDoor.Uni
open Go.RowKit
set_option linter.unusedVariables false
end Go.Proofs.YtphaefkaeinngaaGreatDoor.Uni

/-
  units.Len by its visitor.
-/
namespace Go.Proofs.YtphaefkaeinngaaGreatDoor.Uni
open Go.RowKit
set_option linter.unusedVariables false
end Go.Proofs.YtphaefkaeinngaaGreatDoor.Uni

/-
  Plain mathematics of a code point's decoding by the reference's steps.
-/
namespace Go.Proofs.YtphaefkaeinngaaGreatDoor.Uni
def acc (s : ByteArray) (i c0 : Nat) : Nat → Nat
  | 0 => c0
  | 1 => c0
  | k + 2 => acc s i c0 (k + 1) * 64 + B s (i + (k + 1)) % 64
end Go.Proofs.YtphaefkaeinngaaGreatDoor.Uni

/-
  understudyref1.point: what it gives.
-/
namespace Go.Proofs.YtphaefkaeinngaaGreatDoor.Uni
open Go.RowKit
set_option linter.unusedVariables false
end Go.Proofs.YtphaefkaeinngaaGreatDoor.Uni

/-
  understudyref1.points, RightText and Units: what they give.
-/
namespace Go.Proofs.YtphaefkaeinngaaGreatDoor.Uni
open Go.RowKit
set_option linter.unusedVariables false
end Go.Proofs.YtphaefkaeinngaaGreatDoor.Uni

/-
  understudyref1.RightText and Units.
-/
namespace Go.Proofs.YtphaefkaeinngaaGreatDoor.Uni
open Go.RowKit
set_option linter.unusedVariables false
end Go.Proofs.YtphaefkaeinngaaGreatDoor.Uni

/-
  values.Right and the reference's RightValue: what they give.
-/
namespace Go.Proofs.YtphaefkaeinngaaGreatDoor.Vals
open Go.RowKit Go.Proofs.YtphaefkaeinngaaGreatDoor.Nums Go.Proofs.YtphaefkaeinngaaGreatDoor.Uni
set_option linter.unusedVariables false
end Go.Proofs.YtphaefkaeinngaaGreatDoor.Vals

/-
  Descriptors: their shape, a whole one read out of and laid into memory, and '==' of two.
-/
namespace Go.Proofs.YtphaefkaeinngaaGreatDoor.Des
open Go.RowKit Go.Proofs.YtphaefkaeinngaaGreatDoor.Vals
set_option linter.unusedVariables false
set_option linter.unusedSimpArgs false
theorem two_bels (w : World) (a b : Obj) : Below w.heap.size w ((w.alloc a).alloc b) := ((Below.refl _ _).alloc (Nat.le_refl _) _).alloc (by simp) _
theorem three_bels (w : World) (a b c : Obj) : Below w.heap.size w (((w.alloc a).alloc b).alloc c) := (((Below.refl _ _).alloc (Nat.le_refl _) _).alloc (by simp) _).alloc (by simp; omega) _
theorem below_dn {B : Nat} {a w : World} (h : Below B a w) (n : Nat) : Below B a (w.drewN n) := h.trans ⟨rfl, rfl, rfl, Nat.le_refl _, fun _ _ => rfl⟩
theorem n2 (n : Nat) : (n + 1 + 1 = n) = False := by simp only [eq_iff_iff, iff_false]; omega
theorem n3 (n : Nat) : (n + 1 + 1 + 1 = n) = False := by simp only [eq_iff_iff, iff_false]; omega
theorem m2 (n : Nat) : (n = n + 1 + 1) = False := by simp only [eq_iff_iff, iff_false]; omega
theorem m3 (n : Nat) : (n = n + 1 + 1 + 1) = False := by simp only [eq_iff_iff, iff_false]; omega
theorem bel_keep {w0 w w' : World} (hb : Below w.heap.size w w') (h : Below w0.heap.size w0 w) : Below w0.heap.size w0 w' := h.trans (hb.mono h.size)
theorem bel_drew {B : Nat} {a w : World} (h : Below B a w) : Below B a w.drew := h.drew
structure Vl where
  k : Int
  n : Int
  s : ByteArray
structure Ds where
  hv : Bool
  hg : Bool
  hs : Bool
  hw : Bool
  he : Bool
  hc : Bool
  v : Vl
  g : Vl
  s : Vl
  w : Bool
  e : Bool
  c : Bool
def dcs (d : Ds) : Array Value := #[.bool d.hv, .bool d.hg, .bool d.hs, .bool d.hw, .bool d.he, .bool d.hc, .int .i64 d.v.k, .int .i64 d.v.n, .string d.v.s, .int .i64 d.g.k, .int .i64 d.g.n, .string d.g.s, .int .i64 d.s.k, .int .i64 d.s.n, .string d.s.s, .bool d.w, .bool d.e, .bool d.c]
abbrev DV (d : Ds) : Value := .agg (dcs d)
abbrev VV (v : Vl) : Value := .agg #[.int .i64 v.k, .int .i64 v.n, .string v.s]
def zeroV : Vl := ⟨0, 0, ⟨#[]⟩⟩
def zeroD : Ds := ⟨false, false, false, false, false, false, zeroV, zeroV, zeroV, false, false, false⟩
theorem dcs_0 (d : Ds) : (dcs d)[0]? = some (.bool d.hv) := rfl
theorem dcs_1 (d : Ds) : (dcs d)[1]? = some (.bool d.hg) := rfl
theorem dcs_2 (d : Ds) : (dcs d)[2]? = some (.bool d.hs) := rfl
theorem dcs_3 (d : Ds) : (dcs d)[3]? = some (.bool d.hw) := rfl
theorem dcs_4 (d : Ds) : (dcs d)[4]? = some (.bool d.he) := rfl
theorem dcs_5 (d : Ds) : (dcs d)[5]? = some (.bool d.hc) := rfl
theorem dcs_6 (d : Ds) : (dcs d)[6]? = some (.int .i64 d.v.k) := rfl
theorem dcs_7 (d : Ds) : (dcs d)[7]? = some (.int .i64 d.v.n) := rfl
theorem dcs_8 (d : Ds) : (dcs d)[8]? = some (.string d.v.s) := rfl
theorem dcs_9 (d : Ds) : (dcs d)[9]? = some (.int .i64 d.g.k) := rfl
theorem dcs_10 (d : Ds) : (dcs d)[10]? = some (.int .i64 d.g.n) := rfl
theorem dcs_11 (d : Ds) : (dcs d)[11]? = some (.string d.g.s) := rfl
theorem dcs_12 (d : Ds) : (dcs d)[12]? = some (.int .i64 d.s.k) := rfl
theorem dcs_13 (d : Ds) : (dcs d)[13]? = some (.int .i64 d.s.n) := rfl
theorem dcs_14 (d : Ds) : (dcs d)[14]? = some (.string d.s.s) := rfl
theorem dcs_15 (d : Ds) : (dcs d)[15]? = some (.bool d.w) := rfl
theorem dcs_16 (d : Ds) : (dcs d)[16]? = some (.bool d.e) := rfl
theorem dcs_17 (d : Ds) : (dcs d)[17]? = some (.bool d.c) := rfl
theorem dcs_size (d : Ds) : (dcs d).size = 18 := rfl
theorem dcs_one (d : Ds) : (dcs d).all (·.oneCell') = true := by simp [dcs, Value.oneCell']
theorem dcs_one18 (d : Ds) : (dcs d).all (fun x => x.oneCell') 0 18 = true := dcs_one d
theorem one_b (b : Bool) : (Value.bool b).oneCell' = true := rfl
theorem one_i (k : IntKind) (n : Int) : (Value.int k n).oneCell' = true := rfl
theorem one_s (s : ByteArray) : (Value.string s).oneCell' = true := rfl
def objRow : Obj → Option (Array Value)
  | .cells cs _ fz => if cs.size = 18 ∧ fz = (0, 0) then some cs else none
  | _ => none
def rowD (w : World) (g : Nat) : Option (Array Value) := (w.heap[g]?).bind objRow
theorem objRow_some {o : Obj} {cs : Array Value} (h : objRow o = some cs) : ∃ t, o = .cells cs t (0, 0) ∧ cs.size = 18 := by
  unfold objRow at h
  split at h
  · split at h
    · rename_i h2
      obtain ⟨h2, rfl⟩ := h2
      simp at h
      subst h
      exact ⟨_, rfl, h2⟩
    · cases h
  · cases h
theorem objRow_cells (cs : Array Value) (t : TypeId) (h : cs.size = 18) : objRow (.cells cs t) = some cs := by unfold objRow; simp [h]
theorem rowD_some {w : World} {g : Nat} {cs : Array Value} (h : rowD w g = some cs) : ∃ t, w.heap[g]? = some (.cells cs t (0, 0)) ∧ cs.size = 18 := by
  unfold rowD at h
  cases hg : w.heap[g]? with
  | none => rw [hg] at h; cases h
  | some o =>
    rw [hg] at h
    obtain ⟨t, rfl, hs⟩ := objRow_some h
    exact ⟨t, rfl, hs⟩
theorem rowD_is {w : World} {g : Nat} (h : (rowD w g).isSome = true) : ∃ cs t, rowD w g = some cs ∧ w.heap[g]? = some (.cells cs t (0, 0)) ∧ cs.size = 18 := by
  obtain ⟨cs, hc⟩ := Option.isSome_iff_exists.1 h
  obtain ⟨t, ht, hs⟩ := rowD_some hc
  exact ⟨cs, t, hc, ht, hs⟩
theorem rowD_lt {w : World} {g : Nat} (h : (rowD w g).isSome = true) : g < w.heap.size := by
  obtain ⟨cs, t, hc, ht, hs⟩ := rowD_is h
  exact (Array.getElem?_eq_some_iff.1 ht).1
theorem rowD_drew (w : World) (g : Nat) : rowD w.drew g = rowD w g := (rfl)
theorem rowD_drewN (w : World) (n g : Nat) : rowD (w.drewN n) g = rowD w g := (rfl)
theorem rowD_new (w : World) (o : Obj) (g : Nat) (h : w.heap.size = g) : rowD (w.alloc o) g = objRow o := by
  subst h
  unfold rowD
  rw [heap_alloc_new]
  rfl
theorem rowD_alloc (w : World) (o : Obj) (g : Nat) : rowD (w.alloc o) g = if w.heap.size = g then objRow o else rowD w g := by
  split
  · rename_i h
    exact rowD_new w o g h
  · rename_i h
    unfold rowD World.alloc
    simp only [Array.getElem?_push]
    rw [if_neg (fun e => h e.symm)]
theorem objRow_lit (a0 a1 a2 a3 a4 a5 a6 a7 a8 a9 a10 a11 a12 a13 a14 a15 a16 a17 : Value) (t : TypeId) : objRow (.cells #[a0, a1, a2, a3, a4, a5, a6, a7, a8, a9, a10, a11, a12, a13, a14, a15, a16, a17] t) = some #[a0, a1, a2, a3, a4, a5, a6, a7, a8, a9, a10, a11, a12, a13, a14, a15, a16, a17] := rfl
theorem objRow_dcs (d : Ds) (t : TypeId) : objRow (.cells (dcs d) t) = some (dcs d) := objRow_cells _ _ rfl
theorem rowD_keep {w w' : World} {B g : Nat} {cs : Array Value} (hb : Below B w w') (hg : g < B) (h : rowD w g = some cs) : rowD w' g = some cs := by
  unfold rowD at *
  rw [hb.block g hg]
  exact h
theorem rowD_call {w w' : World} {g : Nat} {cs : Array Value} (hb : Below w.heap.size w w') (h : rowD w g = some cs) : rowD w' g = some cs :=
  rowD_keep hb (rowD_lt (by rw [h]; rfl)) h
theorem is_call {w w' : World} {g : Nat} (hb : Below w.heap.size w w') (h : (rowD w g).isSome = true) : (rowD w' g).isSome = true := by
  obtain ⟨cs, hc⟩ := Option.isSome_iff_exists.1 h
  rw [rowD_call hb hc]
  rfl
def putD (w : World) (g : Nat) (cs : Array Value) : World := w.setRow g cs
theorem putD_drew (w : World) (g : Nat) (cs : Array Value) : putD w.drew g cs = (putD w g cs).drew := (rfl)
theorem putD_drewN (w : World) (n g : Nat) (cs : Array Value) : putD (w.drewN n) g cs = (putD w g cs).drewN n := (rfl)
theorem putD_size (w : World) (g : Nat) (cs : Array Value) : (putD w g cs).heap.size = w.heap.size := by simp [putD, World.setRow]
def setObj (o : Obj) (cs : Array Value) : Obj := match o with | .cells _ t fz => .cells cs t fz | o => o
theorem setObj_cells (c cs : Array Value) (t : TypeId) (fz : Nat × Nat) : setObj (.cells c t fz) cs = .cells cs t fz := rfl
theorem putD_alloc (w : World) (o : Obj) (g : Nat) (cs : Array Value) : putD (w.alloc o) g cs = if w.heap.size = g then w.alloc (setObj o cs) else (putD w g cs).alloc o := by
  unfold putD World.setRow World.alloc
  split
  · rename_i h
    subst h
    simp only
    congr 1
    apply Array.ext_getElem?
    intro i
    rw [Array.getElem?_modify]
    by_cases h : w.heap.size = i
    · subst h
      simp only [if_true, Array.getElem?_push, Option.map_some]
      cases o <;> rfl
    · have h' : ¬ i = w.heap.size := fun e => h e.symm
      simp [h, h', Array.getElem?_push]
  · rename_i h
    simp only
    congr 1
    apply Array.ext_getElem?
    intro i
    simp only [Array.getElem?_modify, Array.getElem?_push, Array.size_modify]
    by_cases h1 : g = i
    · subst h1
      rw [if_pos rfl, if_neg (fun e => h e.symm), if_neg (fun e => h e.symm), if_pos rfl]
    · rw [if_neg h1]
      split
      · rfl
      · rfl
theorem rowD_put (w : World) (g : Nat) (cs : Array Value) (h : (rowD w g).isSome = true) (hs : cs.size = 18) : rowD (putD w g cs) g = some cs := by
  obtain ⟨c, t, hc, ht, hs2⟩ := rowD_is h
  unfold rowD putD World.setRow
  simp only [Array.getElem?_modify]
  rw [if_pos trivial, ht]
  simp [objRow, hs]
theorem rowD_other (w : World) (g g2 : Nat) (cs : Array Value) (h : ¬ g = g2) : rowD (putD w g cs) g2 = rowD w g2 := by
  unfold rowD putD World.setRow
  simp only [Array.getElem?_modify]
  rw [if_neg h]
theorem bel_put {B g : Nat} {w0 w : World} (hb : Below B w0 w) (hBg : B ≤ g) (cs : Array Value) : Below B w0 (putD w g cs) :=
  hb.trans ⟨rfl, rfl, rfl, by simp [putD, World.setRow], fun k hk => by
    unfold putD World.setRow
    simp only [Array.getElem?_modify]
    rw [if_neg (by omega)]⟩
theorem cell_rowD (w : World) (g i : Nat) (h : (rowD w g).isSome = true) : w.cell? ⟨g, i, none⟩ = ((rowD w g).getD #[])[i]? := by
  obtain ⟨cs, t, hc, ht, hs⟩ := rowD_is h
  rw [hc, cell_of_row w g i cs t (0, 0) ht]
  rfl
def ldD (v : Value) : Sem Value := Instr.loadAt 34 v
theorem to_ldD (v : Value) : Instr.loadAt 34 v = ldD v := (rfl)
theorem info18 : (Tryz.prog.info? 34).map (·.size) = some 18 := by kernel_rfl
theorem run_ldD (w : World) (g : Nat) (h : (rowD w g).isSome = true) : (ldD (.pointer (some ⟨g, 0, none⟩))).run Tryz.prog w = .ok (.agg ((rowD w g).getD #[])) w := by
  obtain ⟨cs, t, hc, ht, hs⟩ := rowD_is h
  rw [hc]
  unfold ldD
  simp only [Instr.loadAt, Instr.sureAddr, Sem.run_bind, Sem.run_pure, Result.andThen_ok, run_loadVar_row w g t 34 cs (0, 0) _ ht Tryz.underlying34 rfl (by rw [hs]; exact info18), Option.getD_some]
theorem res_rowD {fn : Func} {p : Tmp} (h : fn.results = #[.cell p 34]) (tmps : Array Value) (w : World) (g : Nat) (cs : Array Value) (hp : tmps.getD p undef = .pointer (some ⟨g, 0, none⟩)) (hr : rowD w g = some cs) :
    (results fn tmps).run Tryz.prog w = .ok (.agg cs) w := by
  obtain ⟨t, ht, hs⟩ := rowD_some hr
  exact results_cell_row h tmps w g t cs (0, 0) _ hp ht Tryz.underlying34 rfl (by rw [hs]; exact info18)
theorem res2_rowD {fn : Func} {p u : Tmp} (h : fn.results = #[.cell p 34, .tmp u]) (tmps : Array Value) (w : World) (g : Nat) (cs : Array Value) (hp : tmps.getD p undef = .pointer (some ⟨g, 0, none⟩)) (hr : rowD w g = some cs) :
    (results fn tmps).run Tryz.prog w = .ok (.tuple #[.agg cs, tmps.getD u undef]) w := by
  obtain ⟨t, ht, hs⟩ := rowD_some hr
  have hv := run_loadVar_row (P := Tryz.prog) w g t 34 cs (0, 0) _ ht Tryz.underlying34 rfl (by rw [hs]; exact info18)
  rw [results_cell_tmp h, hp]
  simp [asAddr, hv, Result.andThen]
def okC (cells : Array Value) : Bool := decide (cells.size = 18) && cells.all (·.oneCell')
theorem okC_dcs (d : Ds) : okC (dcs d) = true := by simp [okC, dcs_size, dcs_one18]
theorem okC_lit (a0 a1 a2 a3 a4 a5 a6 a7 a8 a9 a10 a11 a12 a13 a14 a15 a16 a17 : Value) : okC #[a0, a1, a2, a3, a4, a5, a6, a7, a8, a9, a10, a11, a12, a13, a14, a15, a16, a17] = (a0.oneCell' && a1.oneCell' && a2.oneCell' && a3.oneCell' && a4.oneCell' && a5.oneCell' && a6.oneCell' && a7.oneCell' && a8.oneCell' && a9.oneCell' && a10.oneCell' && a11.oneCell' && a12.oneCell' && a13.oneCell' && a14.oneCell' && a15.oneCell' && a16.oneCell' && a17.oneCell') := by simp [okC, Bool.and_assoc]
def stD (p v : Value) : Sem Unit := Instr.storeAt 34 p v
theorem to_stD (p v : Value) : Instr.storeAt 34 p v = stD p v := (rfl)
theorem rowD_putc (w : World) (g : Nat) (cs : Array Value) (h : (rowD w g).isSome = true) (hs : okC cs = true) : rowD (putD w g cs) g = some cs := by
  simp only [okC, Bool.and_eq_true, decide_eq_true_eq] at hs
  exact rowD_put w g cs h hs.1
theorem run_stD (w : World) (g : Nat) (cells : Array Value) (h : (rowD w g).isSome = true) (h2 : okC cells = true) : (stD (.pointer (some ⟨g, 0, none⟩)) (.agg cells)).run Tryz.prog w = .ok () (putD w g cells) := by
  obtain ⟨cs, t, hc, ht, hs⟩ := rowD_is h
  simp only [okC, Bool.and_eq_true, decide_eq_true_eq] at h2
  obtain ⟨hs2, h1⟩ := h2
  unfold stD
  simp only [Instr.storeAt, Instr.sureAddr, Sem.run_bind, Sem.run_pure, Result.andThen_ok, run_storeVar_row w g t 34 cs cells ht (by rw [hs2]; exact info18) (hs.trans hs2.symm) h1]
  rfl
def eqV (a b : Vl) : Bool := a.k == b.k && (a.n == b.n && a.s.toList == b.s.toList)
def eqD (a b : Ds) : Bool := a.hv == b.hv && (a.hg == b.hg && (a.hs == b.hs && (a.hw == b.hw && (a.he == b.he && (a.hc == b.hc && (eqV a.v b.v && (eqV a.g b.g && (eqV a.s b.s && (a.w == b.w && (a.e == b.e && a.c == b.c))))))))))
theorem tl_inj {a b : ByteArray} (h : a.toList = b.toList) : a = b := by
  rw [ByteArray.toList_eq, ByteArray.toList_eq] at h
  exact ByteArray.ext (Array.toList_inj.1 h)
theorem eqV_iff {a b : Vl} : eqV a b = true ↔ a = b := by
  obtain ⟨ak, an, az⟩ := a
  obtain ⟨bk, bn, bz⟩ := b
  simp only [eqV, Bool.and_eq_true, beq_iff_eq, Vl.mk.injEq]
  exact ⟨fun ⟨h1, h2, h3⟩ => ⟨h1, h2, tl_inj h3⟩, fun ⟨h1, h2, h3⟩ => ⟨h1, h2, by rw [h3]⟩⟩
theorem run_eqV (d : Nat) (k n k2 n2 : Int) (s s2 : ByteArray) (w : World) : (Op.equalIn (d + 2) 30 (.agg #[.int .i64 k, .int .i64 n, .string s]) (.agg #[.int .i64 k2, .int .i64 n2, .string s2])).run Tryz.prog w = .ok (eqV ⟨k, n, s⟩ ⟨k2, n2, s2⟩) w := by
  unfold eqV
  by_cases h1 : k = k2
  · by_cases h2 : n = n2
    · by_cases h3 : s.toList = s2.toList
      · simp [go_sem, h1, h2, h3]
      · simp [go_sem, h1, h2, h3]
    · simp [go_sem, h1, h2]
  · simp [go_sem, h1]
theorem run_eqV0 (k n k2 n2 : Int) (s s2 : ByteArray) (w : World) : (Op.equalIn 10000 30 (.agg #[.int .i64 k, .int .i64 n, .string s]) (.agg #[.int .i64 k2, .int .i64 n2, .string s2])).run Tryz.prog w = .ok (eqV ⟨k, n, s⟩ ⟨k2, n2, s2⟩) w := run_eqV 9998 k n k2 n2 s s2 w
theorem eqf_cons {P : Program} {w : World} {d : Nat} {xs ys : Array Value} {f : Field} {fs : List Field} {a b : Value} {r s : Bool} (hn : f.name ≠ "_") (ha : (part f.type xs f.offset).run P w = .ok a w) (hb : (part f.type ys f.offset).run P w = .ok b w)
    (h : (Op.equalIn d f.type a b).run P w = .ok r w) (ht : (Op.eqFields d xs ys fs).run P w = .ok s w) : (Op.eqFields d xs ys (f :: fs)).run P w = .ok (r && s) w := by
  simp only [Op.eqFields]
  rw [if_pos hn]
  simp only [Sem.run_bind, ha, hb, h, Result.andThen_ok, Sem.run_ite, Sem.run_pure, ht]
  cases r <;> simp
theorem eqf_nil {P : Program} {w : World} {d : Nat} {xs ys : Array Value} : (Op.eqFields d xs ys []).run P w = .ok true w := by simp [Op.eqFields]
theorem run_eqD (a b : Ds) (w : World) : (Op.equalIn 10000 34 (.agg (dcs a)) (.agg (dcs b))).run Tryz.prog w = .ok (eqD a b) w := by
  rw [run_equalIn_struct w 9999 34 _ _ (by kernel_rfl) (by kernel_rfl)]
  simp only [Program.fieldsOf, Tryz.underlying34]
  have e : eqD a b = (a.hv == b.hv && (a.hg == b.hg && (a.hs == b.hs && (a.hw == b.hw && (a.he == b.he && (a.hc == b.hc && (eqV a.v b.v && (eqV a.g b.g && (eqV a.s b.s && (a.w == b.w && (a.e == b.e && (a.c == b.c && true)))))))))))) := by simp only [eqD, Bool.and_true]
  rw [e]
  refine eqf_cons (a := .bool a.hv) (b := .bool b.hv) (by decide) (by simp [go_sem, dcs]) (by simp [go_sem, dcs]) (run_equalIn_bool' w 9998 4 a.hv b.hv Tryz.underlying4) ?_
  refine eqf_cons (a := .bool a.hg) (b := .bool b.hg) (by decide) (by simp [go_sem, dcs]) (by simp [go_sem, dcs]) (run_equalIn_bool' w 9998 4 a.hg b.hg Tryz.underlying4) ?_
  refine eqf_cons (a := .bool a.hs) (b := .bool b.hs) (by decide) (by simp [go_sem, dcs]) (by simp [go_sem, dcs]) (run_equalIn_bool' w 9998 4 a.hs b.hs Tryz.underlying4) ?_
  refine eqf_cons (a := .bool a.hw) (b := .bool b.hw) (by decide) (by simp [go_sem, dcs]) (by simp [go_sem, dcs]) (run_equalIn_bool' w 9998 4 a.hw b.hw Tryz.underlying4) ?_
  refine eqf_cons (a := .bool a.he) (b := .bool b.he) (by decide) (by simp [go_sem, dcs]) (by simp [go_sem, dcs]) (run_equalIn_bool' w 9998 4 a.he b.he Tryz.underlying4) ?_
  refine eqf_cons (a := .bool a.hc) (b := .bool b.hc) (by decide) (by simp [go_sem, dcs]) (by simp [go_sem, dcs]) (run_equalIn_bool' w 9998 4 a.hc b.hc Tryz.underlying4) ?_
  refine eqf_cons (a := VV a.v) (b := VV b.v) (by decide) (by simp [go_sem, dcs]) (by simp [go_sem, dcs]) (run_eqV 9997 a.v.k a.v.n b.v.k b.v.n a.v.s b.v.s w) ?_
  refine eqf_cons (a := VV a.g) (b := VV b.g) (by decide) (by simp [go_sem, dcs]) (by simp [go_sem, dcs]) (run_eqV 9997 a.g.k a.g.n b.g.k b.g.n a.g.s b.g.s w) ?_
  refine eqf_cons (a := VV a.s) (b := VV b.s) (by decide) (by simp [go_sem, dcs]) (by simp [go_sem, dcs]) (run_eqV 9997 a.s.k a.s.n b.s.k b.s.n a.s.s b.s.s w) ?_
  refine eqf_cons (a := .bool a.w) (b := .bool b.w) (by decide) (by simp [go_sem, dcs]) (by simp [go_sem, dcs]) (run_equalIn_bool' w 9998 4 a.w b.w Tryz.underlying4) ?_
  refine eqf_cons (a := .bool a.e) (b := .bool b.e) (by decide) (by simp [go_sem, dcs]) (by simp [go_sem, dcs]) (run_equalIn_bool' w 9998 4 a.e b.e Tryz.underlying4) ?_
  refine eqf_cons (a := .bool a.c) (b := .bool b.c) (by decide) (by simp [go_sem, dcs]) (by simp [go_sem, dcs]) (run_equalIn_bool' w 9998 4 a.c b.c Tryz.underlying4) ?_
  exact eqf_nil
end Go.Proofs.YtphaefkaeinngaaGreatDoor.Des
