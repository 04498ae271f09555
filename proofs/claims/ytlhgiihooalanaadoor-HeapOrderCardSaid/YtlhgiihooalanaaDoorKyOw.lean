/-
  keys.Order: what it gives, at every list of keys.
-/
import Derived.Test.YtlhgiihooalanaaDoorKyOut
import Derived.Laws.OwnMore
namespace Go.Proofs.YtlhgiihooalanaaDoor.Keys
open Go Go.RowKit Go.Maps Go.Proofs.YtlhgiihooalanaaDoor.Nums
set_option linter.unusedVariables false

/-- What a call of Index ends in. -/
def IdxK (k : KV) (n : Int) (ok : Bool) : Prop := ∀ w, Lw w → Calls Tryd.prog 27 #[.agg #[.string k.1, .int .i64 k.2]] w fun e w' => e = .returned (.tuple #[.int .i64 n, .bool ok]) ∧ Below w.heap.size w w'
theorem IdxK.at {k : KV} {n : Int} {ok : Bool} (h : IdxK k n ok) {w : World} (hL : Lw w) : Calls Tryd.prog 27 #[.agg #[.string k.1, .int .i64 k.2]] w fun e w' => e = .returned (.tuple #[.int .i64 n, .bool ok]) ∧ Below w.heap.size w w' := h w hL
theorem index_key (k : KV) (hk : Fine k) : IdxK k ((kidx k).getD 0) (kidx k).isSome := fun w hL => by
  unfold kidx
  split
  · rename_i h
    rw [h]
    exact index_str k.1 hk.1 w hL
  · rename_i h
    exact index_sym k.1 k.2 (by simpa using h) w

theorem sym_nok (k : KV) (h : k.2 = 0) (w : World) : Calls Tryd.prog 28 #[.agg #[.string k.1, .int .i64 k.2]] w fun e w' => e = .returned (.bool false) ∧ Below w.heap.size w w' := by
  rw [h]
  exact sym_no k.1 w
theorem blk_lt {w : World} {g i : Nat} {v : Value} (h : w.cell? ⟨g, i, none⟩ = some v) : g < w.heap.size := World.block_lt_of_cell? w ⟨g, i, none⟩ h
theorem rise_mem (l : List Int) (n : Int) : n ∈ rise l ↔ n ∈ l := (List.mergeSort_perm l _).mem_iff
theorem rise_bd (l : List KV) : ∀ n ∈ rise (idxs l), 0 ≤ n ∧ n ≤ 4294967294 := fun n hn => by
  obtain ⟨k, _, hk⟩ := List.mem_filterMap.1 ((rise_mem _ _).1 hn)
  have := idxF_some (kidx_some hk).2
  exact ⟨this.1, this.2.1⟩
/-- How keys.Order ends: with a new list of the keys in their order. -/
def OrdPost (ks : List KV) (w : World) (e : Ending) (w' : World) : Prop := ∃ v, e = .returned v ∧ w'.ownsRow (w.heap.size + 1) 35 2 v (ordF ks).length (cellsK (ordF ks)) ∧ Below w.heap.size w w'
/-- What a call of Text ends in. -/
def TextIs (n : Int) : Prop := ∀ w, Lw w → Calls Tryd.prog 30 #[.int .i64 n] w fun e w' => e = .returned (.string (kb n)) ∧ Below w.heap.size w w'
theorem TextIs.at {n : Int} (h : TextIs n) {w : World} (hL : Lw w) : Calls Tryd.prog 30 #[.int .i64 n] w fun e w' => e = .returned (.string (kb n)) ∧ Below w.heap.size w w' := h w hL
/-- A slice's cells hold keys. -/
def KeysAt (ao : Option Addr) (ks : List KV) (w : World) : Prop := ∀ j k, ks[j]? = some k → ∃ b off, ao = some ⟨b, off, none⟩ ∧ b < w.heap.size ∧ w.cell? ⟨b, off + j * 2, none⟩ = some (.string k.1) ∧ w.cell? ⟨b, off + j * 2 + 1, none⟩ = some (.int .i64 k.2)
theorem keysAt_own {w : World} {base : Nat} {ao : Option Addr} {cp : Nat} {ks : List KV} (h : w.ownsRow base 35 2 (.slice ao ks.length cp) ks.length (cellsK ks)) : KeysAt ao ks w := fun j k hk => by
  have hj : j < ks.length := (List.getElem?_eq_some_iff.1 hk).1
  rcases h.2 with ⟨_, hn⟩ | ⟨g, cap, cur, hv, hb, hg, _⟩
  · omega
  · simp only [Value.slice.injEq] at hv
    obtain ⟨rfl, -, rfl⟩ := hv
    obtain ⟨e0, e1⟩ := cellsK_at ks j k hk
    exact ⟨g, 0, rfl, (Array.getElem?_eq_some_iff.1 hg).1, by rw [h.cellAt _ (by omega), ← e0]; congr 1; omega, by rw [h.cellAt _ (by omega), ← e1]; congr 1; omega⟩
set_option maxRecDepth 100000 in
set_option maxHeartbeats 1000000 in
theorem order_any (ao : Option Addr) (cap : Nat) (ks : List KV) (w : World) (hL : Lw w) (hlen : ks.length ≤ 1000000) (hc : KeysAt ao ks w) (hf : ∀ k ∈ ks, Fine k) :
    Calls Tryd.prog 18 #[.slice ao ks.length cap] w (OrdPost ks w) := by
  have hmm := fun (n : Int) (w : World) => make_map Tryd.underlying76 .i64 n w
  obtain ⟨i3, hi3, hz30, hz31, hz32⟩ := info_parts info3
  obtain ⟨i26, hi26, hz260, hz261, hz262⟩ := info_parts info26
  have HC := Lib.hid hc
  have HF := Lib.hid hf
  clear hc hf
  go_enter Tryd.func18, Tryd.ntmps18
  go_wp2
  clear hmm
  go_loopw [3, 4, 5, 21] (fun v3 v4 v5 i wr => ∃ j : Nat, j ≤ ks.length ∧ i = .int .i64 j ∧ OrdInv w ks j v3 v4 v5 wr) (fun _ _ _ i _ => ks.length - (intOf i).toNat)
  case atStart => exact ⟨0, Nat.zero_le _, rfl, OrdInv.start w ks⟩
  case round =>
    obtain ⟨j, hj, rfl, hinv⟩ := hrel
    by_cases hlt : j < ks.length
    · obtain ⟨k, hk⟩ : ∃ k, ks[j]? = some k := ⟨ks[j], by simp [hlt]⟩
      have hlt2 : (j : Int) < ks.length := by omega
      obtain ⟨b, off, rfl, hb, c0, c1⟩ := HC.out j k hk
      have hb2 := hinv.below
      rw [← hb2.cell (p := ⟨b, off + j * 2, none⟩) hb] at c0
      rw [← hb2.cell (p := ⟨b, off + j * 2 + 1, none⟩) hb] at c1
      have hkf := HF.out k (List.mem_of_getElem? hk)
      have hkey := hkf.key
      have hown := hinv.map
      have hix := index_key k hkf
      have hol := once_len hj
      have hil := idxs_len (once (ks.take j))
      have hws := hinv.size
      cases hm : memb k (once (ks.take j)) with
      | true =>
        have hh : Maps.has (SetK (once (ks.take j))) (klit k) = true := by
          rw [has_set (fun x hx => HF.out x (List.mem_of_mem_take ((once_mem _ x).1 hx))) hkf, hm]
        have HK := Lib.hid hk
        have HM := Lib.hid hm
        clear hk hm hb2
        go_wp2_with (at_lookup; refine wpList_lookup_own_unit _ rfl _ _ 76 rfl 35 77 law26 Tryd.underlying76 (zero36 _) w.heap.size j _ rfl (hown.alloc _) _ _ rfl hkey ?_; rw [hh])
        go_roundw
        case rel => exact ⟨j + 1, by omega, by go_num, OrdInv.old hinv HK.out HM.out⟩
        case measure => simp [intOf]; omega
      | false =>
        have hh : Maps.has (SetK (once (ks.take j))) (klit k) = false := by
          rw [has_set (fun x hx => HF.out x (List.mem_of_mem_take ((once_mem _ x).1 hx))) hkf, hm]
        have HK := Lib.hid hk
        have HM := Lib.hid hm
        have HL := Lib.hid hL
        clear hk hm hb2
        rcases sort3 k with ⟨n, hs⟩ | ⟨hs, hs0⟩ | ⟨hs, hs0⟩
        · rw [hs] at hix
          have HS := Lib.hid hs
          clear hs hkf
          go_wp2_with (first
            | (at_lookup; refine wpList_lookup_own_unit _ rfl _ _ 76 rfl 35 77 law26 Tryd.underlying76 (zero36 _) w.heap.size j _ rfl (hown.alloc _) _ _ rfl hkey ?_; rw [hh])
            | (at_mapUpdate; refine wpList_mapUpdate_own _ rfl _ _ _ 76 rfl 35 77 law26 Tryd.underlying76 (unitElem (H := Unit)) w.heap.size j _ rfl ((hown.alloc _).alloc _) (by unfold maxLen; omega) _ _ _ rfl rfl hkey _ [] unitElem_mk ?_; intro w1 hown1 hgrow1; refine Hid.out ?_))
          refine Lib.hid ?_
          have hmid := hinv.mid HK.out HM.out hown1 hgrow1
          have L1 := HL.out.below hmid.below
          obtain ⟨⟨a0, a1⟩, -⟩ := box_cells hgrow1 (by omega) (Below.refl _ w1)
          clear c0 c1 hh hkey hown hown1
          go_wp2_with (go_at_call 27; refine (hix.at L1).mono ?_; rintro e w2 ⟨rfl, hb2⟩; refine Hid.out ?_)
          refine Lib.hid ?_
          obtain ⟨-, ⟨d0, d1⟩⟩ := box_cells hgrow1 (by omega) hb2
          have hmid2 := hmid.next hb2
          have hws2 := hmid2.size
          clear a0 a1 hmid hinv hgrow1 hb2
          have hr := hmid2.r3
          obtain ⟨m, hm⟩ : ∃ m, (idxs (once (ks.take j))).length = m := ⟨_, rfl⟩
          rw [hm] at hr hil
          have HN := Lib.hid hm
          clear hm
          go_wp2_with (at_builtin; refine wpList_append_own _ rfl _ _ 75 rfl (w.heap.size + 1) 3 i3 (.int .i64 0) 1 8 Tryd.underlying75 hi3 hz30 hz31 hz32 rfl (by decide) _ _ _ rfl (hr.alloc _) ⟨w2.heap.size, 0, none⟩ 1 1 [.int .i64 n] rfl rfl (cell_one_new _ _ _) (one_int _) (by unfold maxLen; omega) (by omega) (size_alloc_le _ hws2) ?_; intro v' w3 hown3 hgrow3 _)
          have hinv' := hmid2.idx HK.out HM.out HS.out (by rw [HN.out]; exact hown3) hgrow3
          clear hown3 hgrow3 hmid2 hr
          go_wp2
          go_roundw
          case rel => exact ⟨j + 1, by omega, by go_num, hinv'⟩
          case measure => simp [intOf]; omega
        · have hix2 := hix
          rw [hs0] at hix2
          have hix3 : IdxK k 0 false := hix2
          have HS := Lib.hid hs
          have HS0 := Lib.hid hs0
          clear hix hix2 hs hs0 hkf
          go_wp2_with (first
            | (at_lookup; refine wpList_lookup_own_unit _ rfl _ _ 76 rfl 35 77 law26 Tryd.underlying76 (zero36 _) w.heap.size j _ rfl (hown.alloc _) _ _ rfl hkey ?_; rw [hh])
            | (at_mapUpdate; refine wpList_mapUpdate_own _ rfl _ _ _ 76 rfl 35 77 law26 Tryd.underlying76 (unitElem (H := Unit)) w.heap.size j _ rfl ((hown.alloc _).alloc _) (by unfold maxLen; omega) _ _ _ rfl rfl hkey _ [] unitElem_mk ?_; intro w1 hown1 hgrow1; refine Hid.out ?_))
          refine Lib.hid ?_
          have hmid := hinv.mid HK.out HM.out hown1 hgrow1
          have L1 := HL.out.below hmid.below
          obtain ⟨⟨a0, a1⟩, -⟩ := box_cells hgrow1 (by omega) (Below.refl _ w1)
          clear c0 c1 hh hkey hown hown1
          go_wp2_with (go_at_call 27; refine (hix3.at L1).mono ?_; rintro e w2 ⟨rfl, hb2⟩; refine Hid.out ?_)
          refine Lib.hid ?_
          obtain ⟨-, ⟨d0, d1⟩⟩ := box_cells hgrow1 (by omega) hb2
          have hmid2 := hmid.next hb2
          have hws2 := hmid2.size
          clear a0 a1 hmid hinv hgrow1 hb2
          have L2 := HL.out.below hmid2.below
          go_wp2_with (go_at_call 28; refine (sym_yes k.1 k.2 HS.out _).mono ?_; rintro e w3 ⟨rfl, hb3⟩; refine Hid.out ?_)
          refine Lib.hid ?_
          have e0 := (hb3.cell (p := ⟨wr.heap.size, 0, none⟩) (show wr.heap.size < w2.heap.size from blk_lt d0)).trans d0
          have e1 := (hb3.cell (p := ⟨wr.heap.size, 1, none⟩) (show wr.heap.size < w2.heap.size from blk_lt d0)).trans d1
          have hmid3 := hmid2.next hb3
          have hws3 := hmid3.size
          clear d0 d1 hmid2 hb3 L2
          have hr := hmid3.r5
          obtain ⟨m, hm⟩ : ∃ m, (syms (once (ks.take j))).length = m := ⟨_, rfl⟩
          have hil2 := syms_len (once (ks.take j))
          rw [hm] at hr hil2
          have HN := Lib.hid hm
          clear hm
          go_wp2_with (at_builtin; refine wpList_append_own_at _ rfl _ _ 22 rfl (w.heap.size + 1) 35 i26 (.agg #[.string ⟨#[]⟩, .int .i64 0]) 2 24 Tryd.underlying22 hi26 hz260 hz261 hz262 rfl (by decide) _ _ _ rfl (hr.alloc _) ⟨w3.heap.size, 0, none⟩ 1 1 [.string k.1, .int .i64 k.2] rfl rfl (two_new _ _ _ _) (two_cells _ _) (by unfold maxLen; omega) (by omega) (size_alloc_le _ hws3) ?_; intro v' w4 hown4 hgrow4 _ hat4)
          have hinv' := hmid3.sym HK.out HM.out HS.out HS0.out (by rw [HN.out]; exact hown4) hgrow4 hat4
          clear hown4 hgrow4 hat4 hmid3 hr
          go_wp2
          go_roundw
          case rel => exact ⟨j + 1, by omega, by go_num, hinv'⟩
          case measure => simp [intOf]; omega
        · have hix2 := hix
          rw [show kidx k = none by rw [kidx, if_pos hs, hs0]] at hix2
          have hix3 : IdxK k 0 false := hix2
          have HS := Lib.hid hs
          have HS0 := Lib.hid hs0
          clear hix hix2 hs hs0 hkf
          go_wp2_with (first
            | (at_lookup; refine wpList_lookup_own_unit _ rfl _ _ 76 rfl 35 77 law26 Tryd.underlying76 (zero36 _) w.heap.size j _ rfl (hown.alloc _) _ _ rfl hkey ?_; rw [hh])
            | (at_mapUpdate; refine wpList_mapUpdate_own _ rfl _ _ _ 76 rfl 35 77 law26 Tryd.underlying76 (unitElem (H := Unit)) w.heap.size j _ rfl ((hown.alloc _).alloc _) (by unfold maxLen; omega) _ _ _ rfl rfl hkey _ [] unitElem_mk ?_; intro w1 hown1 hgrow1; refine Hid.out ?_))
          refine Lib.hid ?_
          have hmid := hinv.mid HK.out HM.out hown1 hgrow1
          have L1 := HL.out.below hmid.below
          obtain ⟨⟨a0, a1⟩, -⟩ := box_cells hgrow1 (by omega) (Below.refl _ w1)
          clear c0 c1 hh hkey hown hown1
          go_wp2_with (go_at_call 27; refine (hix3.at L1).mono ?_; rintro e w2 ⟨rfl, hb2⟩; refine Hid.out ?_)
          refine Lib.hid ?_
          obtain ⟨-, ⟨d0, d1⟩⟩ := box_cells hgrow1 (by omega) hb2
          have hmid2 := hmid.next hb2
          have hws2 := hmid2.size
          clear a0 a1 hmid hinv hgrow1 hb2
          have L2 := HL.out.below hmid2.below
          go_wp2_with (go_at_call 28; refine (sym_nok k HS.out _).mono ?_; rintro e w3 ⟨rfl, hb3⟩; refine Hid.out ?_)
          refine Lib.hid ?_
          have e0 := (hb3.cell (p := ⟨wr.heap.size, 0, none⟩) (show wr.heap.size < w2.heap.size from blk_lt d0)).trans d0
          have e1 := (hb3.cell (p := ⟨wr.heap.size, 1, none⟩) (show wr.heap.size < w2.heap.size from blk_lt d0)).trans d1
          have hmid3 := hmid2.next hb3
          have hws3 := hmid3.size
          clear d0 d1 hmid2 hb3 L2
          have hr := hmid3.r4
          obtain ⟨m, hm⟩ : ∃ m, (names (once (ks.take j))).length = m := ⟨_, rfl⟩
          have hil2 := names_len (once (ks.take j))
          rw [hm] at hr hil2
          have HN := Lib.hid hm
          clear hm
          go_wp2_with (at_builtin; refine wpList_append_own_at _ rfl _ _ 22 rfl (w.heap.size + 1) 35 i26 (.agg #[.string ⟨#[]⟩, .int .i64 0]) 2 24 Tryd.underlying22 hi26 hz260 hz261 hz262 rfl (by decide) _ _ _ rfl (hr.alloc _) ⟨w3.heap.size, 0, none⟩ 1 1 [.string k.1, .int .i64 k.2] rfl rfl (two_new _ _ _ _) (two_cells _ _) (by unfold maxLen; omega) (by omega) (size_alloc_le _ hws3) ?_; intro v' w4 hown4 hgrow4 _ hat4)
          have hinv' := hmid3.name HK.out HM.out HS.out HS0.out (by rw [HN.out]; exact hown4) hgrow4 hat4
          clear hown4 hgrow4 hat4 hmid3 hr
          go_wp2
          go_roundw
          case rel => exact ⟨j + 1, by omega, by go_num, hinv'⟩
          case measure => simp [intOf]; omega
    · obtain rfl : j = ks.length := by omega
      have HL := Lib.hid hL
      clear hlt hj
      have htk : ks.take ks.length = ks := List.take_length
      have hol := once_length ks
      have hil := idxs_len (once ks)
      have hnl := names_len (once ks)
      have hyl := syms_len (once ks)
      have r3 := hinv.r3
      rw [htk] at r3
      have hsort := sort_own _ _ _ _ r3 (by omega)
      have hbd : ∀ n ∈ rise (idxs (once ks)), 0 ≤ n ∧ n ≤ 4294967294 := rise_bd (once ks)
      obtain ⟨S, hS⟩ : ∃ S, rise (idxs (once ks)) = S := ⟨_, rfl⟩
      have hSl : (idxs (once ks)).length = S.length := by rw [← hS, rise_length]
      rw [hSl, hS] at hsort
      rw [hSl] at r3 hil
      rw [hS] at hbd
      obtain ⟨a3, c3, rfl⟩ := own_shape r3
      have HS := Lib.hid hS
      have HSL := Lib.hid hSl
      have HTK := Lib.hid htk
      have HB := Lib.hid hbd
      clear r3 hS hSl htk hbd
      go_wp2_with (go_at_call 29; refine hsort.mono ?_; rintro e w1 ⟨rfl, hown1, hgrow1⟩; refine Hid.out ?_)
      refine Lib.hid ?_
      have hso := hinv.sorted (by rw [HTK.out, HSL.out, HS.out]; exact hown1) hgrow1
      rw [HTK.out] at hso
      obtain ⟨g1, g2, g3, g4, g5⟩ := hso
      have hmz := g1.size_le
      clear hinv hgrow1 hsort
      obtain ⟨N, hN⟩ : ∃ N, names (once ks) = N := ⟨_, rfl⟩
      obtain ⟨Y, hY⟩ : ∃ Y, syms (once ks) = Y := ⟨_, rfl⟩
      rw [hN] at g2 hnl
      rw [hY] at g3 hyl
      have HN := Lib.hid hN
      have HY := Lib.hid hY
      clear hN hY
      obtain ⟨c, hcz⟩ : ∃ c, Maps.size (SetK (once ks)) = c := ⟨_, rfl⟩
      rw [hcz] at hmz
      go_wp2_with (at_len; refine wpList_len_own _ rfl _ 76 rfl 35 77 Tryd.underlying76 _ _ _ _ rfl g1 ?_; rw [hcz]; clear hcz g1; refine Hid.out ?_)
      refine Lib.hid ?_
      go_wp2_with (at_make; refine wpList_make_own _ rfl _ _ 22 rfl (w.heap.size + 1) 35 i26 (.agg #[.string ⟨#[]⟩, .int .i64 0]) 2 Tryd.underlying22 hi26 hz260 hz261 _ _ _ c rfl rfl (by omega) (by rw [hz262]; omega) (by unfold maxLen; omega) g5 ?_; intro w2 hown2 hgrow2; refine Hid.out ?_)
      refine Lib.hid ?_
      have hout := OutInv.start hown1 g2 g3 g4 g5 hown2 hgrow2
      clear hown1 g2 g3 g4 g5 hown2 hgrow2
      go_wp2
      go_loopw [13, 63] (fun vo i wr => ∃ j : Nat, j ≤ S.length ∧ i = .int .i64 j ∧ OutInv w S N Y j vo (.slice a3 S.length c3) u4 u5 wr) (fun _ i _ => S.length - (intOf i).toNat)
      case atStart => exact ⟨0, Nat.zero_le _, rfl, hout⟩
      case round =>
        clear hout
        obtain ⟨j, hj, rfl, hout⟩ := hrel
        have hrs := hout.size
        by_cases hlt : j < S.length
        · obtain ⟨n, hn⟩ : ∃ n, S[j]? = some n := ⟨S[j], by simp [hlt]⟩
          have hlt2 : (j : Int) < S.length := by omega
          have hnb := HB.out n (List.mem_of_getElem? hn)
          have ht : TextIs n := fun w hL => text_any n (by omega) (by omega) w hL
          obtain ⟨g, hg, hcell⟩ := own_at hout.r3 (k := j) (u := .int .i64 n) (by simp [ints, hn])
          subst hg
          have HN2 := Lib.hid hn
          have LR := HL.out.below hout.below
          clear hn
          go_wp2_with (go_at_call 30; (with_reducible refine (ht.at LR).mono ?_); rintro e w5 ⟨rfl, hb5⟩; refine Hid.out ?_)
          refine Lib.hid ?_
          have hout2 := hout.next hb5
          have hr := hout2.out
          obtain ⟨m, hm⟩ : ∃ m, (numK (S.take j)).length = m := ⟨_, rfl⟩
          have hmj : m ≤ j := by rw [← hm, numK_length, List.length_take]; omega
          rw [hm] at hr
          have HM := Lib.hid hm
          have hrs2 := hout2.size
          clear hm hcell hout hb5
          go_wp2_with (at_builtin; refine wpList_append_own_at _ rfl _ _ 22 rfl (w.heap.size + 1) 35 i26 (.agg #[.string ⟨#[]⟩, .int .i64 0]) 2 24 Tryd.underlying22 hi26 hz260 hz261 hz262 rfl (by decide) _ _ _ rfl (hr.alloc _) ⟨w5.heap.size, 0, none⟩ 1 1 [.string (kb n), .int .i64 0] rfl rfl (two_new _ _ _ _) (two_cells _ _) (by unfold maxLen; omega) (by omega) (size_alloc_le _ hrs2) ?_; intro v' w6 hown6 hgrow6 _ hat6)
          have hout3 := hout2.step HN2.out HM.out hown6 hgrow6 hat6
          clear hown6 hgrow6 hat6 hout2 hr
          go_wp2
          go_roundw
          case rel => exact ⟨j + 1, by omega, by go_num, hout3⟩
          case measure => simp [intOf]; omega
        · obtain rfl : j = S.length := by omega
          clear hlt hj
          obtain ⟨h1, h2, h3, h4, h5, h6, h7, h8⟩ := hout
          rw [List.take_length, numK_length] at h1
          go_wp2_with (at_builtin; refine wpList_append_src rfl _ _ 22 rfl (w.heap.size + 1) 35 i26 (.agg #[.string ⟨#[]⟩, .int .i64 0]) 2 24 Tryd.underlying22 hi26 hz260 hz261 hz262 rfl (by decide) _ _ _ rfl h1 _ _ _ _ rfl h3 (cellsK_one' _) (by unfold maxLen; omega) (by omega) h8 ?_; intro v6 w6 hown6 hgrow6 _; refine Hid.out ?_)
          refine Lib.hid ?_
          have h4' := h4.kept hgrow6 h6
          have hb6 := h7.grown hgrow6 (by omega) (fun k hk => by have := (h1.lt k hk).1; omega)
          have hs6 := Nat.le_trans h8 hgrow6.size
          clear h1 h3 h4 h5 h6 h7 hgrow6
          go_wp2_with (at_builtin; refine wpList_append_src rfl _ _ 22 rfl (w.heap.size + 1) 35 i26 (.agg #[.string ⟨#[]⟩, .int .i64 0]) 2 24 Tryd.underlying22 hi26 hz260 hz261 hz262 rfl (by decide) _ _ _ rfl hown6 _ _ _ _ rfl h4' (cellsK_one' _) (by unfold maxLen; omega) (by omega) hs6 ?_; intro v7 w7 hown7 hgrow7 _; refine Hid.out ?_)
          refine Lib.hid ?_
          have hb7 := hb6.grown hgrow7 (by omega) (fun k hk => by have := (hown6.lt k hk).1; omega)
          clear hown6 hgrow7 hb6 h4'
          go_wp2
          go_ret
          refine ⟨v7, rfl, ?_, hb7⟩
          rw [ordF_eq, HS.out, HN.out, HY.out, cellsK_append, cellsK_append, List.length_append, List.length_append, numK_length]
          exact hown7
end Go.Proofs.YtlhgiihooalanaaDoor.Keys
