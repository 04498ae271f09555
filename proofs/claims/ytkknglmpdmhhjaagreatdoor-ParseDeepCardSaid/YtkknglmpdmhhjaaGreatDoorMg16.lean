/-
  reader.quoted: the walk.
-/
import Derived.Test.YtkknglmpdmhhjaaGreatDoorMg15
namespace Go.Proofs.YtkknglmpdmhhjaaGreatDoor.Lx
open Go Go.RowKit Go.Maps Go.Proofs.YtkknglmpdmhhjaaGreatDoor.Uni
set_option linter.unusedVariables false
set_option linter.unusedSimpArgs false
attribute [local go_sem ↓] ldK stK alK bdK
attribute [local irreducible] kcs
attribute [local go_sem] run_alK run_bdK0 run_bdKs run_bdKn run_bdKe

theorem own_below {w w' : World} {base : Nat} {e : TypeId} {size n : Nat} {v : Value} {xs : List Value} (h : w.ownsRow base e size v n xs) (hb : Below w.heap.size w w') : w'.ownsRow base e size v n xs := h.kept (row := Option.none) ⟨hb.os, hb.tape, hb.output, hb.size, fun k hk _ => hb.block k hk⟩ (by cases hv : v.ownBlock <;> simp)
theorem rd_own {w : World} {base : Nat} {ao : Option Addr} {cp : Nat} {u : List Nat} (h : w.ownsRow base 127 1 (.slice ao u.length cp) u.length (uc u)) (hu : ∀ x ∈ u, x < 65536) : Uni.Rd w ao u := by
  intro k x hx
  have hx2 : (uc u)[k]? = some (.int .u16 (x : Nat)) := by unfold uc; rw [List.getElem?_map, hx]; rfl
  obtain ⟨g, rfl, hc⟩ := own_at h hx2
  exact ⟨g, 0, rfl, World.block_lt_of_cell? w _ hc, by rw [Nat.zero_add]; exact hc, hu x (List.mem_of_getElem? hx)⟩

/-- One round's plain mathematics. -/
def roundF (q : Nat) (l0 : By) (f : Nat) (us : List Nat) (u : ByteArray) : By → Got
  | [] => .bad l0
  | c :: r => if endN c.toNat then .bad l0
      else if c = 92 then (if (escF (c :: r)).2 = 0 then .bad (c :: r) else quotF q l0 f (us ++ units u ++ [(escF (c :: r)).1]) ((c :: r).drop (escF (c :: r)).2))
      else if 10000 < (us ++ units u).length then .bad l0
      else .ok ⟨4, 0, ⟨(text (us ++ units u)).toArray⟩⟩ r
theorem round_eq (q : Nat) (l0 l : By) (f : Nat) (us : List Nat) (u : ByteArray) (hu : u = bs (lead (runN q) l)) : quotF q l0 (f + 1) us l = roundF q l0 f us u (l.drop u.size) := by
  subst hu
  rw [bs_size]
  unfold quotF
  cases l.drop (lead (runN q) l).length <;> rfl
theorem idx_at (t : ByteArray) (k : Nat) (hk : k < t.size) (i : Int) (hi : i = (k : Int)) (w : World) : (Instr.index 9 (.string t) (.int .i64 i)).run Tryz.prog w = .ok (.int .u8 (B t k : Nat)) w := by
  subst hi
  rw [run_index_string (h := Tryz.underlying9)]
  rw [dif_pos ⟨by omega, by omega⟩]
  have h2 : ((k : Int)).toNat = k := by omega
  simp only [h2]
  rw [gB t k hk]
theorem u1 {W w2 : World} {c : Array Value} (hb : Below ((W.alloc (.cells c 79)).drew).heap.size ((W.alloc (.cells c 79)).drew) w2) : Blk w2 W.heap.size c 79 := (show Blk ((W.alloc (.cells c 79)).drew) W.heap.size c 79 from Blk.new W c _).call hb
theorem bel_via {w W w2 : World} (h2 : Below W.heap.size W w2) (h1 : Below w.heap.size w W) : Below w.heap.size w w2 := h1.trans (h2.mono h1.size)
theorem bel_set {W : World} {g : Nat} {v : Value} {o : Obj} : Below W.heap.size (W.setCell ⟨g, 1, none⟩ v) ((W.setCell ⟨g, 1, none⟩ v).alloc o) := by
  refine (Below.refl _ _).alloc ?_ _
  simp [World.setCell]
theorem units_bd (u : ByteArray) : (units u).length ≤ 2 * u.size := units_le u

set_option maxRecDepth 100000 in
set_option maxHeartbeats 8000000 in
theorem quoted_any (g : Nat) (t : ByteArray) (a q : Nat) (w : World) (hr : Rd w g t a) (ha : a < t.size) (ht : t.size ≤ 1000000) (hF : Nums.Lw w) (hq : q < 128) (F : Nat) (hFu : t.size < a + 1 + F) (R : Got) (hR : quotF q (t.data.toList.drop a) F [] (t.data.toList.drop (a + 1)) = R) :
    Calls Tryz.prog 80 #[.pointer (some ⟨g, 0, none⟩), .int .i32 (q : Int)] w (GotP g t a w R) := by
  obtain ⟨i0, hi, hz0, hz1, hz2⟩ := info_parts info32
  obtain ⟨l0, hl0⟩ : ∃ l0, t.data.toList.drop a = l0 := ⟨_, rfl⟩
  rw [hl0] at hR
  have hB := gB t
  have c1 := hr.c1
  have hM0 : Mq g t a q w _ := mq_start hr
  have c1a : ((w.alloc (.cells #[.int .i32 (q : Int)] 21)).alloc (.cells (kcs zeroK) 79)).cell? ⟨g, 1, none⟩ = some (.int .i64 (a : Int)) := hM0.rd.c1
  have hai : (a : Int) ≤ 1000000 := by omega
  have HL0 := Lib.hid hl0
  have HFu := Lib.hid hFu
  have hQ0 : ∀ v, v = .slice none 0 0 → QI g t a q R l0 w ((w.alloc (.cells #[.int .i32 (q : Int)] 21)).alloc (.cells (kcs zeroK) 79)) [] (a + 1) F v := fun v hv => by
    subst hv
    exact ⟨hM0, World.ownsRow_nil _ _ _ _, by omega, by omega, by simp, hFu, by simp, hR.symm⟩
  have HQ0 := Lib.hid hQ0
  have HF := Lib.hid hF
  clear hl0 hFu hR hM0 hQ0 hr hF
  go_enter Tryz.func80, Tryz.ntmps80
  go_wp2
  go_loopw [6, 7] (fun v i wr => ∃ us e f, i = .int .i64 ((e : Nat) : Int) ∧ QI g t a q R l0 w wr us e f v) (fun _ i _ => t.size + 1 - (intOf i).toNat)
  case atStart => exact ⟨[], a + 1, F, by go_num, HQ0.out _ rfl⟩
  case round =>
    obtain ⟨us, e, f, rfl, hI⟩ := hrel
    obtain ⟨hm, hown, hlo, hhi, hlen, hfu, hlt, heq⟩ := hI
    obtain ⟨f', rfl⟩ : ∃ f', f = f' + 1 := ⟨f - 1, by omega⟩
    have c0 := hm.rd.c0
    have c1 := hm.rd.c1
    have hei : (e : Int) ≤ t.size := by omega
    have hti : (t.size : Int) ≤ 1000000 := by omega
    obtain ⟨u, hu⟩ : ∃ u, u = bs (lead (runN q) (t.data.toList.drop e)) := ⟨_, rfl⟩
    have huz : e + u.size ≤ t.size := by
      have h1 := lead_len (runN q) (t.data.toList.drop e)
      rw [List.length_drop, lsz] at h1
      rw [hu, bs_size]
      omega
    have hlead := fun (w' : World) (hm' : Mq g t a q w w') => leading_run (t.extract e t.size) q w.heap.size w' (by simp; omega) hq hm'.cap
    rw [ext_drop, ← hu] at hlead
    have hof := fun w' => of_any u w' (by omega)
    have heq2 : R = roundF q l0 f' us u (t.data.toList.drop (e + u.size)) := by rw [heq, round_eq q l0 (t.data.toList.drop e) f' us u hu, List.drop_drop]
    have hub := units_bd u
    have HM := Lib.hid hm
    have HE := Lib.hid heq2
    have HLT := Lib.hid hlt
    have HW := Lib.hid hown
    have hws := hm.size
    have hnb : us.length + (units u).length ≤ 2 * (e + u.size) := by omega
    have hnb2 : us.length + (units u).length ≤ 4000000 := by omega
    have HNB := Lib.hid hnb
    have HU : Hid (e + u.size ≤ t.size) := Lib.hid huz
    have hui : (e : Int) + u.size ≤ t.size := by omega
    obtain ⟨ao, cp, rfl⟩ := own_shape hown
    clear heq heq2 hm hlt hown hu huz hub hlen hnb
    go_wp2_with (first | (go_at_call 127; refine (hlead _ HM.out).mono ?_; rintro e1 w1 ⟨rfl, hb1⟩; have hm1 := HM.out.call hb1; have HM1 := Lib.hid hm1; have hown1 := own_below HW.out hb1; have hs1 := hm1.size; clear hm1) | (go_at_call 132; refine (hof _).mono ?_; rintro e2 w2 ⟨v2, rfl, hown2, hb2⟩; have hm2 := HM1.out.call hb2; have HM2 := Lib.hid hm2; have hown3 := own_below hown1 hb2; have hs2 := hm2.size; clear hm2 hown1) | (at_builtin; refine wp_append_two rfl _ _ 125 rfl (w.heap.size + 2) 127 i0 (.int .u16 0) 1 2 Tryz.underlying125 hi hz0 hz1 hz2 rfl (by decide) _ _ _ rfl hown3 _ _ _ _ rfl hown2 (uc_one _) (by unfold maxLen; omega) (by omega) hs2 ?_; intro v6 w6 hown6 hgrow6 _; refine Hid.out ?_))
    refine Lib.hid ?_
    have hm6 : Mq g t a q w w6 := HM2.out.low ((Below.refl _ _).grown hgrow6 hs2 (fun k hk => (hown3.lt k hk).1))
    obtain ⟨vs, hvs⟩ : ∃ vs, us ++ units u = vs := ⟨_, rfl⟩
    have hvl : vs.length = us.length + (units u).length := by rw [← hvs, List.length_append]
    have hown7 : w6.ownsRow (w.heap.size + 2) 127 1 v6 vs.length (uc vs) := by
      rw [hvl, ← hvs, uc_append]
      exact hown6
    have hvlt : ∀ x ∈ vs, x < 65536 := by
      rw [← hvs]
      intro x hx
      rcases List.mem_append.1 hx with hx | hx
      · exact HLT.out x hx
      · exact units_lt u x hx
    have hR := HE.out
    have hnb := HNB.out
    rw [← hvl] at hnb hnb2
    have HVS := Lib.hid hvs
    have HVLT := Lib.hid hvlt
    have HNV := Lib.hid hnb
    have HM6 := Lib.hid hm6
    have c0' := hm6.rd.c0
    have c1' := hm6.rd.c1
    have f1' := hm6.rd.f1
    have hs6 := hm6.size
    have hg6 := hm6.rd.lt
    obtain ⟨ao6, cp6, rfl⟩ := own_shape hown7
    have HO7 := Lib.hid hown7
    have HUZ := HU.out
    clear hown6 hgrow6 hown2 hown3 hb1 hb2 hm6 hvs hvl hvlt hnb HNB HE HLT HM1 HM2 HM HW c0 c1 hown7 hlead hof hs1 hs2 hws
    by_cases he1 : e + u.size = t.size
    · rw [List.drop_eq_nil_of_le (by rw [lsz]; omega)] at hR
      have t1 : (((e : Int) + (u.size : Int)) == (t.size : Int)) = true := by simp; omega
      have sv := run_stK (t := zeroK) HM6.out.res
      have HRR : Hid (R = .bad l0) := Lib.hid hR
      clear hR he1 hB
      go_wp2
      rw [HRR.out]
      exact HM6.out.bad0 HL0.out.symm (by omega) rfl rfl rfl
    · have hlt1 : e + u.size < t.size := by omega
      obtain ⟨c, hc, hdr⟩ := drop_B t (e + u.size) hlt1
      rw [hdr] at hR
      have t1 : (((e : Int) + (u.size : Int)) == (t.size : Int)) = false := by simp; omega
      have hix : (e : Int) + (u.size : Int) < t.size := by omega
      obtain ⟨y, hy⟩ : ∃ y, B t (e + u.size) = y := ⟨_, rfl⟩
      have hidx := fun w => idx_at t (e + u.size) hlt1 ((e : Int) + (u.size : Int)) (by omega) w
      rw [hy] at hidx
      have hyi : (y : Int) ≤ 255 := by have := B_lt t (e + u.size); omega
      rw [hy] at hc
      have HDR := Lib.hid hdr
      have HC := Lib.hid hc
      have HLT1 := Lib.hid hlt1
      clear hdr he1 hB hy
      cases hend : endN y with
      | true =>
        have hR2 : R = .bad l0 := by rw [hR]; simp only [roundF]; rw [HC.out, hend]; rfl
        have HRR := Lib.hid hR2
        have sv := run_stK (t := zeroK) HM6.out.res
        clear hR hR2 hc
        go_wp2_with (go_at_call 131; refine (ends_any _ _).mono ?_; rintro e3 w7 ⟨rfl, rfl⟩; rw [hend])
        rw [HRR.out]
        exact HM6.out.bad0 HL0.out.symm (by omega) rfl rfl rfl
      | false =>
        have hc92 : c = 92 ↔ y = 92 := u8_eq hc (by decide)
        by_cases h92 : y = 92
        · have hs : (t.extract (e + u.size) t.size).data.toList = c :: t.data.toList.drop (e + u.size + 1) := by rw [ext_drop]; exact HDR.out
          have hesc := fun (w' : World) (hb : Below w.heap.size w w') => escape_any (t.extract (e + u.size) t.size) w' (by simp; omega) (HF.out.below hb)
          unfold EscPost at hesc
          rw [hs] at hesc
          obtain ⟨x, hx⟩ : ∃ x, (escF (c :: t.data.toList.drop (e + u.size + 1))).1 = x := ⟨_, rfl⟩
          obtain ⟨n, hn⟩ : ∃ n, (escF (c :: t.data.toList.drop (e + u.size + 1))).2 = n := ⟨_, rfl⟩
          have hx6 : x < 65536 := by rw [← hx]; exact esc_lt
          obtain ⟨hn1, hn2, hn3⟩ := esc_len (l := c :: t.data.toList.drop (e + u.size + 1))
          rw [hn] at hn1 hn2 hn3
          rw [← HDR.out, List.length_drop, lsz] at hn1
          rw [hx, hn] at hesc
          have hbw := HM6.out.bel
          have f92 : ((y : Int) == 92) = true := by simp; omega
          by_cases hn0 : n = 0
          · have hR2 : R = .bad (c :: t.data.toList.drop (e + u.size + 1)) := by
              rw [hR]; simp only [roundF]
              rw [HC.out, hend, if_neg (by simp), if_pos (hc92.2 h92), if_pos (by rw [hn]; exact hn0)]
            have HRR := Lib.hid hR2
            have e0 : ((n : Int) == 0) = true := by simp; omega
            clear hR hR2 hc hc92 h92 hs hx hn hx6 hn1 hn2 hn3 hn0
            go_wp2_with (first | (go_at_call 131; refine (ends_any _ _).mono ?_; rintro e3 w7 ⟨rfl, rfl⟩; rw [hend]) | (go_at_call 133; refine (hesc _ hbw).mono ?_; rintro e4 w7 ⟨rfl, hb7⟩; have hm7 := HM6.out.call hb7; have c17 := hm7.rd.c1; have f17 := hm7.rd.f1; have hne7 : w.heap.size + 1 ≠ g := (by have := hm7.lt; omega); have sv := run_stK (t := zeroK) (hm7.res.other ⟨g, 1, none⟩ (.int .i64 ((e : Int) + (u.size : Int))) (by simpa using hne7)); have HM7 := Lib.hid hm7; clear hm7 hb7))
            rw [HRR.out]
            exact HM7.out.bad HDR.out.symm (by have := HLT1.out; omega) (by omega) rfl rfl rfl
          · have hR2 : R = quotF q l0 f' (vs ++ [x]) (t.data.toList.drop (e + u.size + n)) := by
              rw [hR]; simp only [roundF]
              rw [HC.out, hend, if_neg (by simp), if_pos (hc92.2 h92), if_neg (by rw [hn]; exact hn0), hx, hn, HVS.out, ← HDR.out, List.drop_drop]
            have HRR := Lib.hid hR2
            have e0 : ((n : Int) == 0) = false := by simp; omega
            have hni : (n : Int) ≤ 6 := by omega
            have HX := Lib.hid hx6
            have HN : Hid (n ≤ t.size - (e + u.size) ∧ 2 ≤ n) := Lib.hid ⟨hn1, hn3 hn0⟩
            clear hR hR2 hc hc92 h92 hs hx hn hx6 hn1 hn2 hn3 hn0
            go_wp2_with (first | (go_at_call 131; refine (ends_any _ _).mono ?_; rintro e3 w7 ⟨rfl, rfl⟩; rw [hend]) | (go_at_call 133; refine (hesc _ hbw).mono ?_; rintro e4 w7 ⟨rfl, hb7⟩; have hm7 := HM6.out.call hb7; have hown8 := own_below HO7.out hb7; have hs7 := hm7.size; have HM7 := Lib.hid hm7; clear hm7 hb7) | (at_builtin; refine wpList_append_own _ rfl _ _ 125 rfl (w.heap.size + 2) 127 i0 (.int .u16 0) 1 2 Tryz.underlying125 hi hz0 hz1 hz2 rfl (by decide) _ _ _ rfl (hown8.alloc _) ⟨w7.heap.size, 0, none⟩ 1 1 [.int .u16 (x : Nat)] rfl rfl (cell_one_new _ _ _) (one_cells _ _) (by unfold maxLen; omega) (by omega) (by simp; omega) ?_; intro v9 w9 hown9 hgrow9 _; refine Hid.out ?_))
            refine Lib.hid ?_
            have hm9 : Mq g t a q w w9 := HM7.out.low (((Below.refl _ w7).alloc (by omega) _).grown hgrow9 (by simp; omega) (fun k hk => (hown8.lt k hk).1))
            have hq9 : QI g t a q R l0 w w9 (vs ++ [x]) (e + u.size + n) f' v9 := ⟨hm9, by
              rw [List.length_append, uc_append]
              exact hown9, by omega, by have := HN.out; omega, by rw [List.length_append]; have := HNV.out; have := HN.out; simp; omega, by have := HN.out; omega, by
              intro z hz
              rcases List.mem_append.1 hz with hz | hz
              · exact HVLT.out z hz
              · rw [List.mem_singleton.1 hz]; exact HX.out, HRR.out⟩
            have HQ9 := Lib.hid hq9
            have HN2 := HN.out
            clear hm9 hq9 hown9 hgrow9 hown8
            go_wp2
            go_roundw
            case rel => exact ⟨_, _, _, by go_num, HQ9.out⟩
            case measure => simp [intOf]; omega
        · have f92 : ((y : Int) == 92) = false := by simp; omega
          by_cases hbig : 10000 < vs.length
          · have hR2 : R = .bad l0 := by
              rw [hR]; simp only [roundF]
              rw [HC.out, hend, if_neg (by simp), if_neg (fun h => h92 (hc92.1 h)), HVS.out, if_pos hbig]
            have HRR := Lib.hid hR2
            have d1 : decide ((10000 : Int) < (vs.length : Nat)) = true := by simp; omega
            have sv := run_stK (t := zeroK) HM6.out.res
            clear hR hR2 hc hc92 h92 hbig
            go_wp2_with (go_at_call 131; refine (ends_any _ _).mono ?_; rintro e3 w7 ⟨rfl, rfl⟩; rw [hend])
            rw [HRR.out]
            exact HM6.out.bad0 HL0.out.symm (by omega) rfl rfl rfl
          · obtain ⟨s, hs⟩ : ∃ s : ByteArray, (⟨(text vs).toArray⟩ : ByteArray) = s := ⟨_, rfl⟩
            have hR2 : R = .ok ⟨4, 0, s⟩ (t.data.toList.drop (e + u.size + 1)) := by
              rw [hR]; simp only [roundF]
              rw [HC.out, hend, if_neg (by simp), if_neg (fun h => h92 (hc92.1 h)), HVS.out, if_neg hbig, hs]
            have HRR := Lib.hid hR2
            have d1 : decide ((10000 : Int) < (vs.length : Nat)) = false := by simp; omega
            have htext := fun (w' : World) (hb : Below w6.heap.size w6 w') => text_any ao6 cp6 vs w' (by omega) (rd_own (own_below HO7.out hb) HVLT.out)
            rw [hs] at htext
            have c1a' : ∀ o, (w6.alloc o).cell? ⟨g, 1, none⟩ = some (.int .i64 (a : Int)) := fun o => (HM6.out.rd.below bel1).c1
            clear hR hR2 hc hc92 h92 hbig hs
            go_wp2_with (go_at_call 131; refine (ends_any _ _).mono ?_; rintro e3 w7 ⟨rfl, rfl⟩; rw [hend])
            go_region_with (go_at_call 134; refine (htext _ (by repeat (first | (with_reducible exact Below.refl _ _) | (with_reducible assumption) | with_reducible apply bl_alloc | with_reducible apply bl_drew | with_reducible apply bl_drewN))).mono ?_; rintro e4 w7 ⟨rfl, hb7⟩; have b7 : Below w6.heap.size w6 w7 := bel_via hb7 (by repeat (first | (with_reducible exact Below.refl _ _) | (with_reducible assumption) | with_reducible apply bl_alloc | with_reducible apply bl_drew | with_reducible apply bl_drewN)); have hm7 := HM6.out.call b7; have c17 := hm7.rd.c1; have c17a : ∀ o, (w7.alloc o).cell? ⟨g, 1, none⟩ = some (.int .i64 (a : Int)) := (fun o => (hm7.rd.below bel1).c1); have sn := run_stKg w7 w7.heap.size ⟨4, a, 0, s⟩ zeroK rfl; (first | (have P2 := u1 hb7; have sp := run_stK (t := ⟨4, a, 0, s⟩) P2; have HP2 := Lib.hid P2; clear P2) | skip); have HM7 := Lib.hid hm7; clear hm7 hb7 b7)
            all_goals
              first
                | (have bA := HP2.out.row (kcs ⟨4, a, 0, s⟩)
                   have k6 := HM6.out.size
                   have hgA := HM6.out.lt
                   have mA : Mq g t a q w (w7.setRow w6.heap.size (kcs ⟨4, a, 0, s⟩)) := HM7.out.low (below_row (Below.refl _ _) _ (by omega))
                   have cA := mA.rd.c1
                   have fA := mA.rd.f1
                   have lv := run_ldK (bA.other ⟨g, 1, none⟩ (.int .i64 ((e : Int) + (u.size : Int) + 1)) (by simp; omega))
                   have sv := run_stK (t := ⟨4, a, 0, s⟩) (mA.res.other ⟨g, 1, none⟩ (.int .i64 ((e : Int) + (u.size : Int) + 1)) (by simp; omega))
                   have HMA := Lib.hid mA
                   clear bA mA k6 hgA c17 c17a sn sp
                   go_wp2
                   rw [HRR.out]
                   exact HM6.out.good HMA.out ⟨4, 0, s⟩ (b := e + u.size + 1) (by omega) rfl (by have := HLT1.out; omega) rfl rfl rfl (Below.refl _ _))
                | (have hgA := HM6.out.lt
                   have f17a : ∀ o, (w7.alloc o).frozen? ⟨g, 1, none⟩ = false := (fun o => (HM7.out.rd.below bel1).f1)
                   have g7 := HM7.out.rd.lt
                   have lv := run_ldK (blk_newg (w := w7.setCell ⟨g, 1, none⟩ (.int .i64 ((e : Int) + (u.size : Int) + 1))) (g := w7.heap.size) (cs := kcs ⟨4, a, 0, s⟩) (t := 79) (by simp [World.setCell]))
                   have sv := run_stK (t := ⟨4, a, 0, s⟩) ((HM7.out.res.other ⟨g, 1, none⟩ (.int .i64 ((e : Int) + (u.size : Int) + 1)) (by simp; omega)).old (.cells (kcs ⟨4, a, 0, s⟩) 79))
                   clear hgA sn
                   go_wp2
                   rw [HRR.out]
                   exact HM6.out.good HM7.out ⟨4, 0, s⟩ (b := e + u.size + 1) (by omega) rfl (by have := HLT1.out; omega) rfl rfl rfl bel_set)
end Go.Proofs.YtkknglmpdmhhjaaGreatDoor.Lx
