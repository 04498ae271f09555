/-
  arrays.Cut: what is left, and the length at which it stops, at every list of properties.
-/
import Derived.Test.YtifkfidkokdijaaDoorArReach
namespace Go.Proofs.YtifkfidkokdijaaDoor.Arrs
open Go Go.RowKit Go.Maps Go.Proofs.YtifkfidkokdijaaDoor.Nums Go.Proofs.YtifkfidkokdijaaDoor.Keys
set_option linter.unusedVariables false
set_option linter.unusedSimpArgs false
attribute [local go_sem ↓] to_ldE to_alE to_stE to_bsE run_eqE
attribute [local irreducible] ecs zer
attribute [local go_sem] run_alE run_stE run_bsE ecs_0 ecs_1 ecs_10 ecs_19

/-- How Cut ends: with a list of the call's own. -/
def CutPost (es : List En) (t : Int) (w : World) (x : Ending) (w' : World) : Prop :=
  ∃ ao cp, x = .returned (.tuple #[.slice ao (leftF es t).length cp, .int .i64 (reachF es t)]) ∧ EsAt ao (leftF es t) w' ∧ Below w.heap.size w w'
theorem own_shape {w : World} {base : Nat} {e : TypeId} {size n : Nat} {v : Value} {xs : List Value} (h : w.ownsRow base e size v n xs) : ∃ a c, v = .slice a n c := by
  rcases h.2 with ⟨rfl, rfl⟩ | ⟨g, cap, cur, rfl, _⟩
  · exact ⟨none, 0, rfl⟩
  · exact ⟨_, cap, rfl⟩
theorem grown_of_below {w w' : World} (hb : Below w.heap.size w w') : w.grownBy w' none := ⟨hb.os, hb.tape, hb.output, hb.size, fun k hk _ => hb.block k hk⟩
theorem own_below {w w' : World} {base : Nat} {e : TypeId} {size n : Nat} {v : Value} {xs : List Value} (h : w.ownsRow base e size v n xs) (hb : Below w.heap.size w w') : w'.ownsRow base e size v n xs :=
  h.kept (grown_of_below hb) (by cases hv : v.ownBlock <;> simp)
/-- What holds at a round's head: j properties were looked at, n is the length. -/
structure CutInv (w0 : World) (es : List En) (n : Int) (j : Nat) (v : Value) (wr : World) : Prop where
  own : wr.ownsRow w0.heap.size 39 20 v ((es.take j).filter (keepF n)).length (cellsE ((es.take j).filter (keepF n)))
  below : Below w0.heap.size w0 wr
section
variable {w0 wr w1 w2 w3 : World} {es : List En} {n : Int} {j m : Nat} {v v' : Value} {e : En} {o : Obj}
theorem CutInv.start (h : Below w0.heap.size w0 w1) : CutInv w0 es n 0 (.slice none 0 0) w1 := ⟨World.ownsRow_nil _ _ _ _, h⟩
theorem CutInv.next (h : CutInv w0 es n j v wr) (hb : Below (wr.alloc o).heap.size (wr.alloc o) w2) : CutInv w0 es n j v w2 :=
  ⟨own_below (h.own.alloc o) hb, bel_next h.below h.below.size hb⟩
theorem CutInv.drop (h : CutInv w0 es n j v wr) (he : es[j]? = some e) (hk : keepF n e = false) : CutInv w0 es n (j + 1) v wr := by
  obtain ⟨h1, h2⟩ := h
  rw [← filter_drop he hk] at h1
  exact ⟨h1, h2⟩
theorem CutInv.keep (h : CutInv w0 es n j v w2) (he : es[j]? = some e) (hk : keepF n e = true) (hm : ((es.take j).filter (keepF n)).length = m)
    (hown : w3.ownsRow w0.heap.size 39 20 v' (m + 1) (cellsE ((es.take j).filter (keepF n)) ++ (ecs e).toList)) (hg : (w2.alloc o).grownBy w3 v.ownBlock) : CutInv w0 es n (j + 1) v' w3 := by
  subst hm
  obtain ⟨h1, h2⟩ := h
  refine ⟨?_, (h2.alloc h2.size o).grown hg (size_al o h2.size) (fun k hk => (h1.lt k hk).1)⟩
  rw [filter_keep he hk, List.length_append, cellsE_append, cellsE_one]
  exact hown
end
theorem new_cells (w : World) (e : En) (t : TypeId) : ∀ j u, (ecs e).toList[j]? = some u → (w.alloc (.cells (ecs e) t)).cell? ((⟨w.heap.size, 0, none⟩ : Addr).add j) = some u := enAt_new w e t
/-- What a call of reached ends in. -/
def ReachIs (ao : Option Addr) (cap : Nat) (es : List En) (t n : Int) (w : World) : Prop := Calls Tryd.prog 11 #[.slice ao es.length cap, .int .i64 t] w fun x w' => x = .returned (.int .i64 n) ∧ Below w.heap.size w w'

set_option maxRecDepth 100000 in
set_option maxHeartbeats 2000000 in
theorem cut_any (ao : Option Addr) (cap : Nat) (es : List En) (w : World) (t0 : Int) (hL : Lw w) (hlen : es.length ≤ 1000000) (hc : EsAt ao es w) (hf : ∀ e ∈ es, e.ks.size ≤ 281474976710656) (h0 : t0 ≤ 9223372036854775807) (h1 : 0 ≤ t0) :
    Calls Tryd.prog 9 #[.slice ao es.length cap, .int .i64 t0] w (CutPost es t0 w) := by
  have hre : ReachIs ao cap es t0 (reachF es t0) w := reached_any ao cap es w t0 hL hlen hc hf h0 h1
  have hm0 : max t0 0 = t0 := Int.max_eq_left h1
  have hn0 := reach_ge es t0
  have hn1 := reach_le es (M := 9223372036854775807) h0 (by omega)
  obtain ⟨i39, hi39, hz390, hz391, hz392⟩ := info_parts infoE
  obtain ⟨n, hn⟩ : ∃ n, reachF es t0 = n := ⟨_, rfl⟩
  rw [hn] at hre hn0 hn1
  have HN := Lib.hid hn
  have HC := Lib.hid hc
  have HF := Lib.hid hf
  have HL := Lib.hid hL
  clear hc hf hL hn
  go_enter Tryd.func9, Tryd.ntmps9
  go_wp2_with (go_at_call 11; refine Calls.mono hre ?_; rintro x w1 ⟨rfl, hb1⟩; refine Hid.out ?_)
  refine Lib.hid ?_
  have hst := CutInv.start (es := es) (n := n) hb1
  clear hm0 hre hb1
  go_wp2
  go_loopw [7, 18] (fun v i wr => ∃ j : Nat, j ≤ es.length ∧ i = .int .i64 j ∧ CutInv w es n j v wr) (fun _ i _ => es.length - (intOf i).toNat)
  case atStart => exact ⟨0, Nat.zero_le _, rfl, hst⟩
  case round =>
    clear hst
    obtain ⟨j, hj, rfl, hinv⟩ := hrel
    by_cases hlt : j < es.length
    · obtain ⟨e, he⟩ : ∃ e, es[j]? = some e := ⟨es[j], by simp [hlt]⟩
      have hlt2 : (j : Int) < es.length := by omega
      have hbx := hinv.below
      obtain ⟨b, off, rfl, hb, hat⟩ := (HC.out.below hbx) j e he
      have l0 := run_ldE hat
      have hk := HF.out e (List.mem_of_getElem? he)
      have hfl := filter_le (keepF n) es j
      have HE := Lib.hid he
      have HB := Lib.hid hb
      have L1 := HL.out.below (hbx.alloc hbx.size (.cells (ecs e) 39))
      clear he hat hb hbx
      cases hi : idxE e with
      | none =>
        have hix := idx_none hk hi
        have hkp : keepF n e = true := keep_none hi
        have HI := Lib.hid hi
        have HIX := Lib.hid hix
        have HKP := Lib.hid hkp
        clear hi hix hkp
        go_wp2_with (go_at_call 12; refine (HIX.out.at L1).mono ?_; rintro x w2 ⟨rfl, hb2⟩; refine Hid.out ?_)
        refine Lib.hid ?_
        have hinv2 := hinv.next hb2
        have l2 := run_ldE (new_at hb2)
        have hws2 := hinv2.below.size
        clear L1 hb2 hinv l0
        have hr := hinv2.own
        obtain ⟨m, hm⟩ : ∃ m, ((es.take j).filter (keepF n)).length = m := ⟨_, rfl⟩
        rw [hm] at hr hfl
        have HM := Lib.hid hm
        clear hm
        go_wp2_with (at_builtin; refine wpList_append_own _ rfl _ _ 28 rfl w.heap.size 39 i39 (.agg zer) 20 136 Tryd.underlying28 hi39 hz390 hz391 hz392 zer_cells (by decide) _ _ _ rfl (hr.alloc _) ⟨w2.heap.size, 0, none⟩ 1 1 (ecs e).toList rfl (ecs_list e) (new_cells w2 e 39) (ecs_one' e) (by unfold maxLen; omega) (by omega) (size_al _ hws2) ?_; intro v' w3 hown3 hgrow3 _)
        have hinv' := hinv2.keep HE.out HKP.out HM.out hown3 hgrow3
        clear hown3 hgrow3 hinv2 hr
        go_wp2
        go_roundw
        case rel => exact ⟨j + 1, by omega, by go_num, hinv'⟩
        case measure => simp [intOf]; omega
      | some i =>
        have hix := idx_some hk hi
        have hbi := idxE_bd hi
        have hks := keep_some (n := n) hi
        have HI := Lib.hid hi
        have HIX := Lib.hid hix
        clear hi hix
        by_cases hl : i < n
        · have hkp : keepF n e = true := by rw [hks]; simpa using hl
          have HKP := Lib.hid hkp
          clear hkp hks
          go_wp2_with (go_at_call 12; refine (HIX.out.at L1).mono ?_; rintro x w2 ⟨rfl, hb2⟩; refine Hid.out ?_)
          refine Lib.hid ?_
          have hinv2 := hinv.next hb2
          have l2 := run_ldE (new_at hb2)
          have hws2 := hinv2.below.size
          clear L1 hb2 hinv l0
          have hr := hinv2.own
          obtain ⟨m, hm⟩ : ∃ m, ((es.take j).filter (keepF n)).length = m := ⟨_, rfl⟩
          rw [hm] at hr hfl
          have HM := Lib.hid hm
          clear hm
          go_wp2_with (at_builtin; refine wpList_append_own _ rfl _ _ 28 rfl w.heap.size 39 i39 (.agg zer) 20 136 Tryd.underlying28 hi39 hz390 hz391 hz392 zer_cells (by decide) _ _ _ rfl (hr.alloc _) ⟨w2.heap.size, 0, none⟩ 1 1 (ecs e).toList rfl (ecs_list e) (new_cells w2 e 39) (ecs_one' e) (by unfold maxLen; omega) (by omega) (size_al _ hws2) ?_; intro v' w3 hown3 hgrow3 _)
          have hinv' := hinv2.keep HE.out HKP.out HM.out hown3 hgrow3
          clear hown3 hgrow3 hinv2 hr
          go_wp2
          go_roundw
          case rel => exact ⟨j + 1, by omega, by go_num, hinv'⟩
          case measure => simp [intOf]; omega
        · have hl2 : n ≤ i := by omega
          have hkp : keepF n e = false := by rw [hks]; simpa using hl2
          have HKP := Lib.hid hkp
          clear hkp hks hl
          go_wp2_with (go_at_call 12; refine (HIX.out.at L1).mono ?_; rintro x w2 ⟨rfl, hb2⟩; have hinv2 := (hinv.next hb2).drop HE.out HKP.out; clear L1 hb2)
          go_roundw
          case rel => exact ⟨j + 1, by omega, by go_num, hinv2⟩
          case measure => simp [intOf]; omega
    · obtain rfl : j = es.length := by omega
      clear hlt hj
      obtain ⟨hown, hbel⟩ := hinv
      rw [List.take_length] at hown
      have hlf : leftF es t0 = es.filter (keepF n) := by unfold leftF; rw [HN.out]
      obtain ⟨a, c, rfl⟩ := own_shape hown
      have hat := esAt_own hown
      have hpost : ∀ x, x = Ending.returned (.tuple #[.slice a (es.filter (keepF n)).length c, .int .i64 n]) → CutPost es t0 w x wr := fun x hx => ⟨a, c, by rw [hlf, HN.out]; exact hx, by rw [hlf]; exact hat, hbel⟩
      clear hown hlf hat
      generalize (es.filter (keepF n)).length = q at hpost
      go_wp2
      go_ret2
      exact hpost _ rfl
end Go.Proofs.YtifkfidkokdijaaDoor.Arrs
