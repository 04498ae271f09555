/-
  The statement ArraysAgain, walked.
-/
import Derived.Test.YtifkfidkokdijaaDoorArSmall
namespace Go.Proofs.YtifkfidkokdijaaDoor.Arrs
open Go Go.RowKit Go.Maps Go.Proofs.YtifkfidkokdijaaDoor.Nums Go.Proofs.YtifkfidkokdijaaDoor.Keys
set_option linter.unusedVariables false
set_option linter.unusedSimpArgs false
attribute [local go_sem ↓] to_ldE to_alE to_stE to_bsE run_eqE
attribute [local irreducible] ecs zer
attribute [local go_sem] run_alE run_stE run_bsE ecs_0 ecs_1 ecs_10 ecs_19

theorem drew_all {w w1 : World} (h : Below w.heap.size w w1) : Below w.heap.size w w1.drew := h.drew
/-- What a call of Cut ends in. -/
def CutIs (v : Value) (t : Int) (es : List En) (n : Int) (ls : List En) (w : World) : Prop := Calls Tryd.prog 9 #[v, .int .i64 t] w fun x w' => (∃ ao cp, x = .returned (.tuple #[.slice ao ls.length cp, .int .i64 n]) ∧ EsAt ao ls w') ∧ Below w.heap.size w w'
theorem cut_is (ao : Option Addr) (cap : Nat) (es : List En) (w : World) (t0 : Int) (hL : Lw w) (hlen : es.length ≤ 1000000) (hc : EsAt ao es w) (hf : ∀ e ∈ es, e.ks.size ≤ 281474976710656) (h0 : t0 ≤ 9223372036854775807) (h1 : 0 ≤ t0) {n : Int} {ls : List En} (hn : reachF es t0 = n) (hl : leftF es t0 = ls) :
    CutIs (.slice ao es.length cap) t0 es n ls w := by
  subst hn hl
  exact (cut_any ao cap es w t0 hL hlen hc hf h0 h1).mono fun x w' ⟨a, c, hx, hat, hb⟩ => ⟨⟨a, c, hx, hat⟩, hb⟩
def SameIs (u v : Value) (w : World) : Prop := Calls Tryd.prog 10 #[u, v] w fun x w' => x = .returned (.bool true) ∧ Below w.heap.size w w'
theorem SameIs.at {u v : Value} {w : World} (h : SameIs u v w) : Calls Tryd.prog 10 #[u, v] w fun x w' => x = .returned (.bool true) ∧ Below w.heap.size w w' := h
theorem CutIs.at {v : Value} {t n : Int} {es ls : List En} {w : World} (h : CutIs v t es n ls w) : Calls Tryd.prog 9 #[v, .int .i64 t] w fun x w' => (∃ ao cp, x = .returned (.tuple #[.slice ao ls.length cp, .int .i64 n]) ∧ EsAt ao ls w') ∧ Below w.heap.size w w' := h

set_option maxRecDepth 100000 in
set_option maxHeartbeats 4000000 in
theorem lawAgain_walk (ao : Option Addr) (cap : Nat) (es : List En) (t u : Int) (w : World) (hL : Lw w) (hlen : (es.length : Int) ≤ 9223372036854775807) (hc : EsAt ao es w) (h0 : t ≤ 9223372036854775807) :
    Calls Tryd.prog 4 #[.slice ao es.length cap, .int .i64 t, .int .i64 u] w fun x w' => x = .returned (.bool true) ∧ Below w.heap.size w w' := by
  have HC := Lib.hid hc
  have HL := Lib.hid hL
  clear hc hL
  go_enter Tryd.func4, Tryd.ntmps4
  go_wp2_with (go_at_call 5; (with_reducible refine (alive_any _ HL.out).mono ?_); rintro x w1 ⟨rfl, hb1⟩; refine Hid.out ?_)
  refine Lib.hid ?_
  have hbg : Calls Tryd.prog 8 #[.slice ao es.length cap] w1 (BigPost es w1) := big_any ao cap es w1 hlen (HC.out.below hb1)
  go_wp2_with (go_at_call 8; (with_reducible refine Calls.mono hbg ?_); rintro x w1' ⟨bg, rfl, hbg2, rfl⟩; refine Hid.out ?_)
  refine Lib.hid ?_
  clear hbg

  cases hbv : bg with
  | true =>
    clear hbg2
    subst hbv
    go_wp2
    go_ret
    exact ⟨rfl, hb1⟩
  | false =>
    have h60 := (hbg2 hbv).1
    have HF : Hid (∀ e ∈ es, e.ks.size ≤ 281474976710656) := Lib.hid (fun e he => by have := (hbg2 hbv).2 e he; omega)
    clear hbg2
    subst hbv
    by_cases h1 : t < 0
    · go_wp2
      go_ret
      exact ⟨rfl, hb1⟩
    · have h1' : 0 ≤ t := by omega
      clear h1
      by_cases h2 : u < 0
      · go_wp2
        go_ret
        exact ⟨rfl, hb1⟩
      · have h2' : 0 ≤ u := by omega
        clear h2
        by_cases h3 : t < u
        · go_wp2
          go_ret
          exact ⟨rfl, hb1⟩
        · have h3' : u ≤ t := by omega
          clear h3
          have hn0 := reach_ge es t
          have hn1 := reach_le es (M := 9223372036854775807) h0 (by omega)
          have hkn := reach_mono es h3'
          have hlk := left_len (es := es) h3'
          have hla := left_le es t
          have hfa : ∀ e ∈ leftF es t, e.ks.size ≤ 281474976710656 := fun e he => HF.out e ((List.mem_filter.1 he).1)
          have har := again_reach es t
          have hal := again_left es t
          obtain ⟨n, hn⟩ : ∃ n, reachF es t = n := ⟨_, rfl⟩
          obtain ⟨A, hA⟩ : ∃ A, leftF es t = A := ⟨_, rfl⟩
          obtain ⟨k, hk⟩ : ∃ k, reachF es u = k := ⟨_, rfl⟩
          obtain ⟨C, hC⟩ : ∃ C, leftF es u = C := ⟨_, rfl⟩
          rw [hn] at hn0 hn1 hkn har hal
          rw [hA] at hlk hla hfa har hal
          rw [hk] at hkn
          rw [hC] at hlk
          have hlk2 : (C.length : Int) ≤ A.length := by omega
          have c1 := cut_is ao cap es w1 t (HL.out.below hb1) (by omega) (HC.out.below hb1) HF.out h0 h1' hn hA
          have HCC := Lib.hid (And.intro hk hC)
          have HR := Lib.hid (And.intro har hal)
          have HFA := Lib.hid hfa
          have HB1 := Lib.hid hb1
          clear hn hA hk hC har hal hfa hb1
          go_wp2_with (go_at_call 9; (with_reducible refine c1.at.mono ?_); rintro x w2 ⟨⟨a2, p2, rfl, e2⟩, hb2⟩; refine Hid.out ?_)
          refine Lib.hid ?_
          have B2 : Below w.heap.size w w2 := bnext HB1.out hb2
          have c2 := cut_is a2 p2 A w2 n (HL.out.below B2) (by omega) e2 HFA.out hn1 (by omega) HR.out.1 HR.out.2
          have HE2 := Lib.hid e2
          have HB2 := Lib.hid B2
          clear c1 hb2 e2 B2
          go_wp2_with (go_at_call 9; (with_reducible refine c2.at.mono ?_); rintro x w3 ⟨⟨a3, p3, rfl, e3⟩, hb3⟩; refine Hid.out ?_)
          refine Lib.hid ?_
          have B3 : Below w.heap.size w w3 := bnext HB2.out hb3
          have c3 := cut_is ao cap es w3 u (HL.out.below B3) (by omega) (HC.out.below B3) HF.out (by omega) h2' HCC.out.1 HCC.out.2
          have HE23 := Lib.hid (HE2.out.below hb3)
          have HE3 := Lib.hid e3
          have HB3 := Lib.hid B3
          clear c2 hb3 e3 B3 HE2
          go_wp2_with (go_at_call 9; (with_reducible refine c3.at.mono ?_); rintro x w4 ⟨⟨a4, p4, rfl, e4⟩, hb4⟩; refine Hid.out ?_)
          refine Lib.hid ?_
          have B4 : Below w.heap.size w w4 := bnext HB3.out hb4
          have s1 : SameIs (.slice a2 A.length p2) (.slice a3 A.length p3) w4 := same_any a2 a3 p2 p3 A w4 (by omega) (HE23.out.below hb4) (HE3.out.below hb4)
          have HB4 := Lib.hid B4
          clear c3 hb4 e4 B4 HE23 HE3
          go_wp2_with (go_at_call 10; (with_reducible refine s1.at.mono ?_); rintro x w5 ⟨rfl, hb5⟩)
          go_ret
          exact ⟨rfl, bnext HB4.out hb5⟩
end Go.Proofs.YtifkfidkokdijaaDoor.Arrs
