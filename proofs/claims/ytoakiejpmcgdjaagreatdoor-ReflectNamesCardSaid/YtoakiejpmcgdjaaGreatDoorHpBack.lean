/-
  slices.Backward at a list of properties: what it hands on, for every loop body that keeps the list.
-/
import Derived.Test.YtoakiejpmcgdjaaGreatDoorHpAll
namespace Go.Proofs.YtoakiejpmcgdjaaGreatDoor.Hp
open Go Go.RowKit Go.Maps Go.Shelf Go.Proofs.YtoakiejpmcgdjaaGreatDoor.Keys
set_option linter.unusedVariables false
set_option linter.unusedSimpArgs false
attribute [local go_sem] Oper.semAt_some
attribute [local go_sem ↓] ldE bxE bxN bdN
attribute [local irreducible] ecs ncs hcs
attribute [local go_sem] run_bx run_bdN ecs_0 ecs_1 ncs_20 ncs_21 ncs_22 hcs_23

/-- A slice's cells hold properties, in a block below n₀. -/
def EsAt (n₀ : Nat) (ao : Option Addr) (es : List En) (w : World) : Prop := ∀ j e, es[j]? = some e → ∃ b off, ao = some ⟨b, off, none⟩ ∧ b < n₀ ∧ enAt w b (off + j * 20) e
theorem EsAt.below {n₀ : Nat} {ao : Option Addr} {es : List En} {w w' : World} (h : EsAt n₀ ao es w) (hb : Below n₀ w w') : EsAt n₀ ao es w' := fun j e he => by
  obtain ⟨b, off, ha, hlt, hat⟩ := h j e he
  exact ⟨b, off, ha, hlt, enAt_below hat hb hlt⟩
theorem EsAt.mono {n₀ n₁ : Nat} {ao : Option Addr} {es : List En} {w : World} (h : EsAt n₀ ao es w) (hn : n₀ ≤ n₁) : EsAt n₁ ao es w := fun j e he => by
  obtain ⟨b, off, ha, hlt, hat⟩ := h j e he
  exact ⟨b, off, ha, by omega, hat⟩
/-- A property whose key a map may hold. -/
abbrev FE := { e : En // Fine (ekey e) }
def zeroF : FE := ⟨zeroE, by refine ⟨?_, ?_, ?_⟩ <;> decide⟩
theorem fe_list : ∀ (es : List En), (∀ e ∈ es, Fine (ekey e)) → ∃ fs : List FE, fs.map (·.1) = es
  | [], _ => ⟨[], rfl⟩
  | e :: es, h => by
    obtain ⟨fs, hf⟩ := fe_list es fun x hx => h x (by simp [hx])
    exact ⟨⟨e, h e (by simp)⟩ :: fs, by simp [hf]⟩
/-- What has come when k rounds are over: the last k, each with its place. -/
def back (es : List FE) (k : Nat) : List (Int × FE) := (List.range k).map fun j => (((es.length - 1 - j : Nat) : Int), (es[es.length - 1 - j]?).getD zeroF)
theorem back_succ (es : List FE) (k : Nat) : back es (k + 1) = back es k ++ [(((es.length - 1 - k : Nat) : Int), (es[es.length - 1 - k]?).getD zeroF)] := by simp [back, List.range_succ]
theorem back_length (es : List FE) (k : Nat) : (back es k).length = k := by simp [back]
theorem back_all (es : List FE) : (back es es.length).map (·.2) = es.reverse := by
  apply List.ext_getElem
  · simp [back]
  · intro i h1 h2
    simp [back] at h1 h2
    simp only [back, List.map_map, List.getElem_map, List.getElem_range, Function.comp_apply, List.getElem_reverse]
    rw [List.getElem?_eq_getElem (by omega)]
    rfl

set_option maxRecDepth 100000 in
set_option maxHeartbeats 1000000 in
theorem back1_in (F : Fence) (n : Nat) (hf : F.fn 89) (hro : F.round = none) (hn : 1 ≤ n) (l Bn n₀ : Nat) (ao : Option Addr) (cap : Nat) (es : List FE) (hlen : es.length ≤ 1000000) (J Jx : List (Int × FE) → World → Prop)
    (hY : ∀ pre x W, J pre W → pre.length < es.length → YieldAt F (n - 1) Tryz.prog l #[.int .i64 x.1, .agg (ecs x.2.1)] W fun e W' =>
      (e = .returned (.bool true) ∧ J (pre ++ [x]) W' ∧ Kept n₀ Bn W W') ∨ (e = .returned (.bool false) ∧ Jx (pre ++ [x]) W'))
    (W : World) (hBn : Blk W Bn #[.slice ao es.length cap] 84) (hL : EsAt n₀ ao (es.map (·.1)) W) (h0 : J [] W) :
    CallsIn F n Tryz.prog 89 #[.func (.yield l) #[] #[], .pointer (some ⟨Bn, 0, none⟩)] W fun e W' => (∃ v, e = .returned v) ∧
      ((∃ ys, ys = back es es.length ∧ J ys W') ∨ (∃ pre, (∃ k, k ≤ es.length ∧ pre = back es k) ∧ Jx pre W')) := by
  refine callsIn_of_wp Tryz.func89 rfl hf ?_ hro
  simp only [Tryz.ntmps89, List.size_toArray, List.length_cons, List.length_nil, Nat.reduceAdd, Nat.reduceSub, Array.replicate_succ, Array.replicate_zero, List.push_toArray, List.append_toArray, List.nil_append, List.cons_append]
  have c0 : W.cell? ⟨Bn, 0, none⟩ = some (.slice ao es.length cap) := hBn.cell 0
  gi_wp2
  clear c0
  gi_loopw [3] (fun p wr => ∃ k : Nat, k ≤ es.length ∧ p = .int .i64 ((es.length : Int) - 1 - k) ∧ EsAt n₀ ao (es.map (·.1)) wr ∧ Blk wr Bn #[.slice ao es.length cap] 84 ∧ J (back es k) wr)
    (fun p wr => (intOf p + 1).toNat)
  case atStart =>
    exact ⟨0, Nat.zero_le _, by simp, hL, hBn, h0⟩
  case round =>
    clear hBn hL h0
    obtain ⟨k, hk, rfl, hr, hb, hJs⟩ := hrel
    have c0 : wr.cell? ⟨Bn, 0, none⟩ = some (.slice ao es.length cap) := hb.cell 0
    by_cases hlt : k < es.length
    · obtain ⟨i, hi⟩ : ∃ i : Nat, es.length - 1 - k = i := ⟨_, rfl⟩
      have hil : i < es.length := by omega
      have hil2 : (i : Int) < es.length := by omega
      obtain ⟨e, he⟩ : ∃ e, es[i]? = some e := ⟨es[i], by simp [hil]⟩
      obtain ⟨b, off, rfl, hbl, hat⟩ := hr i e.1 (by simp [he])
      have le := run_ldE hat
      have hie : (es.length : Int) - 1 - k = i := by omega
      have hlen2 : (back es k).length < es.length := by rw [back_length]; exact hlt
      obtain ⟨fn, tmps, assign, body, hy, hR⟩ := hY (back es k) ((i : Int), e) wr hJs hlen2
      dsimp only at hy
      have HS : Hid (back es (k + 1) = back es k ++ [((i : Int), e)]) := by rw [back_succ, hi, he]; exact Lib.hid rfl
      have HL := Lib.hid hlt
      have HI := Lib.hid hi
      have HIE := Lib.hid hie
      rw [hie]
      clear hat hbl hY hlen2 hlt hi he hie
      gi_wp2
      refine hR.mono ?_
      rintro e3 W3 (⟨rfl, hJ3, hk3⟩ | ⟨rfl, hJx3⟩)
      · have hr3 := hr.below hk3.1
        have hb3 : Blk W3 Bn _ 84 := hk3.2.trans hb
        clear le c0
        gi_wp2
        go_roundw
        case rel => exact ⟨k + 1, HL.out, by rw [← HIE.out]; simp; omega, hr3, hb3, by rw [HS.out]; exact hJ3⟩
        case measure => simp [intOf]
      · gi_wp2
        refine bodyPost_ret (results_none rfl _ _ _) rfl ?_
        exact ⟨⟨_, rfl⟩, .inr ⟨_, ⟨k + 1, HL.out, HS.out.symm⟩, hJx3⟩⟩
    · obtain rfl : k = es.length := by omega
      have hie : (es.length : Int) - 1 - es.length = -1 := by omega
      rw [hie]
      clear hie hlt
      gi_wp2
      go_end0
      exact ⟨⟨_, rfl⟩, .inl ⟨_, rfl, hJs⟩⟩

set_option maxHeartbeats 1000000 in
theorem back_any (ao : Option Addr) (len cap : Nat) (w : World) : Calls Tryz.prog 81 #[.slice ao len cap] w fun e w' => e = .returned (.func (.func 89) #[] #[.pointer (some ⟨w.heap.size, 0, none⟩)]) ∧ w' = w.alloc (.cells #[.slice ao len cap] 84) := by
  go_enter Tryz.func81, Tryz.ntmps81
  go_wp2
  go_ret
  exact ⟨rfl, rfl⟩
theorem back_stops (F : Fence) (n : Nat) (hf : F.fn 89) (hro : F.round = none) (hn : 1 ≤ n) (Bn n₀ : Nat) (ao : Option Addr) (cap : Nat) (es : List FE) (hlen : es.length ≤ 1000000) (w : World) (hn₀ : n₀ ≤ w.heap.size)
    (hc : Blk w Bn #[.slice ao es.length cap] 84) (hL : EsAt n₀ ao (es.map (·.1)) w) :
    SeqStopsK F n Tryz.prog 89 #[.pointer (some ⟨Bn, 0, none⟩)] (fun x : Int × FE => #[.int .i64 x.1, .agg (ecs x.2.1)]) (Kept n₀ Bn) (fun ys => ys = back es es.length) (fun pre => ∃ k, k ≤ es.length ∧ pre = back es k) es.length w := fun l J Jx W hW _ _ hY h0 =>
  back1_in F n hf hro hn l Bn n₀ ao cap es hlen J Jx hY W (hc.below hW hc.lt) (hL.below (hW.mono hn₀)) h0
end Go.Proofs.YtoakiejpmcgdjaaGreatDoor.Hp
