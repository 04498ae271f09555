/-
  The ring's iterator: what it hands on, for every loop body that keeps the ring.
-/
import Derived.Test.YtoakiejpmcgdjaaGreatDoorHpIns
import Derived.RangeFuncNested
import Derived.RangeFuncBound
import Derived.RangeFuncCalls
import Derived.RangeFuncLeaves
import Derived.RangeFuncBox
import Derived.Shelf.Abstract
import Derived.Shelf.RegionOpen
import Derived.WalkKit
import Derived.OwnWalkIn
import Derived.TacticsInMore
import Derived.LoopNIn
import Derived.LoopIn
import Derived.LaidEql
namespace Go.Proofs.YtoakiejpmcgdjaaGreatDoor.Hp
open Go Go.RowKit Go.Maps Go.Shelf Go.Proofs.YtoakiejpmcgdjaaGreatDoor.Keys
set_option linter.unusedVariables false
set_option linter.unusedSimpArgs false
attribute [local go_sem] Oper.semAt_some
attribute [local go_sem ↓] ldE bxE bxN bdN
attribute [local irreducible] ecs ncs hcs
attribute [local go_sem] run_bx run_bdN ecs_0 ecs_1 ncs_20 ncs_21 ncs_22 hcs_23

def blkOf : Value → Nat
  | .pointer (some a) => a.block
  | _ => 0
/-- How many places are still to come. -/
def left (ns : List Nd) (v : Value) : Nat := (ns.dropWhile fun n => n.b != blkOf v).length
theorem left_at {pb : Nat} {pre rest : List Nd} (h : (blks pb (pre ++ rest)).Nodup) : left (pre ++ rest) (ptr (nxt rest pb)) = rest.length := by
  simp only [blks, List.map_append, List.nodup_cons, List.mem_append, not_or, List.nodup_append] at h
  obtain ⟨⟨h1, h2⟩, h3, h4, h5⟩ := h
  have key : ∀ p ∈ pre, (p.b != blkOf (ptr (nxt rest pb))) = true := fun p hp => by
    have hm : p.b ∈ pre.map (·.b) := List.mem_map.2 ⟨p, hp, rfl⟩
    simp only [bne_iff_ne, ne_eq]
    show ¬ p.b = nxt rest pb
    rcases nxt_mem rest pb with ⟨e, _⟩ | hn
    · rw [e]; exact fun e => h1 (e ▸ hm)
    · exact h5 p.b hm _ hn
  unfold left
  rw [List.dropWhile_append_of_pos key]
  cases rest with
  | nil => rfl
  | cons n r => simp [List.dropWhile, blkOf, nxt]
/-- What a round keeps: whatever lay below n₀, and one block besides. -/
def Kept (n₀ B : Nat) (W W' : World) : Prop := Below n₀ W W' ∧ W'.heap[B]? = W.heap[B]?
theorem Kept.refl (n₀ B : Nat) (W : World) : Kept n₀ B W W := ⟨Below.refl _ _, rfl⟩
theorem Kept.trans {n₀ B : Nat} {X Y Z : World} (h : Kept n₀ B X Y) (k : Kept n₀ B Y Z) : Kept n₀ B X Z := ⟨h.1.trans k.1, k.2.trans h.2⟩
theorem kept_b {n₀ B s : Nat} (h : n₀ ≤ s) (hB : B < s) : ∀ (W : World) (l : Nat) (o o' : Obj), s ≤ l → W.heap[l]? = some o → o.isCells = false → o.isWalk = false → Kept n₀ B W (W.putObj l o') :=
  fun W l o o' hl hk hc hw => ⟨(Below.refl n₀ W).grown (grownBy_putObj' W l o') (by have := (Array.getElem?_eq_some_iff.1 hk).1; omega) (fun k e => by cases e; omega), World.putObj_heap_other (by omega)⟩
theorem sizeN : (Tryz.prog.info? 162).map (·.size) = some 23 := by kernel_rfl
theorem infoN : ∃ i, Tryz.prog.info? 162 = some i ∧ i.size = 23 := by
  cases hq : Tryz.prog.info? 162 with
  | none => have := sizeN; rw [hq] at this; cases this
  | some i => exact ⟨i, rfl, by have := sizeN; rw [hq] at this; simpa using this⟩
theorem run_eqP (d : Nat) {w : World} {a b : Addr} {r : Bool} (hs : (sameAddr a b).run Tryz.prog w = .ok r w) : (Op.equalIn (d + 1) 160 (.pointer (some a)) (.pointer (some b))).run Tryz.prog w = .ok r w := by
  obtain ⟨i, hq, hi⟩ := infoN
  simp [Op.equalIn, run_underlying Tryz.underlying160, sizeOf, typeInfo, hq, hi, hs]
theorem run_neP {w : World} {a b : Addr} {r : Bool} (hs : (sameAddr a b).run Tryz.prog w = .ok r w) : (binOp .neq 160 (.pointer (some a)) (.pointer (some b))).run Tryz.prog w = .ok (.bool !r) w := by
  simp only [binOp]
  simp [Op.equal, Op.maxDepth, run_eqP 9999 hs]
theorem run_neq_same (w : World) (b : Nat) : (binOp .neq 160 (.pointer (some ⟨b, 0, none⟩)) (.pointer (some ⟨b, 0, none⟩))).run Tryz.prog w = .ok (.bool false) w := run_neP (run_sameAddr_same w _)
theorem run_neq_other {w : World} {b c : Nat} {cb cc : Array Value} {tb tc : TypeId} (hb : Blk w b cb tb) (hc : Blk w c cc tc) (hne : b ≠ c) : (binOp .neq 160 (.pointer (some ⟨b, 0, none⟩)) (.pointer (some ⟨c, 0, none⟩))).run Tryz.prog w = .ok (.bool true) w :=
  run_neP (run_sameAddr_other w (a := ⟨b, 0, none⟩) (b := ⟨c, 0, none⟩) (fun e => hne (by cases e; rfl)) hb hc)

set_option maxRecDepth 100000 in
set_option maxHeartbeats 1000000 in
theorem all1_in (F : Fence) (n : Nat) (hf : F.fn 198) (hro : F.round = none) (hn : 1 ≤ n) (l Bn n₀ pb mb : Nat) (ns : List Nd) (hlow : ∀ b ∈ blks pb ns, b < n₀) (J Jx : List En → World → Prop)
    (hY : ∀ pre x W, J pre W → pre.length < ns.length → YieldAt F (n - 1) Tryz.prog l #[.agg (ecs x)] W fun e W' =>
      (e = .returned (.bool true) ∧ J (pre ++ [x]) W' ∧ Kept n₀ Bn W W') ∨ (e = .returned (.bool false) ∧ Jx (pre ++ [x]) W'))
    (W : World) (hBn : Blk W Bn #[ptr pb] 152) (hL : Ring W pb mb ns) (h0 : J [] W) :
    CallsIn F n Tryz.prog 198 #[.func (.yield l) #[] #[], .pointer (some ⟨Bn, 0, none⟩)] W fun e W' => (∃ v, e = .returned v) ∧
      ((∃ ys, ys = ns.map (·.e) ∧ J ys W') ∨ (∃ pre, pre <+: ns.map (·.e) ∧ Jx pre W')) := by
  refine callsIn_of_wp Tryz.func198 rfl hf ?_ hro
  simp only [Tryz.ntmps198, List.size_toArray, List.length_cons, List.length_nil, Nat.reduceAdd, Nat.reduceSub, Array.replicate_succ, Array.replicate_zero, List.push_toArray, List.append_toArray, List.nil_append, List.cons_append]
  have c0 : W.cell? ⟨Bn, 0, none⟩ = some (.pointer (some ⟨pb, 0, none⟩)) := hBn.cell 0
  have c1 : W.cell? ⟨pb, 21, none⟩ = some (.pointer (some ⟨nxt ns pb, 0, none⟩)) := (hL.head.cell 21).trans (hcs_21 _ _ _)
  gi_wp2
  clear c0 c1
  gi_loopw [3] (fun p wr => ∃ (pre rest : List Nd), p = .pointer (some ⟨nxt rest pb, 0, none⟩) ∧ Hid (ns = pre ++ rest) ∧ Ring wr pb mb ns ∧ Blk wr Bn #[ptr pb] 152 ∧ J (pre.map (·.e)) wr)
    (fun p wr => left ns p)
  case atStart =>
    exact ⟨[], ns, rfl, Lib.hid rfl, hL, hBn, h0⟩
  case round =>
    clear hBn hL h0
    obtain ⟨pre, rest, rfl, hx, hr, hb, hJs⟩ := hrel
    have c0 : wr.cell? ⟨Bn, 0, none⟩ = some (.pointer (some ⟨pb, 0, none⟩)) := hb.cell 0
    cases rest with
    | nil =>
      have hnx : nxt [] pb = pb := rfl
      have hsame := run_neq_same wr pb
      rw [hnx]
      clear hnx
      gi_wp2
      go_end0
      exact ⟨⟨_, rfl⟩, .inl ⟨pre.map (·.e), by rw [hx.out]; simp, hJs⟩⟩
    | cons x rest =>
      have hsg := hr.seg
      have hap := hr.apart
      rw [hx.out] at hsg hap
      have hbl := ((seg_append wr pre (x :: rest) pb pb).1 hsg).2.1
      have hne : ¬ x.b = pb := by
        simp only [blks, List.map_append, List.map_cons, List.nodup_cons, List.mem_append, List.mem_cons, not_or] at hap
        exact fun e => hap.1.2.1 e.symm
      have le := run_ldE (enAt_node hbl)
      have hother := run_neq_other hbl hr.head hne
      have hnx : nxt (x :: rest) pb = x.b := rfl
      have hlen : (pre.map (·.e)).length < ns.length := by rw [hx.out]; simp
      obtain ⟨fn, tmps, assign, body, hy, hR⟩ := hY (pre.map (·.e)) x.e wr hJs hlen
      have HLW := Lib.hid hlow
      have HAP := Lib.hid hap
      clear hsg hap hbl hlow hY hlen
      rw [hnx]
      gi_wp2
      refine hR.mono ?_
      rintro e W3 (⟨rfl, hJ3, hk3⟩ | ⟨rfl, hJx3⟩)
      · have hr3 := hr.below hk3.1 HLW.out
        have hb3 : Blk W3 Bn #[ptr pb] 152 := hk3.2.trans hb
        have hsg := hr3.seg
        rw [hx.out] at hsg
        have hbl := ((seg_append W3 pre (x :: rest) pb pb).1 hsg).2.1
        have hq3 : W3.cell? ⟨x.b, 21, none⟩ = some (.pointer (some ⟨nxt rest pb, 0, none⟩)) := (hbl.cell 21).trans (ncs_21 _ _ _ _)
        clear hsg hbl le c0
        gi_wp2
        go_roundw
        case rel => exact ⟨pre ++ [x], rest, rfl, Lib.hid (by rw [hx.out]; simp), hr3, hb3, by rw [List.map_append]; exact hJ3⟩
        case measure =>
          have h1 := left_at HAP.out
          rw [hx.out]
          have h2 := left_at (pb := pb) (pre := pre ++ [x]) (rest := rest) (by simpa using HAP.out)
          rw [List.append_assoc, List.singleton_append] at h2
          rw [show (Value.pointer (some ⟨nxt rest pb, 0, none⟩)) = ptr (nxt rest pb) from rfl, h2]
          rw [show (Value.pointer (some ⟨x.b, 0, none⟩)) = ptr (nxt (x :: rest) pb) from rfl, h1]
          simp
      · gi_wp2
        refine bodyPost_ret (results_none rfl _ _ _) rfl ?_
        exact ⟨⟨_, rfl⟩, .inr ⟨pre.map (·.e) ++ [x.e], ⟨rest.map (·.e), by rw [hx.out]; simp⟩, hJx3⟩⟩

set_option maxHeartbeats 1000000 in
theorem all_any (pb : Nat) (w : World) : Calls Tryz.prog 180 #[ptr pb] w fun e w' => e = .returned (.func (.func 198) #[] #[.pointer (some ⟨w.heap.size, 0, none⟩)]) ∧ w' = w.alloc (.cells #[ptr pb] 152) := by
  go_enter Tryz.func180, Tryz.ntmps180
  go_wp2
  go_ret
  exact ⟨rfl, rfl⟩
theorem all_stops (F : Fence) (n : Nat) (hf : F.fn 198) (hro : F.round = none) (hn : 1 ≤ n) (Bn n₀ pb mb : Nat) (ns : List Nd) (hlow : ∀ b ∈ blks pb ns, b < n₀) (w : World) (hn₀ : n₀ ≤ w.heap.size)
    (hc : Blk w Bn #[ptr pb] 152) (hL : Ring w pb mb ns) :
    SeqStopsK F n Tryz.prog 198 #[.pointer (some ⟨Bn, 0, none⟩)] (fun x : En => #[.agg (ecs x)]) (Kept n₀ Bn) (fun ys => ys = ns.map (·.e)) (fun pre => pre <+: ns.map (·.e)) ns.length w := fun l J Jx W hW _ _ hY h0 =>
  all1_in F n hf hro hn l Bn n₀ pb mb ns hlow J Jx hY W (hc.below hW hc.lt) (hL.call hW) h0
end Go.Proofs.YtoakiejpmcgdjaaGreatDoor.Hp
