/-
  Heap.Keys.
-/
import Derived.Test.YtlhgiihooalanaaDoorHpKys
import Derived.Test.YtlhgiihooalanaaDoorHpHeap
import Derived.Test.YtlhgiihooalanaaDoorHpStore
namespace Go.Proofs.YtlhgiihooalanaaDoor.Hp
open Go Go.RowKit Go.Maps Go.Proofs.YtlhgiihooalanaaDoor.Keys
set_option linter.unusedVariables false
set_option linter.unusedSimpArgs false
/-- keys, in terms of the keys' list. -/
theorem pkeys_list (pb mb n : Nat) (ns : List Nd) (KS : List KV) (hKS : (ns.map fun x => ekey x.e) = KS) (w : World) (h : Obj1 w pb mb n ns) (hn : n ≤ 1000) (hlen : ns.length ≤ 100) :
    Calls Tryd.prog 19 #[ptr pb] w fun e w' => ∃ a c, e = .returned (.slice a KS.length c) ∧ w'.ownsRow w.heap.size 35 2 (.slice a KS.length c) KS.length (cellsK KS) ∧ Below w.heap.size w w' := by
  refine (pkeys_any pb mb n ns w h hn hlen).mono ?_
  rintro e w' ⟨v, rfl, hrow, hb⟩
  have e1 : (ns.map (·.e)).map ekey = KS := by rw [List.map_map, ← hKS]; rfl
  have e2 : (ns.map (·.e)).length = KS.length := by rw [← e1]; simp
  rw [e1, e2] at hrow
  rcases hrow.2 with ⟨h1, h2⟩ | ⟨g, cap, cur, h1, h2⟩
  · have h3 : v = .slice none KS.length 0 := by rw [h1, h2]
    rw [h3] at hrow ⊢
    exact ⟨none, 0, rfl, hrow, hb⟩
  · rw [h1] at hrow ⊢
    exact ⟨_, cap, rfl, hrow, hb⟩
/-- What Keys gives. -/
def HKs (w : World) (KS : List KV) (v : Value) (w' : World) : Prop := w'.ownsRow w.heap.size 35 2 v (ordF KS).length (cellsK (ordF KS)) ∧ Below w.heap.size w w'
/-- How Keys ends. -/
def HKeysPost (w : World) (KS : List KV) (e : Ending) (w' : World) : Prop := ∃ v, e = .returned v ∧ HKs w KS v w'
section
attribute [local irreducible] ecs ncs hcs dcs tcs ocs ordF cellsK HKs
attribute [local go_sem] ocs_24
set_option maxRecDepth 100000 in
set_option maxHeartbeats 800000 in
theorem hkeys (hb g ob pb n c : Nat) (room sy : Int) (th : Th) (w : World) (h : Blk w hb (hp room (.slice (some ⟨g, 0, none⟩) n c) sy) 51) (hn : 0 < n) (hc : w.cell? ⟨g, 0, none⟩ = some (ptr ob)) (hob : Blk w ob (ocs th pb) 57) (KS : List KV)
    (hk : Calls Tryd.prog 19 #[ptr pb] w fun e w' => ∃ a c, e = .returned (.slice a KS.length c) ∧ w'.ownsRow w.heap.size 35 2 (.slice a KS.length c) KS.length (cellsK KS) ∧ Below w.heap.size w w')
    (ho : ∀ a c w3, w3.ownsRow w.heap.size 35 2 (.slice a KS.length c) KS.length (cellsK KS) → Below w.heap.size w w3 → Calls Tryd.prog 18 #[.slice a KS.length c] w3 (HKeysPost w KS)) :
    Calls Tryd.prog 10 #[ptr hb, .int .i64 0] w (HKeysPost w KS) := by
  have c24 : w.cell? ⟨ob, 24, none⟩ = some (ptr pb) := by rw [hob.cell, ocs_24]
  have hobj := object_some hb g ob room n c 0 sy w h hn hc
  have P2 := Lib.hid hk
  have P3 := Lib.hid ho
  clear h hc hob hk ho
  go_enter Tryd.func10, Tryd.ntmps10
  go_wp2_with (first | (go_at_call 16; refine hobj.mono ?_; rintro e w2 ⟨rfl, rfl⟩) | (go_at_call 19; refine P2.out.mono ?_; rintro e w3 ⟨a, cp, rfl, hrow, hbel⟩; refine Hid.out ?_))
  refine Lib.hid ?_
  have hord := P3.out a cp w3 hrow hbel
  clear hrow hbel P2 P3
  go_wp2_with (go_at_call 18; refine hord.mono ?_; rintro e w4 ⟨v, rfl, hpo⟩)
  go_ret
  exact ⟨v, rfl, hpo⟩
end
/-- Heap.Keys: the order of keys.Order, whatever stands in the object. -/
theorem hkeys_any (hb g ob pb n c : Nat) (room sy : Int) (th : Th) (w : World) (h : Blk w hb (hp room (.slice (some ⟨g, 0, none⟩) n c) sy) 51) (hn : 0 < n) (hc : w.cell? ⟨g, 0, none⟩ = some (ptr ob)) (hob : Blk w ob (ocs th pb) 57) (mb m : Nat) (ns : List Nd) (KS : List KV) (hKS : (ns.map fun x => ekey x.e) = KS) (h1 : Obj1 w pb mb m ns) (hm : m ≤ 1000) (hlen : ns.length ≤ 100) (hf : ∀ k ∈ KS, Fine k) (hL : Nums.Lw w) :
    Calls Tryd.prog 10 #[ptr hb, .int .i64 0] w (HKeysPost w KS) := by
  have hl : KS.length ≤ 100 := by rw [← hKS]; simp; exact hlen
  refine hkeys hb g ob pb n c room sy th w h hn hc hob KS (pkeys_list pb mb m ns KS hKS w h1 hm hlen) fun a c' w3 hrow hbel => ?_
  have hsz := hbel.size
  refine (order_any a c' KS w3 (hL.below hbel) (by omega) (keysAt_own hrow) hf).mono ?_
  rintro e w4 ⟨v, rfl, hr, hb4⟩
  exact ⟨v, rfl, hr.mono (by omega), hbel.trans (hb4.mono hsz)⟩
end Go.Proofs.YtlhgiihooalanaaDoor.Hp
