/-
  Texts of this seat in build order: MwTurn, MwHeap, HpOps, MwHeap2, MwHeap3, MoSmall.
-/
import Derived.Test.YtblbeinnfbohbaaMz09
import Derived.Test.YtblbeinnfbohbaaMz08
import Derived.Test.YtblbeinnfbohbaaMz06
import Derived.Deep.RegionWith
import Derived.Handy
/-
  What a turn of one object, or a new object, leaves of a world. Plain mathematics.
-/
namespace Go.Proofs.Ytblbeinnfbohbaa.Mw
open Go Go.RowKit Go.Maps Go.Proofs.Ytblbeinnfbohbaa.Keys Go.Proofs.Ytblbeinnfbohbaa.Hp Go.Proofs.Ytblbeinnfbohbaa.Mo
open Go.Proofs.Ytblbeinnfbohbaa.Des (Vl Ds zeroV zeroD dcs dcs_size dcs_one)
open Go.Proofs.Ytblbeinnfbohbaa.Arrs (En ecs)
set_option linter.unusedVariables false
set_option linter.unusedSimpArgs false
theorem blk_nemap {w : World} {b mb n : Nat} {cs : Array Value} {t : TypeId} {f : KV → Option Nat} (h : Blk w b cs t) (hm : MapIs w mb n f) : b ≠ mb := fun e => by
  obtain ⟨es, c, ho⟩ := hm.obj
  subst e
  rw [show w.heap[b]? = _ from h] at ho
  cases ho
section

variable {X : Cx} {c : Nat} {M : Wm} {w w' : World} {A : Aw}

theorem WIs.os_shape (h : WIs X c M w A) : ∃ a cc, M.os = .slice a A.objs.length cc := by
  obtain ⟨a, cc, e⟩ := Hp.own_shape h.orow
  exact ⟨a, cc, e⟩
theorem at_none {o : Int} (h : at? A o = none) : o < 0 ∨ (A.objs.length : Int) ≤ o := by
  unfold at? at h
  split at h
  · exact .inl ‹_›
  · right
    rw [List.getElem?_eq_none_iff] at h
    omega
theorem at_some {o : Int} {x : Ob} (h : at? A o = some x) : ∃ i : Nat, o = i ∧ A.objs[i]? = some x := by
  unfold at? at h
  split at h
  · cases h
  · exact ⟨o.toNat, by omega, h⟩
theorem at_nat {i : Nat} {x : Ob} (h : A.objs[i]? = some x) : at? A (i : Int) = some x := by
  unfold at?
  rw [if_neg (by omega)]
  simpa using h
/-- An object of a world. -/
theorem WIs.obj (h : WIs X c M w A) {o : Int} {x : Ob} (hx : at? A o = some x) : ∃ (i : Nat) (q : Oq) (g cc : Nat), o = i ∧ A.objs[i]? = some x ∧ M.qs[i]? = some q ∧ ObIs w q x ∧ M.os = .slice (some ⟨g, 0, none⟩) A.objs.length cc ∧ w.cell? ⟨g, i, none⟩ = some (ptr q.ob) ∧ i < A.objs.length := by
  obtain ⟨i, rfl, hi⟩ := at_some hx
  obtain ⟨q, hq, hr⟩ := all2_get h.objs hi
  have hlt : i < A.objs.length := (List.getElem?_eq_some_iff.1 hi).1
  have horow := h.orow
  rcases h.orow.2 with ⟨h1, h2⟩ | ⟨g, cap, cur, h1, -, -, -⟩
  · omega
  · rw [h1] at horow
    refine ⟨i, q, g, cap, rfl, hi, hq, hr, h1, ?_, hlt⟩
    rw [horow.cellAt i (by omega), List.getElem?_map, hq]
    rfl
theorem ObIs.nota {q : Oq} {x : Ob} (h : ObIs w q x) {b : Nat} {cs : Array Value} {t : TypeId} (hb : Blk w b cs t) (h1 : t ≠ 102) (h2 : t ≠ 127) (h3 : t ≠ 130) : b ∉ q.cb := fun hm => by
  rcases List.mem_cons.1 hm with rfl | hm
  · exact ne_blk hb h.blk h1 rfl
  · rcases List.mem_cons.1 hm with rfl | hm
    · obtain ⟨es, c, ho⟩ := h.obj.map.obj
      rw [show w.heap[q.mb]? = _ from hb] at ho
      cases ho
    · exact h.obj.ring.notblk hb h2 h3 hm
theorem set_eq {α β : Type} (f : α → β) (l : List α) (i : Nat) (a b : α) (hb : l[i]? = some b) (h : f a = f b) : (l.set i a).map f = l.map f := by
  apply List.ext_getElem?
  intro j
  rw [List.getElem?_map, List.getElem?_set, List.getElem?_map]
  by_cases hj : i = j
  · subst hj
    rw [hb]
    simp [(List.getElem?_eq_some_iff.1 hb).1, h]
  · rw [if_neg hj]
theorem own_typ {base : Nat} {e : TypeId} {size n : Nat} {v : Value} {xs : List Value} (h : w.ownsRow base e size v n xs) {b : Nat} (hb : b ∈ obl v) : ∃ cs, Blk w b cs e := by
  unfold obl at hb
  rcases h.2 with ⟨h1, -⟩ | ⟨g, cap, cur, h1, -, h3, -⟩
  · rw [h1] at hb; simp [Value.ownBlock] at hb
  · rw [h1] at hb
    simp [Value.ownBlock] at hb
    rw [hb]
    exact ⟨cur, h3⟩
/-- One object turned. -/
theorem WIs.turn (h : WIs X c M w A) {i c' : Nat} {q q' : Oq} {x x' : Ob} (hi : M.qs[i]? = some q) (hx : A.objs[i]? = some x) (hf : Fr w w') (hs : ∀ b, b < w.heap.size → b ∉ q.cb → w'.heap[b]? = w.heap[b]?) (ho : ObIs w' q' x') (hob : q'.ob = q.ob) (hsub : ∀ b ∈ q'.bl, b ∈ q.bl ∨ w.heap.size ≤ b)
    (hn : q'.n + 8 * A.fuel.toNat + c' ≤ 900000) (hc : c' ≤ c) (hk : X.px = false → x'.th.kind ≠ 4) : Left X c' M w (setOb A i x') w' { M with qs := M.qs.set i q' } := by
  have hq : ObIs w q x := h.objs.el i q x hi hx
  have hsame : ∀ {b : Nat} {cs : Array Value} {t : TypeId}, Blk w b cs t → t ≠ 102 → t ≠ 127 → t ≠ 130 → w'.heap[b]? = w.heap[b]? := fun hb h1 h2 h3 => hs _ hb.lt (hq.nota hb h1 h2 h3)
  have hnx : Nx (M.bl X.wb) w (({ M with qs := M.qs.set i q' } : Wm).bl X.wb) w' := by
    refine ⟨⟨hf, fun b hb hn => hs b hb fun hm => hn (mem_bl hi (List.mem_append_right _ hm))⟩, fun b hb => ?_⟩
    simp only [Wm.bl, List.mem_cons, List.mem_append, List.mem_flatMap] at hb
    rcases hb with hb | hb | hb | hb | hb | hb | ⟨p, hp, hb⟩
    · exact .inl (hb ▸ mem_wb M _)
    · exact .inl (hb ▸ mem_hb M _)
    · exact .inl (mem_os hb)
    · exact .inl (mem_ls hb)
    · exact .inl (mem_sb hb)
    · exact .inl (mem_rl hb)
    · rcases List.mem_or_eq_of_mem_set hp with hp | rfl
      · exact .inl (mem_qs hp hb)
      · rcases hsub b hb with hb | hb
        · exact .inl (mem_bl hi hb)
        · exact .inr hb
  have hlt : i < A.objs.length := (List.getElem?_eq_some_iff.1 hx).1
  have hlen : (A.objs.set i x').length = A.objs.length := by simp
  refine ⟨?_, hnx⟩
  have hmapob : (M.qs.set i q').map (fun q => ptr q.ob) = M.qs.map fun q => ptr q.ob := set_eq _ _ _ _ _ hi (by rw [hob])
  refine ⟨(hsame h.wblk (by decide) (by decide) (by decide)).trans h.wblk, (hsame h.hblk (by decide) (by decide) (by decide)).trans h.hblk, ?_, own_same h.lrow fun b cs _ hb => hsame hb (by decide) (by decide) (by decide), ?_, ?_, fun b hb => Nat.lt_of_lt_of_le (h.rlt b hb) hf.size, ?_, Nx.low h hnx, h.next hnx, h.lw, h.fuel, ?_, ?_, by have := h.logn; first | omega | (show A.log.length + 8 * A.fuel.toNat + _ ≤ _; omega), h.dep0, h.dep1, h.deep, h.dpe, h.dle, ?_⟩
  · show w'.ownsRow 0 _ 1 M.os (A.objs.set (i : Int).toNat x').length _
    rw [List.length_set, hmapob]
    exact own_same h.orow fun b cs _ hb => hsame hb (by decide) (by decide) (by decide)
  · show All2 (ObIs w') (M.qs.set i q') (A.objs.set (i : Int).toNat x')
    rw [Int.toNat_natCast]
    refine all2_set h.objs ho fun j p y hj hp hy hpy => hpy.same (fun b hb => hs b (hpy.ltc b hb) fun hm => h.apart j i p q hj hp hi b (List.mem_append_right _ hb) (List.mem_append_right _ hm)) fun b hb => ?_
    obtain ⟨cs, hbl⟩ := hpy.argT hb
    exact hsame hbl (by decide) (by decide) (by decide)
  · refine forall2_imp h.log fun b _ s hsn => hsn.same ?_ (fun b cs _ hb => hsame hb (by decide) (by decide) (by decide)) (fun b cs _ hb => hsame hb (by decide) (by decide) (by decide)) (fun _ h => h)
    obtain ⟨l, k, hb, -⟩ := hsn
    exact hsame hb (by decide) (by decide) (by decide)
  · intro j k p r hjk hp hr b hb hb'
    have hset : ∀ (j : Nat) (p : Oq), (M.qs.set i q')[j]? = some p → (j = i ∧ p = q') ∨ (j ≠ i ∧ M.qs[j]? = some p) := fun j p hp => by
      rw [List.getElem?_set] at hp
      by_cases hj : i = j
      · subst hj
        simp only [if_true] at hp
        split at hp
        · simp at hp; exact .inl ⟨rfl, hp.symm⟩
        · cases hp
      · rw [if_neg hj] at hp
        exact .inr ⟨fun e => hj e.symm, hp⟩
    have old : ∀ (j : Nat) (p : Oq), M.qs[j]? = some p → ∀ b ∈ p.bl, b < w.heap.size := fun j p hp b hb => h.lt b (mem_bl hp hb)
    rcases hset j p hp with ⟨rfl, rfl⟩ | ⟨hj, hp2⟩ <;> rcases hset k r hr with ⟨rfl, rfl⟩ | ⟨hk', hr2⟩
    · exact hjk rfl
    · rcases hsub b hb with hb | hb
      · exact h.apart j k q r hjk hi hr2 b hb hb'
      · have := old k r hr2 b hb'; omega
    · rcases hsub b hb' with hb' | hb'
      · exact h.apart j k p q hjk hp2 hi b hb hb'
      · have := old j p hp2 b hb; omega
    · exact h.apart j k p r hjk hp2 hr2 b hb hb'
  · show (A.objs.set (i : Int).toNat x').length + 8 * A.fuel.toNat + c' ≤ 900000
    rw [List.length_set]
    have := h.few
    omega
  · intro p hp
    show p.n + 8 * A.fuel.toNat + c' ≤ 900000
    rcases List.mem_or_eq_of_mem_set hp with hp | rfl
    · have := h.num p hp; omega
    · exact hn
  · intro hpx y hy
    have hy' : y ∈ A.objs.set (i : Int).toNat x' := hy
    rcases List.mem_or_eq_of_mem_set hy' with hy | rfl
    · exact h.nopx hpx y hy
    · exact hk hpx
/-- A new object. -/
theorem WIs.grow (h : WIs X (c + 1) M w A) {q' : Oq} {x' : Ob} {os' : Value} (hf : Fr w w') (hs : ∀ b, b < w.heap.size → b ≠ M.hb → some b ≠ M.os.ownBlock → w'.heap[b]? = w.heap[b]?)
    (hhb : Blk w' M.hb (hp A.room os' A.sy) 75) (hrow : w'.ownsRow 0 98 1 os' (A.objs.length + 1) ((M.qs.map fun q => ptr q.ob) ++ [ptr q'.ob])) (hos : ∀ b ∈ obl os', some b = M.os.ownBlock ∨ w.heap.size ≤ b)
    (ho : ObIs w' q' x') (hsub : ∀ b ∈ q'.bl, w.heap.size ≤ b) (hn : q'.n + 8 * A.fuel.toNat + c ≤ 900000) (hk : X.px = false → x'.th.kind ≠ 4) : Left X c M w { A with objs := A.objs ++ [x'] } w' { M with os := os', qs := M.qs ++ [q'] } := by
  have hsame : ∀ {b : Nat} {cs : Array Value} {t : TypeId}, Blk w b cs t → t ≠ 75 → t ≠ 98 → w'.heap[b]? = w.heap[b]? := fun hb h1 h2 => hs _ hb.lt (ne_blk hb h.hblk h1) fun e => by
    obtain ⟨cs', hb'⟩ := row_lt h.orow (obl_mem e)
    exact ne_blk hb hb' h2 rfl
  have hob : ∀ b, some b = M.os.ownBlock → b ∈ M.bl X.wb := fun b hb => mem_os (obl_mem hb)
  have hnx : Nx (M.bl X.wb) w (({ M with os := os', qs := M.qs ++ [q'] } : Wm).bl X.wb) w' := by
    refine ⟨⟨hf, fun b hb hn => hs b hb (fun e => hn (by rw [e]; exact mem_hb M _)) fun e => hn (hob b e)⟩, fun b hb => ?_⟩
    simp only [Wm.bl, List.mem_cons, List.mem_append, List.flatMap_append, List.flatMap_cons, List.flatMap_nil, List.append_nil] at hb
    rcases hb with hb | hb | hb | hb | hb | hb | hb | hb
    · exact .inl (hb ▸ mem_wb M _)
    · exact .inl (hb ▸ mem_hb M _)
    · rcases hos b hb with hb | hb
      · exact .inl (hob b hb)
      · exact .inr hb
    · exact .inl (mem_ls hb)
    · exact .inl (mem_sb hb)
    · exact .inl (mem_rl hb)
    · obtain ⟨q, hq, hb⟩ := List.mem_flatMap.1 hb
      exact .inl (mem_qs hq hb)
    · exact .inr (hsub b hb)
  have hmap : ∀ {m : Nat} {n : Nat} {f : KV → Option Nat}, MapIs w m n f → w'.heap[m]? = w.heap[m]? := fun hm => hs _ hm.lt (fun e => blk_nemap h.hblk hm e.symm) fun e => by
    obtain ⟨cs', hb'⟩ := row_lt h.orow (obl_mem e)
    exact blk_nemap hb' hm rfl
  refine ⟨⟨(hsame h.wblk (by decide) (by decide)).trans h.wblk, hhb, ?_, own_same h.lrow fun b cs _ hb => hsame hb (by decide) (by decide), ?_, forall2_imp h.log fun b _ s hsn => hsn.same ?_ (fun b cs _ hb => hsame hb (by decide) (by decide)) (fun b cs _ hb => hsame hb (by decide) (by decide)) (fun _ h => h), fun b hb => Nat.lt_of_lt_of_le (h.rlt b hb) hf.size, ?_, Nx.low h hnx, h.next hnx, h.lw, h.fuel, ?_, ?_, by have := h.logn; first | omega | (show A.log.length + 8 * A.fuel.toNat + _ ≤ _; omega), h.dep0, h.dep1, h.deep, h.dpe, h.dle, ?_⟩, hnx⟩
  · show w'.ownsRow 0 _ 1 os' (A.objs ++ [x']).length ((M.qs ++ [q']).map _)
    rw [List.length_append, List.map_append]
    exact hrow
  · refine all2_app h.objs ho fun p hp y hpy => hpy.same (fun b hb => ?_) fun b hb => ?_
    · rcases List.mem_cons.1 hb with rfl | hb
      · exact hsame hpy.blk (by decide) (by decide)
      · rcases List.mem_cons.1 hb with rfl | hb
        · exact hmap hpy.obj.map
        · obtain ⟨cs, t, hbl, ht⟩ := hpy.obj.ring.cells b hb
          exact hsame hbl (by rcases ht with rfl | rfl <;> decide) (by rcases ht with rfl | rfl <;> decide)
    · obtain ⟨cs, hbl⟩ := hpy.argT hb
      exact hsame hbl (by decide) (by decide)
  · obtain ⟨l, k, hb, -⟩ := hsn
    exact hsame hb (by decide) (by decide)
  · have old : ∀ (j : Nat) (p : Oq), M.qs[j]? = some p → ∀ b ∈ p.bl, b < w.heap.size := fun j p hp b hb => h.lt b (mem_bl hp hb)
    have hset : ∀ (j : Nat) (p : Oq), (M.qs ++ [q'])[j]? = some p → (j = M.qs.length ∧ p = q') ∨ M.qs[j]? = some p := fun j p hp => by
      rw [List.getElem?_append] at hp
      split at hp
      · exact .inr hp
      · cases hk : j - M.qs.length with
        | zero => rw [hk] at hp; simp at hp; exact .inl ⟨by omega, hp.symm⟩
        | succ n => rw [hk] at hp; simp at hp
    intro j k p r hjk hp hr b hb hb'
    rcases hset j p hp with ⟨rfl, rfl⟩ | hp2 <;> rcases hset k r hr with ⟨rfl, rfl⟩ | hr2
    · exact hjk rfl
    · have := old k r hr2 b hb'; have := hsub b hb; omega
    · have := old j p hp2 b hb; have := hsub b hb'; omega
    · exact h.apart j k p r hjk hp2 hr2 b hb hb'
  · show (A.objs ++ [x']).length + 8 * A.fuel.toNat + c ≤ 900000
    have := h.few
    simp
    omega
  · intro p hp
    show p.n + 8 * A.fuel.toNat + c ≤ 900000
    rcases List.mem_append.1 hp with hp | hp
    · have := h.num p hp; omega
    · rw [List.mem_singleton.1 hp]; exact hn
  · intro hpx y hy
    rcases List.mem_append.1 (show y ∈ A.objs ++ [x'] from hy) with hy | hy
    · exact h.nopx hpx y hy
    · rw [List.mem_singleton.1 hy]; exact hk hpx
end

end Go.Proofs.Ytblbeinnfbohbaa.Mw

/-
  What the heap's calls leave of a world.
-/
namespace Go.Proofs.Ytblbeinnfbohbaa.Mw
open Go Go.RowKit Go.Maps Go.Proofs.Ytblbeinnfbohbaa.Keys Go.Proofs.Ytblbeinnfbohbaa.Hp Go.Proofs.Ytblbeinnfbohbaa.Mo
open Go.Proofs.Ytblbeinnfbohbaa.Des (Vl Ds zeroV zeroD dcs dcs_size dcs_one)
open Go.Proofs.Ytblbeinnfbohbaa.Arrs (En ecs)
set_option linter.unusedVariables false
set_option linter.unusedSimpArgs false
section

variable {X : Cx} {c : Nat} {M : Wm} {w w' : World} {A : Aw}

theorem ObIs.ok {q : Oq} {x : Ob} (h : ObIs w q x) : ({ x.th with args := q.args } : Th).ok := by
  obtain ⟨a, cc, e⟩ := Hp.own_shape h.row
  exact ⟨⟨_, _, _, h.nop⟩, ⟨a, _, cc, e⟩⟩
theorem th_same {t : Th} {v : Value} (h : t.args = nilS) : ({ ({ t with args := v } : Th) with args := nilS } : Th) = t := by
  cases t
  simp only at h ⊢
  rw [h]
theorem wHead_some (h : WIs X c M w A) {o : Int} {x : Ob} (hx : at? A o = some x) :
    Calls Try.prog 41 #[ptr M.hb, .int .i64 o] w fun e w' => e = .returned (.tuple #[.agg (tcs x.th), .bool true]) ∧ Below w.heap.size w w' := by
  obtain ⟨i, q, g, cc, rfl, hi, hq, hr, hos, hc, hlt⟩ := h.obj hx
  have hb := h.hblk
  rw [hos] at hb
  have := head_some M.hb g q.ob q.pb A.objs.length cc i A.room A.sy _ w hb hlt hc hr.blk hr.ok
  rw [th_same hr.noa] at this
  exact this
theorem wHead_none (h : WIs X c M w A) {o : Int} (hx : at? A o = none) :
    Calls Try.prog 41 #[ptr M.hb, .int .i64 o] w fun e w' => e = .returned (.tuple #[.agg (tcs zeroT), .bool false]) ∧ Below w.heap.size w w' := by
  obtain ⟨a, cc, e⟩ := h.os_shape
  have hb := h.hblk
  rw [e] at hb
  exact head_none M.hb _ a A.objs.length cc _ o w hb (at_none hx)
theorem find_look {ns : List Nd} {k : KV} {b : Nat} (h : Hp.look ns k = some b) : ∃ l x r, ns = l ++ x :: r ∧ ekey x.e = k ∧ x.b = b ∧ find (ns.map (·.e)) k = some x.e.d := by
  obtain ⟨l, x, r, rfl, h1, h2, h3⟩ := look_at h
  refine ⟨l, x, r, rfl, h1, h2, ?_⟩
  unfold find
  rw [List.map_append, List.find?_append]
  have : (l.map (·.e)).find? (fun e => decide (ekey e = k)) = none := by
    rw [List.find?_eq_none]
    intro e he
    obtain ⟨y, hy, rfl⟩ := List.mem_map.1 he
    simpa using look_none.1 h3 y hy
  rw [this]
  simp [h1]
theorem find_none {ns : List Nd} {k : KV} (h : Hp.look ns k = none) : find (ns.map (·.e)) k = none := by
  unfold find
  rw [Option.map_eq_none_iff, List.find?_eq_none]
  intro e he
  obtain ⟨y, hy, rfl⟩ := List.mem_map.1 he
  simpa using look_none.1 h y hy
theorem own_at {o : Int} {x : Ob} (hx : at? A o = some x) (k : KV) : ownF A o k = find x.es k := by unfold ownF; rw [hx]; rfl
theorem own_no {o : Int} (hx : at? A o = none) (k : KV) : ownF A o k = none := by unfold ownF; rw [hx]; rfl
section

attribute [local go_sem ↓] ldE ldD alD stD bdDs

attribute [local irreducible] ecs ncs hcs dcs

attribute [local go_sem] run_bx run_alD run_bdDs

end

end

end Go.Proofs.Ytblbeinnfbohbaa.Mw

/-
  The heap's own calls around an object's properties.
-/
namespace Go.Proofs.Ytblbeinnfbohbaa.Hp
open Go Go.RowKit Go.Maps Go.Proofs.Ytblbeinnfbohbaa.Keys
open Go.Proofs.Ytblbeinnfbohbaa.Des (Vl Ds zeroV zeroD dcs dcs_size dcs_one)
open Go.Proofs.Ytblbeinnfbohbaa.Arrs (En ecs ecs_0 ecs_1 ecs_10 ecs_size ecs_list ecs_one ecs_one')
set_option linter.unusedVariables false
set_option linter.unusedSimpArgs false
section

attribute [local go_sem ↓] ldE ldD alD stD bdDs

attribute [local irreducible] ecs ncs hcs dcs tcs ocs

attribute [local go_sem] run_bx run_alD run_bdDs ecs_0 ecs_1 ocs_24

set_option maxRecDepth 100000 in
set_option maxHeartbeats 2000000 in
theorem hput (hb g ob pb n c : Nat) (room sy : Int) (th : Th) (k : KV) (d : Ds) (w : World) (h : Blk w hb (hp room (.slice (some ⟨g, 0, none⟩) n c) sy) 75) (o : Nat) (hn : o < n) (hc : w.cell? ⟨g, o, none⟩ = some (ptr ob)) (hob : Blk w ob (ocs th pb) 102) (Q : World → World → Prop)
    (hp : ∀ w1, Below w.heap.size w w1 → Calls Try.prog 37 #[ptr pb, .agg #[.string k.1, .int .i64 k.2], .agg (dcs d)] w1 fun e w' => e = .returned (.tuple #[]) ∧ Q w1 w') :
    Calls Try.prog 29 #[ptr hb, .int .i64 o, .agg #[.string k.1, .int .i64 k.2], .agg (dcs d)] w fun e w' => e = .returned (.bool true) ∧ ∃ w1, Below w.heap.size w w1 ∧ Q w1 w' := by
  obtain ⟨W1, hW1⟩ : ∃ W1, w.alloc (.cells #[.string k.1, .int .i64 k.2] 91) = W1 := ⟨_, rfl⟩
  have k1 : W1.heap.size = w.heap.size + 1 := by rw [← hW1]; simp
  obtain ⟨W2, hW2⟩ : ∃ W2, W1.alloc (.cells (dcs d) 34) = W2 := ⟨_, rfl⟩
  have b2 : Below w.heap.size w W2 := by rw [← hW2, ← hW1]; exact ((Below.refl _ w).alloc (Nat.le_refl _) _).alloc (by simp) _
  have y2 : Blk W2 w.heap.size #[.string k.1, .int .i64 k.2] 91 := by rw [← hW2, ← hW1]; exact (Blk.new w _ _).old _
  have z2 : Blk W2 (w.heap.size + 1) (dcs d) 34 := by
    have := Blk.new W1 (dcs d) 34
    rw [hW2, k1] at this
    exact this
  have l0 := y2.cell 0
  have l1 := y2.cell 1
  have ld := run_ldMid (w := W2) (b := w.heap.size + 1) (o := 0) (d := d) (fun j v hv => by rw [Nat.zero_add]; exact (z2.cell j).trans (by simpa using hv))
  have ldd := run_ldMid (w := W2.drew) (b := w.heap.size + 1) (o := 0) (d := d) (fun j v hv => by rw [Nat.zero_add]; exact (z2.cell j).trans (by simpa using hv))
  have c24 : W2.cell? ⟨ob, 24, none⟩ = some (ptr pb) := by rw [(hob.call b2).cell, ocs_24]
  have hobj := object_some hb g ob room n c o sy W2 (h.call b2) hn ((b2.cell (World.block_lt_of_cell? w _ hc)).trans hc)
  have B2 := Lib.hid b2
  have P2 := Lib.hid (hp W2 b2)
  have P3 := Lib.hid (hp W2.drew b2.drew)
  clear h hc hob hp y2 z2 b2
  go_enter Try.func29, Try.ntmps29
  go_wp2_with (go_at_call 36; refine hobj.mono ?_; rintro e w2 ⟨rfl, rfl⟩)
  go_region_with (go_at_call 37; refine P3.out.mono ?_; rintro e w' ⟨rfl, hq⟩)
  all_goals go_wp2
  all_goals go_ret
  all_goals exact ⟨rfl, _, B2.out.drew, hq⟩
end

end Go.Proofs.Ytblbeinnfbohbaa.Hp

/-
  What Put, Drop, Keys, Get, Set and Make leave of a world.
-/
namespace Go.Proofs.Ytblbeinnfbohbaa.Mw
open Go Go.RowKit Go.Maps Go.Proofs.Ytblbeinnfbohbaa.Keys Go.Proofs.Ytblbeinnfbohbaa.Hp Go.Proofs.Ytblbeinnfbohbaa.Mo
open Go.Proofs.Ytblbeinnfbohbaa.Des (Vl Ds zeroV zeroD dcs dcs_size dcs_one)
open Go.Proofs.Ytblbeinnfbohbaa.Arrs (En ecs)
set_option linter.unusedVariables false
set_option linter.unusedSimpArgs false
section

variable {X : Cx} {c : Nat} {M : Wm} {w w' : World} {A : Aw}

theorem put_none (hb : Nat) (room : Int) (a : Option Addr) (n c : Nat) (sy o : Int) (k : KV) (d : Ds) (w : World) (h : Blk w hb (hp room (.slice a n c) sy) 75) (ho : o < 0 ∨ (n : Int) ≤ o) :
    Calls Try.prog 29 #[ptr hb, .int .i64 o, .agg (kcs k), .agg (dcs d)] w fun e w' => (∃ b, e = .returned (.bool b)) ∧ Below w.heap.size w w' := by
  obtain ⟨w1, hw1⟩ : ∃ w1, (w.alloc (.cells #[.string k.1, .int .i64 k.2] 91)).alloc (.cells (dcs d) 34) = w1 := ⟨_, rfl⟩
  have b1 : Below w.heap.size w w1 := by rw [← hw1]; exact ((Below.refl _ w).alloc (Nat.le_refl _) _).alloc (by simp) _
  have hob := object_none hb room a n c sy o w1 (h.call b1) ho
  have B1 := Lib.hid b1
  clear h ho b1
  unfold kcs
  go_enter Try.func29, Try.ntmps29
  go_wp2_with (go_at_call 36; refine hob.mono ?_; rintro e wz ⟨rfl, rfl⟩)
  go_ret
  exact ⟨⟨_, rfl⟩, B1.out⟩
/-- An object whose ring turned. -/
theorem ObIs.turned {q : Oq} {x : Ob} {n : Nat} {ns : List Nd} {es : List En} (h : ObIs w q x) (ht : Turn w w' q.pb q.mb q.ns) (ho : Obj1 w' q.pb q.mb n ns) (hn : Once1 ns) (he : ns.map (·.e) = es) (hf : ∀ e ∈ es, Fine (ekey e)) (hl : es.length ≤ n) : ObIs w' { q with n := n, ns := ns } { x with es := es } := by
  refine ⟨ht.blk h.blk (h.obj.ring.notblk h.blk (by decide) (by decide)) (blk_nemap h.blk h.obj.map), h.nop, h.noa, ho, hn, he, hf, own_same h.row fun b cs _ hb => ht.same b hb.lt (h.obj.ring.notblk hb (by decide) (by decide)) (blk_nemap hb h.obj.map), hl, h.vlen⟩
theorem bl_cb {q q' : Oq} {n : Nat} (h : ∀ b ∈ q'.cb, b ∈ q.cb ∨ n ≤ b) (ha : q'.args = q.args) : ∀ b ∈ q'.bl, b ∈ q.bl ∨ n ≤ b := fun b hb => by
  rcases List.mem_append.1 hb with hb | hb
  · rw [ha] at hb
    exact .inl (List.mem_append_left _ hb)
  · exact (h b hb).imp (List.mem_append_right _) id
theorem once_key {l r : List Nd} {x : Nd} (h : Once1 (l ++ x :: r)) : (∀ y ∈ l, ekey y.e ≠ ekey x.e) ∧ ∀ y ∈ r, ekey y.e ≠ ekey x.e := by
  have hn := h.once
  simp only [List.map_append, List.map_cons, List.nodup_append, List.nodup_cons] at hn
  exact ⟨fun m hm e => hn.2.2 (ekey m.e) (List.mem_map.2 ⟨m, hm, rfl⟩) (ekey x.e) (by simp) e, fun m hm e => hn.2.1.1 (e ▸ List.mem_map.2 ⟨m, hm, rfl⟩)⟩
theorem map_other {l : List Nd} {k : KV} {f : En → En} (h : ∀ y ∈ l, ekey y.e ≠ k) : (l.map (·.e)).map (fun e => if ekey e = k then f e else e) = l.map (·.e) := by
  rw [List.map_map]
  apply List.map_congr_left
  intro y hy
  simp [h y hy]
theorem put_old {l r : List Nd} {x : Nd} (d : Ds) (h : Once1 (l ++ x :: r)) : putL ((l ++ x :: r).map (·.e)) (ekey x.e) d = (l ++ x.desc d :: r).map (·.e) := by
  unfold putL
  have hf : find ((l ++ x :: r).map (·.e)) (ekey x.e) = some x.e.d := by
    obtain ⟨l', x', r', h1, h2, h3, h4⟩ := find_look h.look
    rw [h4]
    have hx' : x' ∈ l ++ x :: r := h1 ▸ by simp
    obtain ⟨k1, k2⟩ := once_key h
    rcases List.mem_append.1 hx' with hm | hm
    · exact absurd h2 (k1 _ hm)
    · rcases List.mem_cons.1 hm with rfl | hm
      · rfl
      · exact absurd h2 (k2 _ hm)
  obtain ⟨k1, k2⟩ := once_key h
  rw [hf]
  simp only [Option.isSome_some, if_true]
  rw [List.map_append, List.map_cons, List.map_append, List.map_cons, map_other k1, map_other k2, List.map_append, List.map_cons]
  simp only [if_true]
  rfl
theorem put_new {ns : List Nd} {k : KV} (d : Ds) (h : Hp.look ns k = none) : putL (ns.map (·.e)) k d = ns.map (·.e) ++ [⟨k.1, k.2, d⟩] := by
  unfold putL
  rw [find_none h]
  rfl
theorem drop_old {l r : List Nd} {x : Nd} (h : Once1 (l ++ x :: r)) : dropL ((l ++ x :: r).map (·.e)) (ekey x.e) = (l ++ r).map (·.e) := by
  obtain ⟨k1, k2⟩ := once_key h
  have k : ∀ {l : List Nd}, (∀ y ∈ l, ekey y.e ≠ ekey x.e) → (l.map (·.e)).filter (fun e => !decide (ekey e = ekey x.e)) = l.map (·.e) := fun hl => by
    rw [List.filter_eq_self]
    intro e he
    obtain ⟨y, hy, rfl⟩ := List.mem_map.1 he
    simpa using hl y hy
  unfold dropL
  rw [List.map_append, List.map_cons, List.filter_append, List.filter_cons, k k1, k k2, List.map_append]
  simp
theorem drop_no {ns : List Nd} {k : KV} (h : Hp.look ns k = none) : dropL (ns.map (·.e)) k = ns.map (·.e) := by
  unfold dropL
  rw [List.filter_eq_self]
  intro e he
  obtain ⟨y, hy, rfl⟩ := List.mem_map.1 he
  simpa using look_none.1 h y hy
theorem setOb_same {i : Nat} {x : Ob} (h : A.objs[i]? = some x) : setOb A i x = A := by
  unfold setOb
  have e : A.objs.set i x = A.objs := by
    apply List.ext_getElem?
    intro j
    rw [List.getElem?_set]
    by_cases hj : i = j
    · subst hj
      have := (List.getElem?_eq_some_iff.1 h).1
      simp [this, h]
      exact (List.getElem?_eq_some_iff.1 h).2.symm
    · rw [if_neg hj]
  rw [Int.toNat_natCast, e]
theorem Nx.same {B : List Nat} (h : Below w.heap.size w w') : Nx B w B w' := Nx.of_below h
/-- How a call ends that leaves a world and gives a Bool. -/
def LeftB (X : Cx) (c : Nat) (M : Wm) (w : World) (A' : Aw) (e : Ending) (w' : World) : Prop := (∃ b, e = .returned (.bool b)) ∧ ∃ M', M'.hb = M.hb ∧ Left X c M w A' w' M'
theorem LeftB.of {M' : Wm} {A' : Aw} {b : Bool} (h : Left X c M w A' w' M') (hh : M'.hb = M.hb) : LeftB X c M w A' (.returned (.bool b)) w' := ⟨⟨b, rfl⟩, M', hh, h⟩
theorem wPut (h : WIs X (c + 1) M w A) (o : Int) (k : KV) (hk : Fine k) (d : Ds) :
    Calls Try.prog 29 #[ptr M.hb, .int .i64 o, .agg (kcs k), .agg (dcs d)] w (LeftB X c M w (putF A o k d)) := by
  unfold putF
  cases hx : at? A o with
  | none =>
    obtain ⟨a, cc, e⟩ := h.os_shape
    have hb := h.hblk
    rw [e] at hb
    exact (put_none M.hb _ a A.objs.length cc _ o k d w hb (at_none hx)).mono fun e w' ⟨h1, h2⟩ => ⟨h1, M, rfl, (h.less (by omega)).call h2, Nx.of_below h2⟩
  | some x =>
    obtain ⟨i, q, g, cc, rfl, hi, hq, hr, hos, hc, hlt⟩ := h.obj hx
    have hb := h.hblk
    rw [hos] at hb
    have hnum := h.num q (List.mem_of_getElem? hq)
    cases hl : Hp.look q.ns k with
    | none =>
      refine (hput M.hb g q.ob q.pb A.objs.length cc A.room A.sy _ k d w hb i hlt hc hr.blk _ fun w1 hb1 => pput_new q.pb q.mb q.n q.ns k d w1 (hr.obj.call hb1) hr.once (by omega) hk hl).mono ?_
      rintro e w' ⟨rfl, w1, hb1, nd, hnd, hsz, hob, hon, htu⟩
      have ht := below_turn hb1 htu
      have hes : (q.ns ++ [nd]).map (·.e) = putL x.es k d := by
        rw [← hr.es, put_new d hl, List.map_append]
        congr 1
        show [nd.e] = _
        rw [hnd]
      have hlen := hr.len
      refine LeftB.of (h.turn (q' := { q with n := q.n + 1, ns := q.ns ++ [nd] }) hq hi ht.fr (fun b hb hn => ht.same b hb (fun hm => hn (by simp [Oq.cb, hm])) (fun e => hn (by simp [Oq.cb, e]))) (hr.turned ht hob hon hes ?_ ?_) rfl ?_ (by show q.n + 1 + _ + c ≤ _; omega) (by omega) (fun hp => h.nopx hp x (List.mem_of_getElem? hi))) rfl
      · rw [← hr.es, put_new d hl]
        intro e he
        rcases List.mem_append.1 he with he | he
        · rw [hr.es] at he; exact hr.fine e he
        · rw [List.mem_singleton.1 he]; exact hk
      · rw [← hr.es, put_new d hl, List.length_append, hr.es]
        simp
        omega
      · refine bl_cb (fun b hbm => ?_) rfl
        simp only [Oq.cb, blks, List.map_append, List.map_cons, List.map_nil, List.mem_cons, List.mem_append, List.not_mem_nil, or_false] at hbm ⊢
        rcases hbm with h1 | h1 | h1 | h1 | h1
        · exact .inl (.inl h1)
        · exact .inl (.inr (.inl h1))
        · exact .inl (.inr (.inr (.inl h1)))
        · exact .inl (.inr (.inr (.inr h1)))
        · right
          have := hb1.size
          omega
    | some b =>
      obtain ⟨l, nd, r, hns, rfl, rfl, hf⟩ := find_look hl
      have hobj := hr.obj
      have hon1 := hr.once
      rw [hns] at hobj hon1
      refine (hput M.hb g q.ob q.pb A.objs.length cc A.room A.sy _ (ekey nd.e) d w hb i hlt hc hr.blk _ fun w1 hb1 => pput_old q.pb q.mb q.n l r nd d w1 (hobj.call hb1) hon1 hk).mono ?_
      rintro e w' ⟨rfl, w1, hb1, hob, hon, htu⟩
      have ht := below_turn hb1 htu
      rw [← hns] at ht
      have hes : (l ++ nd.desc d :: r).map (·.e) = putL x.es (ekey nd.e) d := by
        rw [← hr.es, hns, put_old d hon1]
      have hlen := hr.len
      have hln : (putL x.es (ekey nd.e) d).length = x.es.length := by rw [← hes, ← hr.es, hns]; simp
      refine LeftB.of (h.turn (q' := { q with n := q.n, ns := l ++ nd.desc d :: r }) hq hi ht.fr (fun b hb hn => ht.same b hb (fun hm => hn (by simp [Oq.cb, hm])) (fun e => hn (by simp [Oq.cb, e]))) (hr.turned ht hob hon hes ?_ (by omega)) rfl ?_ (by show q.n + _ + c ≤ _; omega) (by omega) (fun hp => h.nopx hp x (List.mem_of_getElem? hi))) rfl
      · rw [← hes]
        intro e he
        obtain ⟨y, hy, rfl⟩ := List.mem_map.1 he
        have hfy : ∀ y ∈ q.ns, Fine (ekey y.e) := fun y hy => hr.fine y.e (by rw [← hr.es]; exact List.mem_map.2 ⟨y, hy, rfl⟩)
        rw [hns] at hfy
        rcases List.mem_append.1 hy with hy | hy
        · exact hfy y (by simp [hy])
        · rcases List.mem_cons.1 hy with rfl | hy
          · exact hk
          · exact hfy y (by simp [hy])
      · refine bl_cb (fun b hbm => ?_) rfl
        left
        simp only [Oq.cb] at hbm ⊢
        rw [blks_desc, ← hns] at hbm
        exact hbm
end

end Go.Proofs.Ytblbeinnfbohbaa.Mw

/-
  What Keys, Get, Set and Make leave of a world.
-/
namespace Go.Proofs.Ytblbeinnfbohbaa.Mw
open Go Go.RowKit Go.Maps Go.Proofs.Ytblbeinnfbohbaa.Keys Go.Proofs.Ytblbeinnfbohbaa.Hp Go.Proofs.Ytblbeinnfbohbaa.Mo
open Go.Proofs.Ytblbeinnfbohbaa.Des (Vl Ds zeroV zeroD dcs dcs_size dcs_one)
open Go.Proofs.Ytblbeinnfbohbaa.Arrs (En ecs)
set_option linter.unusedVariables false
set_option linter.unusedSimpArgs false
section

variable {X : Cx} {c : Nat} {M : Wm} {w w' : World} {A : Aw}

theorem ordF_len (l : List KV) : (ordF l).length ≤ 3 * l.length := by
  have h := once_length l
  have h1 : (idxs (once l)).length ≤ (once l).length := List.length_filterMap_le _ _
  have h2 : (names (once l)).length ≤ (once l).length := List.length_filter_le _ _
  have h3 : (syms (once l)).length ≤ (once l).length := List.length_filter_le _ _
  unfold ordF
  simp only [List.length_append, List.length_map, List.length_mergeSort]
  omega
theorem ks_own {B : List Nat} {b0 : Nat} {v : Value} {ks : List KV} (h : w.ownsRow b0 91 2 v ks.length (cellsK ks)) (hn : ∀ b, b0 ≤ b → b ∉ B) (hl : ks.length ≤ 10000000) : KsOut B w v ks := by
  rcases h.2 with ⟨rfl, h0⟩ | ⟨g, cap, cur, rfl, hg, hb, hle, hcap, hsz, htk⟩
  · exact ⟨none, 0, by rw [h0], hl, .inl (List.eq_nil_of_length_eq_zero h0)⟩
  · refine ⟨_, cap, rfl, hl, .inr ⟨g, 0, cur, rfl, hb, hn g hg, fun j u hj => ?_⟩⟩
    have hlt := (List.getElem?_eq_some_iff.1 hj).1
    rw [h.1] at hlt
    rw [Nat.zero_add, h.cellAt j hlt]
    exact hj
theorem vs_own {B : List Nat} {b0 : Nat} {v : Value} {vs : List Vl} (h : w.ownsRow b0 32 3 v vs.length (cellsV vs)) (hn : ∀ b, b0 ≤ b → b ∉ B) : VsOut B w v vs := by
  rcases h.2 with ⟨rfl, h0⟩ | ⟨g, cap, cur, rfl, hg, hb, hle, hcap, hsz, htk⟩
  · exact ⟨none, 0, by rw [h0], .inl (List.eq_nil_of_length_eq_zero h0)⟩
  · refine ⟨_, cap, rfl, .inr ⟨g, 0, rfl, (Array.getElem?_eq_some_iff.1 hb).1, hn g hg, fun j u hj => ?_⟩⟩
    have hlt := (List.getElem?_eq_some_iff.1 hj).1
    rw [h.1] at hlt
    rw [Nat.zero_add, h.cellAt j hlt]
    exact hj
/-- How Keys ends. -/
def KeysPost (B : List Nat) (w : World) (ks : List KV) (e : Ending) (w' : World) : Prop := ∃ kv, e = .returned kv ∧ KsOut B w' kv ks ∧ Below w.heap.size w w'
/-- A list of properties, new and not the world's. -/
def EsNew (b0 : Nat) (w : World) (s : Value) (es : List En) : Prop := ∃ a c, s = .slice a es.length c ∧ Hp.EsAt w.heap.size a es w
/-- How Get ends. -/
def GetP (B : List Nat) (w : World) (x : Ob) (e : Ending) (w' : World) : Prop := ∃ a cc s, e = .returned (.tuple #[.agg (tcs { x.th with props := .slice a x.es.length cc, args := s }), .bool true]) ∧ Hp.EsAt w'.heap.size a x.es w' ∧ VsOut B w' s x.vs ∧ Below w.heap.size w w'
theorem once_chain {ns : List Nd} (h : Chain ns) (hn : (ns.map fun n => ekey n.e).Nodup) : Once1 ns := by
  refine ⟨fun n hm => ?_, hn⟩
  obtain ⟨l, r, rfl⟩ := List.append_of_mem hm
  refine h l n r rfl fun y hy e => ?_
  simp only [List.map_append, List.map_cons, List.nodup_append, List.nodup_cons] at hn
  exact hn.2.1.1 (List.mem_map.2 ⟨y, hy, e⟩)
theorem row_obj {w : World} {b pb mb n : Nat} {ns : List Nd} {cs ds : Array Value} (h : Obj1 w pb mb n ns) (hb : Blk w b cs 102) : Obj1 (w.setRow b ds) pb mb n ns :=
  ⟨h.ring.same fun k hk => setRow_other w b k ds fun e => h.ring.notblk hb (by decide) (by decide) (e ▸ hk), h.map.same (setRow_other w b mb ds fun e => blk_nemap hb h.map e.symm)⟩
/-- What is handed over to be stored. -/
structure Give (w : World) (th : Th) (es : List En) (vs : List Vl) : Prop where
  props : ∃ pa pc, th.props = .slice pa es.length pc ∧ Hp.EsAt w.heap.size pa es w
  args : ∃ aa ac, th.args = .slice aa vs.length ac ∧ VsAt w.heap.size aa vs w
  fine : ∀ e ∈ es, Fine (ekey e)
  few : es.length ≤ 900000
  vfew : vs.length ≤ 100000
theorem Give.call {th : Th} {es : List En} {vs : List Vl} (h : Give w th es vs) (hb : Below w.heap.size w w') : Give w' th es vs := by
  obtain ⟨⟨pa, pc, h1, h2⟩, ⟨aa, ac, h3, h4⟩, h5, h6, h7⟩ := h
  exact ⟨⟨pa, pc, h1, (h2.below hb).mono hb.size⟩, ⟨aa, ac, h3, (h4.below hb).mono hb.size⟩, h5, h6, h7⟩
theorem Give.store {th : Th} {es : List En} {vs : List Vl} (h : Give w th es vs) : Calls Try.prog 43 #[.agg (tcs th)] w (StorePost w th es vs) := by
  obtain ⟨⟨pa, pc, h1, h2⟩, ⟨aa, ac, h3, h4⟩, h5, h6, h7⟩ := h
  exact store_any th pa es.length pc aa vs.length ac es vs w h1 h3 (fun w2 hb => collect_any pa pc es w2 (by omega) ((h2.below hb).mono hb.size) h5) fun w2 hb => clone_any aa _ ac vs w2 rfl (by omega) ((h4.below hb).mono hb.size)
/-- An object's own part without its lists. -/
def bare (t : Th) : Th := { t with props := nilS, args := nilS }
/-- How Make ends. -/
def MakeP (X : Cx) (c : Nat) (M : Wm) (w : World) (A : Aw) (x : Ob) (e : Ending) (w' : World) : Prop :=
  if (A.objs.length : Int) < A.room then e = .returned (.tuple #[.int .i64 A.objs.length, .bool true]) ∧ ∃ M', M'.hb = M.hb ∧ Left X c M w (makeF x.th x.es x.vs A) w' M' else e = .returned (.tuple #[.int .i64 0, .bool false]) ∧ Below w.heap.size w w'
theorem wMake (h : WIs X (c + 1) M w A) {th : Th} {es : List En} {vs : List Vl} (hg : Give w th es vs) (hn : (es.map ekey).Nodup) (hc : es.length + 8 * A.fuel.toNat + c ≤ 900000) (hk : X.px = false → th.kind ≠ 4) :
    Calls Try.prog 35 #[ptr M.hb, .agg (tcs th)] w (MakeP X c M w A ⟨bare th, es, vs⟩) := by
  obtain ⟨a, cc, hos⟩ := h.os_shape
  have hb := h.hblk
  rw [hos] at hb
  have hfew := h.few
  unfold MakeP
  by_cases hr : (A.objs.length : Int) < A.room
  · simp only [if_pos hr]
    have horow := h.orow
    rw [hos] at horow
    refine (make_any 0 M.hb A.room a A.objs.length cc A.sy _ th es vs w hb (Nat.zero_le _) horow (by omega) hr fun w1 hb1 => (hg.call hb1).store).mono ?_
    rintro e w' ⟨rfl, g, c1, h1, ob, pb, mb, ns, a2, m2, c2, h2, hat, h4, h5, h6⟩
    refine ⟨rfl, { M with os := .slice (some ⟨g, 0, none⟩) (A.objs.length + 1) c1, qs := M.qs ++ [⟨ob, pb, mb, es.length, ns, .slice a2 m2 c2⟩] }, rfl, h.grow (q' := ⟨ob, pb, mb, es.length, ns, .slice a2 m2 c2⟩) (x' := ⟨bare th, es, vs⟩) ⟨h4.os, h4.tape, h4.output, h4.size⟩ (fun b hb1 hb2 hb3 => h5 b hb1 hb2 (by rw [← hos]; exact hb3)) h1 h2 (fun b hm => ?_) ?_ (fun b hm => ?_) (by show es.length + _ + c ≤ _; omega) hk⟩
    · simp only [obl, Value.ownBlock, Option.toList_some, List.mem_singleton] at hm
      rw [hm, hos]
      exact h6
    · refine ⟨hat.blk, rfl, rfl, hat.obj, once_chain hat.chain ?_, hat.es, hg.fine, hat.row.mono (Nat.zero_le _), Nat.le_refl _, hg.vfew⟩
      rw [← hat.es, List.map_map] at hn
      exact hn
    · rcases List.mem_append.1 hm with hm | hm
      · rcases hat.row.2 with ⟨h1, -⟩ | ⟨g2, cap, cur, h1, hg2, -, -⟩
        · rw [show (Value.slice a2 m2 c2) = _ from h1] at hm; simp [obl, Value.ownBlock] at hm
        · rw [show (Value.slice a2 m2 c2) = _ from h1] at hm; simp [obl, Value.ownBlock] at hm; omega
      · rcases List.mem_cons.1 hm with rfl | hm
        · exact hat.lowo
        · rcases List.mem_cons.1 hm with rfl | hm
          · exact hat.lowm
          · exact hat.low b hm
  · simp only [if_neg hr]
    exact make_full M.hb A.room a A.objs.length cc A.sy th w hb (by omega)
end

end Go.Proofs.Ytblbeinnfbohbaa.Mw

/-
  Small functions of the worlds.
-/
namespace Go.Proofs.Ytblbeinnfbohbaa.Mo
open Go Go.RowKit Go.Maps Go.Shelf Go.Proofs.Ytblbeinnfbohbaa.Keys Go.Proofs.Ytblbeinnfbohbaa.Hp
open Go.Proofs.Ytblbeinnfbohbaa.Des (Vl Ds zeroV zeroD dcs dcs_size dcs_one)
open Go.Proofs.Ytblbeinnfbohbaa.Arrs (En ecs ecs_0 ecs_1 ecs_10 ecs_size ecs_list ecs_one ecs_one')
set_option linter.unusedVariables false
set_option linter.unusedSimpArgs false
attribute [local go_sem ↓] ldR stR alR bxR bdR bdD bdE ldD stD alD

attribute [local irreducible] rcs dcs ecs
set_option maxRecDepth 10000
attribute [local go_sem] run_bx run_alR run_stRg run_bdR0 run_bdR1 run_bdR2 run_bdData run_bdEn run_alD run_stDg rcs_0
theorem isM_any (n : Int) (w : World) : Calls Try.prog 42 #[.int .i64 n] w fun e w' => e = .returned (.bool (decide (1 ≤ n) && decide (n ≤ 13))) ∧ w' = w := by
  by_cases h : 1 ≤ n
  · have h1 : decide (1 ≤ n) = true := by simpa using h
    rw [h1]
    go_enter Try.func42, Try.ntmps42
    go_wp2
    go_ret
    exact ⟨by simp, rfl⟩
  · have h1 : decide (1 ≤ n) = false := by simpa using h
    rw [h1]
    clear h
    go_enter Try.func42, Try.ntmps42
    go_wp2
    go_ret
    exact ⟨by simp, rfl⟩
theorem store_world (wb hb : Nat) (cl : Value) (f d p q : Int) (lg : Value) (w : World) (h : Blk w wb (wcs hb cl f d p q lg) 50) : Calls Try.prog 40 #[ptr wb] w fun e w' => e = .returned (ptr hb) ∧ w' = w := by
  have c0 : w.cell? ⟨wb, 0, none⟩ = some (ptr hb) := (h.cell 0).trans rfl
  go_enter Try.func40, Try.ntmps40
  go_wp2
  go_ret
  exact ⟨rfl, rfl⟩
end Go.Proofs.Ytblbeinnfbohbaa.Mo
