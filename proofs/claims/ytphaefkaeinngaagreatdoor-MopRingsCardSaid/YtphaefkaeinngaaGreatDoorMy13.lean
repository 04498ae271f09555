/-
  Texts of this seat in build order: MwTurn, MwWor, MwHeap, HpOps.
-/
import Derived.Test.YtphaefkaeinngaaGreatDoorMy12
import Derived.Test.YtphaefkaeinngaaGreatDoorMy11
import Derived.Test.YtphaefkaeinngaaGreatDoorMy08
/-
  What a turn of one object, or a new object, leaves of a world. Plain mathematics.
-/
namespace Go.Proofs.YtphaefkaeinngaaGreatDoor.Mw
open Go Go.RowKit Go.Maps Go.Proofs.YtphaefkaeinngaaGreatDoor.Keys Go.Proofs.YtphaefkaeinngaaGreatDoor.Hp Go.Proofs.YtphaefkaeinngaaGreatDoor.Mo
open Go.Proofs.YtphaefkaeinngaaGreatDoor.Des (Vl Ds zeroV zeroD dcs dcs_size dcs_one)
open Go.Proofs.YtphaefkaeinngaaGreatDoor.Arrs (En ecs)
set_option linter.unusedVariables false
set_option linter.unusedSimpArgs false
theorem blk_nemap {w : World} {b mb n : Nat} {cs : Array Value} {t : TypeId} {f : KV → Option Nat} (h : Blk w b cs t) (hm : MapIs w mb n f) : b ≠ mb := fun e => by
  obtain ⟨es, c, ho⟩ := hm.obj
  subst e
  rw [show w.heap[b]? = _ from h] at ho
  cases ho
section
variable {X : Cx} {c : Nat} {M : Wm} {w w' : World} {A : Aw}
theorem WIs.os_shape (h : WIs X c M w A) : ∃ a cc, M.os = .slice a A.objs.length cc := by
  obtain ⟨a, cc, e⟩ := Hp.own_shape h.orow
  exact ⟨a, cc, e⟩
theorem at_none {o : Int} (h : at? A o = none) : o < 0 ∨ (A.objs.length : Int) ≤ o := by
  unfold at? at h
  split at h
  · exact .inl ‹_›
  · right
    rw [List.getElem?_eq_none_iff] at h
    omega
theorem at_some {o : Int} {x : Ob} (h : at? A o = some x) : ∃ i : Nat, o = i ∧ A.objs[i]? = some x := by
  unfold at? at h
  split at h
  · cases h
  · exact ⟨o.toNat, by omega, h⟩
theorem WIs.obj (h : WIs X c M w A) {o : Int} {x : Ob} (hx : at? A o = some x) : ∃ (i : Nat) (q : Oq) (g cc : Nat), o = i ∧ A.objs[i]? = some x ∧ M.qs[i]? = some q ∧ ObIs w q x ∧ M.os = .slice (some ⟨g, 0, none⟩) A.objs.length cc ∧ w.cell? ⟨g, i, none⟩ = some (ptr q.ob) ∧ i < A.objs.length := by
  obtain ⟨i, rfl, hi⟩ := at_some hx
  obtain ⟨q, hq, hr⟩ := all2_get h.objs hi
  have hlt : i < A.objs.length := (List.getElem?_eq_some_iff.1 hi).1
  have horow := h.orow
  rcases h.orow.2 with ⟨h1, h2⟩ | ⟨g, cap, cur, h1, -, -, -⟩
  · omega
  · rw [h1] at horow
    refine ⟨i, q, g, cap, rfl, hi, hq, hr, h1, ?_, hlt⟩
    rw [horow.cellAt i (by omega), List.getElem?_map, hq]
    rfl
theorem ObIs.nota {q : Oq} {x : Ob} (h : ObIs w q x) {b : Nat} {cs : Array Value} {t : TypeId} (hb : Blk w b cs t) (h1 : t ≠ 107) (h2 : t ≠ 143) (h3 : t ≠ 146) : b ∉ q.cb := fun hm => by
  rcases List.mem_cons.1 hm with rfl | hm
  · exact ne_blk hb h.blk h1 rfl
  · rcases List.mem_cons.1 hm with rfl | hm
    · obtain ⟨es, c, ho⟩ := h.obj.map.obj
      rw [show w.heap[q.mb]? = _ from hb] at ho
      cases ho
    · exact h.obj.ring.notblk hb h2 h3 hm
theorem set_eq {α β : Type} (f : α → β) (l : List α) (i : Nat) (a b : α) (hb : l[i]? = some b) (h : f a = f b) : (l.set i a).map f = l.map f := by
  apply List.ext_getElem?
  intro j
  rw [List.getElem?_map, List.getElem?_set, List.getElem?_map]
  by_cases hj : i = j
  · subst hj
    rw [hb]
    simp [(List.getElem?_eq_some_iff.1 hb).1, h]
  · rw [if_neg hj]
theorem own_typ {base : Nat} {e : TypeId} {size n : Nat} {v : Value} {xs : List Value} (h : w.ownsRow base e size v n xs) {b : Nat} (hb : b ∈ obl v) : ∃ cs, Blk w b cs e := by
  unfold obl at hb
  rcases h.2 with ⟨h1, -⟩ | ⟨g, cap, cur, h1, -, h3, -⟩
  · rw [h1] at hb; simp [Value.ownBlock] at hb
  · rw [h1] at hb
    simp [Value.ownBlock] at hb
    rw [hb]
    exact ⟨cur, h3⟩
theorem WIs.turn (h : WIs X c M w A) {i c' : Nat} {q q' : Oq} {x x' : Ob} (hi : M.qs[i]? = some q) (hx : A.objs[i]? = some x) (hf : Fr w w') (hs : ∀ b, b < w.heap.size → b ∉ q.cb → w'.heap[b]? = w.heap[b]?) (ho : ObIs w' q' x') (hob : q'.ob = q.ob) (hsub : ∀ b ∈ q'.bl, b ∈ q.bl ∨ w.heap.size ≤ b)
    (hn : q'.n + 8 * A.fuel.toNat + c' ≤ 900000) (hc : c' ≤ c) (hk : X.px = false → x'.th.kind ≠ 4) : Left X c' M w (setOb A i x') w' { M with qs := M.qs.set i q' } := by
  have hq : ObIs w q x := h.objs.el i q x hi hx
  have hsame : ∀ {b : Nat} {cs : Array Value} {t : TypeId}, Blk w b cs t → t ≠ 107 → t ≠ 143 → t ≠ 146 → w'.heap[b]? = w.heap[b]? := fun hb h1 h2 h3 => hs _ hb.lt (hq.nota hb h1 h2 h3)
  have hnx : Nx (M.bl X.wb) w (({ M with qs := M.qs.set i q' } : Wm).bl X.wb) w' := by
    refine ⟨⟨hf, fun b hb hn => hs b hb fun hm => hn (mem_bl hi (List.mem_append_right _ hm))⟩, fun b hb => ?_⟩
    simp only [Wm.bl, List.mem_cons, List.mem_append, List.mem_flatMap] at hb
    rcases hb with hb | hb | hb | hb | hb | hb | ⟨p, hp, hb⟩
    · exact .inl (hb ▸ mem_wb M _)
    · exact .inl (hb ▸ mem_hb M _)
    · exact .inl (mem_os hb)
    · exact .inl (mem_ls hb)
    · exact .inl (mem_sb hb)
    · exact .inl (mem_rl hb)
    · rcases List.mem_or_eq_of_mem_set hp with hp | rfl
      · exact .inl (mem_qs hp hb)
      · rcases hsub b hb with hb | hb
        · exact .inl (mem_bl hi hb)
        · exact .inr hb
  have hlt : i < A.objs.length := (List.getElem?_eq_some_iff.1 hx).1
  have hlen : (A.objs.set i x').length = A.objs.length := by simp
  refine ⟨?_, hnx⟩
  have hmapob : (M.qs.set i q').map (fun q => ptr q.ob) = M.qs.map fun q => ptr q.ob := set_eq _ _ _ _ _ hi (by rw [hob])
  refine ⟨(hsame h.wblk (by decide) (by decide) (by decide)).trans h.wblk, (hsame h.hblk (by decide) (by decide) (by decide)).trans h.hblk, ?_, own_same h.lrow fun b cs _ hb => hsame hb (by decide) (by decide) (by decide), ?_, ?_, fun b hb => Nat.lt_of_lt_of_le (h.rlt b hb) hf.size, ?_, Nx.low h hnx, h.next hnx, h.lw, h.fuel, ?_, ?_, by have := h.logn; first | omega | (show A.log.length + 8 * A.fuel.toNat + _ ≤ _; omega), h.dep0, h.dep1, h.deep, h.dpe, h.dle, ?_⟩
  · show w'.ownsRow 0 _ 1 M.os (A.objs.set (i : Int).toNat x').length _
    rw [List.length_set, hmapob]
    exact own_same h.orow fun b cs _ hb => hsame hb (by decide) (by decide) (by decide)
  · show All2 (ObIs w') (M.qs.set i q') (A.objs.set (i : Int).toNat x')
    rw [Int.toNat_natCast]
    refine all2_set h.objs ho fun j p y hj hp hy hpy => hpy.same (fun b hb => hs b (hpy.ltc b hb) fun hm => h.apart j i p q hj hp hi b (List.mem_append_right _ hb) (List.mem_append_right _ hm)) fun b hb => ?_
    obtain ⟨cs, hbl⟩ := hpy.argT hb
    exact hsame hbl (by decide) (by decide) (by decide)
  · refine forall2_imp h.log fun b _ s hsn => hsn.same ?_ (fun b cs _ hb => hsame hb (by decide) (by decide) (by decide)) (fun b cs _ hb => hsame hb (by decide) (by decide) (by decide)) (fun _ h => h)
    obtain ⟨l, k, hb, -⟩ := hsn
    exact hsame hb (by decide) (by decide) (by decide)
  · intro j k p r hjk hp hr b hb hb'
    have hset : ∀ (j : Nat) (p : Oq), (M.qs.set i q')[j]? = some p → (j = i ∧ p = q') ∨ (j ≠ i ∧ M.qs[j]? = some p) := fun j p hp => by
      rw [List.getElem?_set] at hp
      by_cases hj : i = j
      · subst hj
        simp only [if_true] at hp
        split at hp
        · simp at hp; exact .inl ⟨rfl, hp.symm⟩
        · cases hp
      · rw [if_neg hj] at hp
        exact .inr ⟨fun e => hj e.symm, hp⟩
    have old : ∀ (j : Nat) (p : Oq), M.qs[j]? = some p → ∀ b ∈ p.bl, b < w.heap.size := fun j p hp b hb => h.lt b (mem_bl hp hb)
    rcases hset j p hp with ⟨rfl, rfl⟩ | ⟨hj, hp2⟩ <;> rcases hset k r hr with ⟨rfl, rfl⟩ | ⟨hk', hr2⟩
    · exact hjk rfl
    · rcases hsub b hb with hb | hb
      · exact h.apart j k q r hjk hi hr2 b hb hb'
      · have := old k r hr2 b hb'; omega
    · rcases hsub b hb' with hb' | hb'
      · exact h.apart j k p q hjk hp2 hi b hb hb'
      · have := old j p hp2 b hb; omega
    · exact h.apart j k p r hjk hp2 hr2 b hb hb'
  · show (A.objs.set (i : Int).toNat x').length + 8 * A.fuel.toNat + c' ≤ 900000
    rw [List.length_set]
    have := h.few
    omega
  · intro p hp
    show p.n + 8 * A.fuel.toNat + c' ≤ 900000
    rcases List.mem_or_eq_of_mem_set hp with hp | rfl
    · have := h.num p hp; omega
    · exact hn
  · intro hpx y hy
    have hy' : y ∈ A.objs.set (i : Int).toNat x' := hy
    rcases List.mem_or_eq_of_mem_set hy' with hy | rfl
    · exact h.nopx hpx y hy
    · exact hk hpx
theorem WIs.grow (h : WIs X (c + 1) M w A) {q' : Oq} {x' : Ob} {os' : Value} (hf : Fr w w') (hs : ∀ b, b < w.heap.size → b ≠ M.hb → some b ≠ M.os.ownBlock → w'.heap[b]? = w.heap[b]?)
    (hhb : Blk w' M.hb (hp A.room os' A.sy) 87) (hrow : w'.ownsRow 0 88 1 os' (A.objs.length + 1) ((M.qs.map fun q => ptr q.ob) ++ [ptr q'.ob])) (hos : ∀ b ∈ obl os', some b = M.os.ownBlock ∨ w.heap.size ≤ b)
    (ho : ObIs w' q' x') (hsub : ∀ b ∈ q'.bl, w.heap.size ≤ b) (hn : q'.n + 8 * A.fuel.toNat + c ≤ 900000) (hk : X.px = false → x'.th.kind ≠ 4) : Left X c M w { A with objs := A.objs ++ [x'] } w' { M with os := os', qs := M.qs ++ [q'] } := by
  have hsame : ∀ {b : Nat} {cs : Array Value} {t : TypeId}, Blk w b cs t → t ≠ 87 → t ≠ 88 → w'.heap[b]? = w.heap[b]? := fun hb h1 h2 => hs _ hb.lt (ne_blk hb h.hblk h1) fun e => by
    obtain ⟨cs', hb'⟩ := row_lt h.orow (obl_mem e)
    exact ne_blk hb hb' h2 rfl
  have hob : ∀ b, some b = M.os.ownBlock → b ∈ M.bl X.wb := fun b hb => mem_os (obl_mem hb)
  have hnx : Nx (M.bl X.wb) w (({ M with os := os', qs := M.qs ++ [q'] } : Wm).bl X.wb) w' := by
    refine ⟨⟨hf, fun b hb hn => hs b hb (fun e => hn (by rw [e]; exact mem_hb M _)) fun e => hn (hob b e)⟩, fun b hb => ?_⟩
    simp only [Wm.bl, List.mem_cons, List.mem_append, List.flatMap_append, List.flatMap_cons, List.flatMap_nil, List.append_nil] at hb
    rcases hb with hb | hb | hb | hb | hb | hb | hb | hb
    · exact .inl (hb ▸ mem_wb M _)
    · exact .inl (hb ▸ mem_hb M _)
    · rcases hos b hb with hb | hb
      · exact .inl (hob b hb)
      · exact .inr hb
    · exact .inl (mem_ls hb)
    · exact .inl (mem_sb hb)
    · exact .inl (mem_rl hb)
    · obtain ⟨q, hq, hb⟩ := List.mem_flatMap.1 hb
      exact .inl (mem_qs hq hb)
    · exact .inr (hsub b hb)
  have hmap : ∀ {m : Nat} {n : Nat} {f : KV → Option Nat}, MapIs w m n f → w'.heap[m]? = w.heap[m]? := fun hm => hs _ hm.lt (fun e => blk_nemap h.hblk hm e.symm) fun e => by
    obtain ⟨cs', hb'⟩ := row_lt h.orow (obl_mem e)
    exact blk_nemap hb' hm rfl
  refine ⟨⟨(hsame h.wblk (by decide) (by decide)).trans h.wblk, hhb, ?_, own_same h.lrow fun b cs _ hb => hsame hb (by decide) (by decide), ?_, forall2_imp h.log fun b _ s hsn => hsn.same ?_ (fun b cs _ hb => hsame hb (by decide) (by decide)) (fun b cs _ hb => hsame hb (by decide) (by decide)) (fun _ h => h), fun b hb => Nat.lt_of_lt_of_le (h.rlt b hb) hf.size, ?_, Nx.low h hnx, h.next hnx, h.lw, h.fuel, ?_, ?_, by have := h.logn; first | omega | (show A.log.length + 8 * A.fuel.toNat + _ ≤ _; omega), h.dep0, h.dep1, h.deep, h.dpe, h.dle, ?_⟩, hnx⟩
  · show w'.ownsRow 0 _ 1 os' (A.objs ++ [x']).length ((M.qs ++ [q']).map _)
    rw [List.length_append, List.map_append]
    exact hrow
  · refine all2_app h.objs ho fun p hp y hpy => hpy.same (fun b hb => ?_) fun b hb => ?_
    · rcases List.mem_cons.1 hb with rfl | hb
      · exact hsame hpy.blk (by decide) (by decide)
      · rcases List.mem_cons.1 hb with rfl | hb
        · exact hmap hpy.obj.map
        · obtain ⟨cs, t, hbl, ht⟩ := hpy.obj.ring.cells b hb
          exact hsame hbl (by rcases ht with rfl | rfl <;> decide) (by rcases ht with rfl | rfl <;> decide)
    · obtain ⟨cs, hbl⟩ := hpy.argT hb
      exact hsame hbl (by decide) (by decide)
  · obtain ⟨l, k, hb, -⟩ := hsn
    exact hsame hb (by decide) (by decide)
  · have old : ∀ (j : Nat) (p : Oq), M.qs[j]? = some p → ∀ b ∈ p.bl, b < w.heap.size := fun j p hp b hb => h.lt b (mem_bl hp hb)
    have hset : ∀ (j : Nat) (p : Oq), (M.qs ++ [q'])[j]? = some p → (j = M.qs.length ∧ p = q') ∨ M.qs[j]? = some p := fun j p hp => by
      rw [List.getElem?_append] at hp
      split at hp
      · exact .inr hp
      · cases hk : j - M.qs.length with
        | zero => rw [hk] at hp; simp at hp; exact .inl ⟨by omega, hp.symm⟩
        | succ n => rw [hk] at hp; simp at hp
    intro j k p r hjk hp hr b hb hb'
    rcases hset j p hp with ⟨rfl, rfl⟩ | hp2 <;> rcases hset k r hr with ⟨rfl, rfl⟩ | hr2
    · exact hjk rfl
    · have := old k r hr2 b hb'; have := hsub b hb; omega
    · have := old j p hp2 b hb; have := hsub b hb'; omega
    · exact h.apart j k p r hjk hp2 hr2 b hb hb'
  · show (A.objs ++ [x']).length + 8 * A.fuel.toNat + c ≤ 900000
    have := h.few
    simp
    omega
  · intro p hp
    show p.n + 8 * A.fuel.toNat + c ≤ 900000
    rcases List.mem_append.1 hp with hp | hp
    · have := h.num p hp; omega
    · rw [List.mem_singleton.1 hp]; exact hn
  · intro hpx y hy
    rcases List.mem_append.1 (show y ∈ A.objs ++ [x'] from hy) with hy | hy
    · exact h.nopx hpx y hy
    · rw [List.mem_singleton.1 hy]; exact hk hpx
end
end Go.Proofs.YtphaefkaeinngaaGreatDoor.Mw

/-
  A world's own cells laid anew; its log grown. Plain mathematics.
-/
namespace Go.Proofs.YtphaefkaeinngaaGreatDoor.Mw
open Go Go.RowKit Go.Maps Go.Proofs.YtphaefkaeinngaaGreatDoor.Keys Go.Proofs.YtphaefkaeinngaaGreatDoor.Hp Go.Proofs.YtphaefkaeinngaaGreatDoor.Mo
open Go.Proofs.YtphaefkaeinngaaGreatDoor.Des (Vl Ds zeroV zeroD dcs dcs_size dcs_one)
open Go.Proofs.YtphaefkaeinngaaGreatDoor.Arrs (En ecs)
set_option linter.unusedVariables false
set_option linter.unusedSimpArgs false
section
variable {X X' : Cx} {c c' : Nat} {M M' : Wm} {w w' : World} {A A' : Aw}
structure Cx.near (X X' : Cx) : Prop where
  W0 : X'.W0 = X.W0
  wb : X'.wb = X.wb
  cl : X'.cl = X.cl
  px : X'.px = X.px
theorem Cx.near.symm (h : X.near X') : X'.near X := ⟨h.W0.symm, h.wb.symm, h.cl.symm, h.px.symm⟩
structure Aw.near (A A' : Aw) : Prop where
  objs : A'.objs = A.objs
  room : A'.room = A.room
  sy : A'.sy = A.sy
  log : A'.log = A.log
theorem WIs.own (h : WIs X c M w A) (hX : X.near X') (hA : A.near A') (hB : Blk w' X.wb (wcs M.hb X.cl A'.fuel A'.deep A'.depth A'.deepest M.ls) 48) (hs : ∀ b, b ≠ X.wb → w'.heap[b]? = w.heap[b]?) (hf : Fr w w')
    (f0 : 0 ≤ A'.fuel) (f1 : 8 * A'.fuel.toNat + c' ≤ 8 * A.fuel.toNat + c) (d0 : 0 ≤ A'.depth) (d1 : A'.depth ≤ A'.deep) (d2 : A'.deep ≤ 1000) (d3 : A'.depth = X'.dp) (d4 : A'.deep = X'.dl) : WIs X' c' M w' A' := by
  have hsame : ∀ {b : Nat} {cs : Array Value} {t : TypeId}, Blk w b cs t → t ≠ 48 → w'.heap[b]? = w.heap[b]? := fun hb ht => hs _ (ne_blk hb h.wblk ht)
  have hbel : Below X.W0.heap.size X.W0 w' := ⟨hf.os.trans h.bel.os, hf.tape.trans h.bel.tape, hf.output.trans h.bel.output, Nat.le_trans h.bel.size hf.size, fun b hb => (hs b (by have := h.low _ (mem_wb M X.wb); omega)).trans (h.bel.block b hb)⟩
  refine ⟨by rw [hX.wb, hX.cl]; exact hB, by rw [hA.room, hA.sy]; exact (hsame h.hblk (by decide)).trans h.hblk, by rw [hA.objs]; exact own_same h.orow fun b cs _ hb => hsame hb (by decide), by rw [hA.log]; exact own_same h.lrow fun b cs _ hb => hsame hb (by decide), ?_, ?_, fun b hb => Nat.lt_of_lt_of_le (h.rlt b hb) hf.size, h.apart, by rw [hX.wb, hX.W0]; exact h.low, by rw [hX.W0]; exact hbel, by rw [hX.W0]; exact h.lw, f0, by rw [hA.objs]; have := h.few; omega, fun q hq => by have := h.num q hq; omega, by rw [hA.log]; have := h.logn; omega, d0, d1, d2, d3, d4, by rw [hX.px, hA.objs]; exact h.nopx⟩
  · rw [hA.objs]
    refine forall2_imp h.objs fun q hq x hx => hx.same (fun b hb => hs b fun e => ?_) fun b hb => ?_
    · subst e
      exact hx.nota h.wblk (by decide) (by decide) (by decide) hb
    · obtain ⟨cs, hb'⟩ := hx.argT hb
      exact hsame hb' (by decide)
  · rw [hA.log]
    refine forall2_imp h.log fun b hb s hsn => ?_
    obtain ⟨l, k, hb', -, -⟩ := id hsn
    exact hsn.same (hsame hb' (by decide)) (fun b cs _ hb => hsame hb (by decide)) (fun b cs _ hb => hsame hb (by decide)) fun _ h => h
theorem WIs.logged (h : WIs X (c + 1) M w A) {s : Sn} {b : Nat} {ls' : Value} {rn : List Nat}
    (hB : Blk w' X.wb (wcs M.hb X.cl A.fuel A.deep A.depth A.deepest ls') 48)
    (hrow : w'.ownsRow 0 114 1 ls' (A.log.length + 1) ((M.sb.map ptr) ++ [ptr b]))
    (hs : ∀ b, b < w.heap.size → b ≠ X.wb → some b ≠ M.ls.ownBlock → w'.heap[b]? = w.heap[b]?)
    (hls : ∀ b ∈ obl ls', some b = M.ls.ownBlock ∨ X.W0.heap.size ≤ b) (hsn : SnIs (M.rl ++ rn) w' b s) (hb : X.W0.heap.size ≤ b) (hrn : ∀ b ∈ rn, X.W0.heap.size ≤ b ∧ b < w'.heap.size) (hf : Fr w w') :
    WIs X c { M with ls := ls', sb := M.sb ++ [b], rl := M.rl ++ rn } w' { A with log := A.log ++ [s] } := by
  have hlt : ∀ {k : Nat}, some k = M.ls.ownBlock → ∃ cs, Blk w k cs 114 := fun e => own_typ h.lrow (obl_mem e)
  have hsame : ∀ {b : Nat} {cs : Array Value} {t : TypeId}, Blk w b cs t → t ≠ 48 → t ≠ 114 → w'.heap[b]? = w.heap[b]? := fun hb ht h2 => hs _ hb.lt (ne_blk hb h.wblk ht) fun e => by
    obtain ⟨cs, hk⟩ := hlt e
    exact ne_blk hb hk h2 rfl
  have hbel : Below X.W0.heap.size X.W0 w' := ⟨hf.os.trans h.bel.os, hf.tape.trans h.bel.tape, hf.output.trans h.bel.output, Nat.le_trans h.bel.size hf.size, fun b hb => (hs b (Nat.lt_of_lt_of_le hb h.bel.size) (by have := h.low _ (mem_wb M X.wb); omega) fun e => by have := h.low b (mem_ls (obl_mem e)); omega).trans (h.bel.block b hb)⟩
  have hlow : ∀ k ∈ ({ M with ls := ls', sb := M.sb ++ [b], rl := M.rl ++ rn } : Wm).bl X.wb, X.W0.heap.size ≤ k := fun k hk => by
    simp only [Wm.bl, List.mem_cons, List.mem_append, List.mem_flatMap] at hk
    rcases hk with rfl | rfl | hk | hk | (hk | hk) | (hk | hk) | ⟨q, hq, hk⟩
    · exact h.low _ (mem_wb M _)
    · exact h.low _ (mem_hb M _)
    · exact h.low _ (mem_os hk)
    · rcases hls k hk with e | e
      · exact h.low k (mem_ls (obl_mem e))
      · exact e
    · exact h.low _ (mem_sb hk)
    · rcases hk with rfl | hk
      · exact hb
      · cases hk
    · exact h.low _ (mem_rl hk)
    · exact (hrn k hk).1
    · exact h.low _ (mem_qs hq hk)
  refine ⟨hB, (hsame h.hblk (by decide) (by decide)).trans h.hblk, own_same h.orow fun b cs _ hb => hsame hb (by decide) (by decide), ?_, ?_, ?_, fun k hk => ?_, h.apart, hlow, hbel, h.lw, h.fuel, by have := h.few; show A.objs.length + 8 * A.fuel.toNat + c ≤ _; omega, fun q hq => by have := h.num q hq; show q.n + 8 * A.fuel.toNat + c ≤ _; omega, ?_, h.dep0, h.dep1, h.deep, h.dpe, h.dle, h.nopx⟩
  · simpa using hrow
  · refine forall2_imp h.objs fun q hq x hx => hx.same (fun b hb => hs b (hx.ltc b hb) (fun e => ?_) fun e => ?_) fun b hb => ?_
    · subst e
      exact hx.nota h.wblk (by decide) (by decide) (by decide) hb
    · obtain ⟨cs, hk⟩ := hlt e
      exact hx.nota hk (by decide) (by decide) (by decide) hb
    · obtain ⟨cs, hb'⟩ := hx.argT hb
      exact hsame hb' (by decide) (by decide)
  · refine all2_app h.log hsn fun k hk s' hsn' => ?_
    obtain ⟨l, kk, hb', -, -⟩ := id hsn'
    exact hsn'.same (hsame hb' (by decide) (by decide)) (fun b cs _ hb => hsame hb (by decide) (by decide)) (fun b cs _ hb => hsame hb (by decide) (by decide)) fun b hb => List.mem_append_left _ hb
  · rcases List.mem_append.1 hk with hk | hk
    · exact Nat.lt_of_lt_of_le (h.rlt k hk) hf.size
    · exact (hrn k hk).2
  · have := h.logn
    simp only [List.length_append, List.length_cons, List.length_nil]
    omega
theorem Nx.logged {B : List Nat} {w0 : World} (h : WIs X (c + 1) M w A) (hn : Nx B w0 (M.bl X.wb) w) {b : Nat} {ls' : Value} {rn : List Nat} (hs : ∀ b, b < w.heap.size → b ≠ X.wb → some b ≠ M.ls.ownBlock → w'.heap[b]? = w.heap[b]?) (hls : ∀ b ∈ obl ls', some b = M.ls.ownBlock ∨ w0.heap.size ≤ b) (hb : w0.heap.size ≤ b) (hrn : ∀ b ∈ rn, w0.heap.size ≤ b) (hf : Fr w w') :
    Nx B w0 (({ M with ls := ls', sb := M.sb ++ [b], rl := M.rl ++ rn } : Wm).bl X.wb) w' := by
  refine ⟨⟨hn.kp.fr.trans hf, fun k hk hkn => ?_⟩, fun k hk => ?_⟩
  · have ho := hn.out hk hkn
    rw [hs k (Nat.lt_of_lt_of_le hk hn.size) (fun e => ho (e ▸ mem_wb M _)) fun e => ho (mem_ls (obl_mem e)), hn.kp.same k hk hkn]
  · simp only [Wm.bl, List.mem_cons, List.mem_append, List.mem_flatMap] at hk
    rcases hk with rfl | rfl | hk | hk | (hk | hk) | (hk | hk) | ⟨q, hq, hk⟩
    · exact hn.sub _ (mem_wb M _)
    · exact hn.sub _ (mem_hb M _)
    · exact hn.sub _ (mem_os hk)
    · rcases hls k hk with e | e
      · exact hn.sub k (mem_ls (obl_mem e))
      · exact .inr e
    · exact hn.sub _ (mem_sb hk)
    · rcases hk with rfl | hk
      · exact .inr hb
      · cases hk
    · exact hn.sub _ (mem_rl hk)
    · exact .inr (hrn k hk)
    · exact hn.sub _ (mem_qs hq hk)
end
end Go.Proofs.YtphaefkaeinngaaGreatDoor.Mw

/-
  What the heap's calls leave of a world.
-/
namespace Go.Proofs.YtphaefkaeinngaaGreatDoor.Mw
open Go Go.RowKit Go.Maps Go.Proofs.YtphaefkaeinngaaGreatDoor.Keys Go.Proofs.YtphaefkaeinngaaGreatDoor.Hp Go.Proofs.YtphaefkaeinngaaGreatDoor.Mo
open Go.Proofs.YtphaefkaeinngaaGreatDoor.Des (Vl Ds zeroV zeroD dcs dcs_size dcs_one)
open Go.Proofs.YtphaefkaeinngaaGreatDoor.Arrs (En ecs)
set_option linter.unusedVariables false
set_option linter.unusedSimpArgs false
section
variable {X : Cx} {c : Nat} {M : Wm} {w w' : World} {A : Aw}
theorem ObIs.ok {q : Oq} {x : Ob} (h : ObIs w q x) : ({ x.th with args := q.args } : Th).ok := by
  obtain ⟨a, cc, e⟩ := Hp.own_shape h.row
  exact ⟨⟨_, _, _, h.nop⟩, ⟨a, _, cc, e⟩⟩
theorem th_same {t : Th} {v : Value} (h : t.args = nilS) : ({ ({ t with args := v } : Th) with args := nilS } : Th) = t := by
  cases t
  simp only at h ⊢
  rw [h]
theorem wHead_some (h : WIs X c M w A) {o : Int} {x : Ob} (hx : at? A o = some x) :
    Calls Tryz.prog 53 #[ptr M.hb, .int .i64 o] w fun e w' => e = .returned (.tuple #[.agg (tcs x.th), .bool true]) ∧ Below w.heap.size w w' := by
  obtain ⟨i, q, g, cc, rfl, hi, hq, hr, hos, hc, hlt⟩ := h.obj hx
  have hb := h.hblk
  rw [hos] at hb
  have := head_some M.hb g q.ob q.pb A.objs.length cc i A.room A.sy _ w hb hlt hc hr.blk hr.ok
  rw [th_same hr.noa] at this
  exact this
theorem wHead_none (h : WIs X c M w A) {o : Int} (hx : at? A o = none) :
    Calls Tryz.prog 53 #[ptr M.hb, .int .i64 o] w fun e w' => e = .returned (.tuple #[.agg (tcs zeroT), .bool false]) ∧ Below w.heap.size w w' := by
  obtain ⟨a, cc, e⟩ := h.os_shape
  have hb := h.hblk
  rw [e] at hb
  exact head_none M.hb _ a A.objs.length cc _ o w hb (at_none hx)
theorem wLen (h : WIs X c M w A) : Calls Tryz.prog 174 #[ptr M.hb] w fun e w' => e = .returned (.int .i64 A.objs.length) ∧ w' = w := by
  obtain ⟨a, cc, e⟩ := h.os_shape
  have hb := h.hblk
  rw [e] at hb
  exact len_any M.hb _ a A.objs.length cc _ w hb
theorem find_look {ns : List Nd} {k : KV} {b : Nat} (h : Hp.look ns k = some b) : ∃ l x r, ns = l ++ x :: r ∧ ekey x.e = k ∧ x.b = b ∧ find (ns.map (·.e)) k = some x.e.d := by
  obtain ⟨l, x, r, rfl, h1, h2, h3⟩ := look_at h
  refine ⟨l, x, r, rfl, h1, h2, ?_⟩
  unfold find
  rw [List.map_append, List.find?_append]
  have : (l.map (·.e)).find? (fun e => decide (ekey e = k)) = none := by
    rw [List.find?_eq_none]
    intro e he
    obtain ⟨y, hy, rfl⟩ := List.mem_map.1 he
    simpa using look_none.1 h3 y hy
  rw [this]
  simp [h1]
theorem find_none {ns : List Nd} {k : KV} (h : Hp.look ns k = none) : find (ns.map (·.e)) k = none := by
  unfold find
  rw [Option.map_eq_none_iff, List.find?_eq_none]
  intro e he
  obtain ⟨y, hy, rfl⟩ := List.mem_map.1 he
  simpa using look_none.1 h y hy
theorem own_at {o : Int} {x : Ob} (hx : at? A o = some x) (k : KV) : ownF A o k = find x.es k := by unfold ownF; rw [hx]; rfl
theorem own_no {o : Int} (hx : at? A o = none) (k : KV) : ownF A o k = none := by unfold ownF; rw [hx]; rfl
section
attribute [local go_sem ↓] ldE ldD alD stD bdDs
attribute [local irreducible] ecs ncs hcs dcs
attribute [local go_sem] run_bx run_alD run_bdDs
set_option maxRecDepth 100000 in
set_option maxHeartbeats 2000000 in
theorem own_none (hb : Nat) (room : Int) (a : Option Addr) (n c : Nat) (sy o : Int) (k : KV) (w : World) (h : Blk w hb (hp room (.slice a n c) sy) 87) (ho : o < 0 ∨ (n : Int) ≤ o) :
    Calls Tryz.prog 23 #[ptr hb, .int .i64 o, .agg #[.string k.1, .int .i64 k.2]] w fun e w' => e = .returned (.tuple #[.agg (dcs zeroD), .bool false]) ∧ Below w.heap.size w w' := by
  obtain ⟨w1, hw1⟩ : ∃ w1, (w.alloc (.cells #[.string k.1, .int .i64 k.2] 32)).alloc (.cells (dcs zeroD) 34) = w1 := ⟨_, rfl⟩
  have b1 : Below w.heap.size w w1 := by rw [← hw1]; exact ((Below.refl _ w).alloc (Nat.le_refl _) _).alloc (by simp) _
  have x1 : Blk w1 (w.heap.size + 1) (dcs zeroD) 34 := by rw [← hw1]; exact blk_newg (by simp)
  have hob := object_none hb room a n c sy o w1 (h.call b1) ho
  have hst := run_st_row x1 (T := 34) (cs := dcs zeroD) (by rw [dcs_size]; exact sizeD) rfl (dcs_one _)
  have X1 := Lib.hid x1
  have B1 := Lib.hid b1
  clear h ho x1 b1
  go_enter Tryz.func23, Tryz.ntmps23
  go_wp2_with (go_at_call 40; refine hob.mono ?_; rintro e wz ⟨rfl, rfl⟩)
  refine bodyPost_ret (res2_D rfl _ _ (w.heap.size + 1) zeroD rfl (X1.out.row _)) rfl ?_
  exact ⟨rfl, B1.out.trans ⟨rfl, rfl, rfl, by simp, fun k hk => setRow_other _ (w.heap.size + 1) k _ (by omega)⟩⟩
end
theorem wOwn (h : WIs X c M w A) (o : Int) (k : KV) (hk : Fine k) :
    Calls Tryz.prog 23 #[ptr M.hb, .int .i64 o, .agg (kcs k)] w fun e w' => e = .returned (.tuple #[.agg (dcs (nowD A o k)), .bool (ownF A o k).isSome]) ∧ Below w.heap.size w w' := by
  unfold nowD
  cases hx : at? A o with
  | none =>
    obtain ⟨a, cc, e⟩ := h.os_shape
    have hb := h.hblk
    rw [e] at hb
    rw [own_no hx]
    exact own_none M.hb _ a A.objs.length cc _ o k w hb (at_none hx)
  | some x =>
    obtain ⟨i, q, g, cc, rfl, hi, hq, hr, hos, hc, hlt⟩ := h.obj hx
    have hb := h.hblk
    rw [hos] at hb
    rw [own_at hx, ← hr.es]
    cases hl : Hp.look q.ns k with
    | none =>
      rw [find_none hl]
      exact hown M.hb g q.ob q.pb A.objs.length cc A.room A.sy _ k zeroD false w hb i hlt hc hr.blk fun w1 hb1 => pget_none q.pb q.mb q.n q.ns k w1 (hr.obj.call hb1) hk hl
    | some b =>
      obtain ⟨l, nd, r, hns, rfl, rfl, hf⟩ := find_look hl
      rw [hf]
      have hobj := hr.obj
      rw [hns] at hobj hl
      exact hown M.hb g q.ob q.pb A.objs.length cc A.room A.sy _ (ekey nd.e) nd.e.d true w hb i hlt hc hr.blk fun w1 hb1 => pget_some q.pb q.mb q.n l r nd w1 (hobj.call hb1) hk hl
end
end Go.Proofs.YtphaefkaeinngaaGreatDoor.Mw

/-
  The heap's own calls around an object's properties.
-/
namespace Go.Proofs.YtphaefkaeinngaaGreatDoor.Hp
open Go Go.RowKit Go.Maps Go.Proofs.YtphaefkaeinngaaGreatDoor.Keys
open Go.Proofs.YtphaefkaeinngaaGreatDoor.Des (Vl Ds zeroV zeroD dcs dcs_size dcs_one)
open Go.Proofs.YtphaefkaeinngaaGreatDoor.Arrs (En ecs ecs_0 ecs_1 ecs_10 ecs_size ecs_list ecs_one ecs_one')
set_option linter.unusedVariables false
set_option linter.unusedSimpArgs false
section
attribute [local go_sem ↓] ldE ldD alD stD bdDs
attribute [local irreducible] ecs ncs hcs dcs tcs ocs
attribute [local go_sem] run_bx run_alD run_bdDs ecs_0 ecs_1 ocs_24
set_option maxRecDepth 100000 in
set_option maxHeartbeats 2000000 in
theorem hput (hb g ob pb n c : Nat) (room sy : Int) (th : Th) (k : KV) (d : Ds) (w : World) (h : Blk w hb (hp room (.slice (some ⟨g, 0, none⟩) n c) sy) 87) (o : Nat) (hn : o < n) (hc : w.cell? ⟨g, o, none⟩ = some (ptr ob)) (hob : Blk w ob (ocs th pb) 107) (Q : World → World → Prop)
    (hp : ∀ w1, Below w.heap.size w w1 → Calls Tryz.prog 169 #[ptr pb, .agg #[.string k.1, .int .i64 k.2], .agg (dcs d)] w1 fun e w' => e = .returned (.tuple #[]) ∧ Q w1 w') :
    Calls Tryz.prog 124 #[ptr hb, .int .i64 o, .agg #[.string k.1, .int .i64 k.2], .agg (dcs d)] w fun e w' => e = .returned (.bool true) ∧ ∃ w1, Below w.heap.size w w1 ∧ Q w1 w' := by
  obtain ⟨W1, hW1⟩ : ∃ W1, w.alloc (.cells #[.string k.1, .int .i64 k.2] 32) = W1 := ⟨_, rfl⟩
  have k1 : W1.heap.size = w.heap.size + 1 := by rw [← hW1]; simp
  obtain ⟨W2, hW2⟩ : ∃ W2, W1.alloc (.cells (dcs d) 34) = W2 := ⟨_, rfl⟩
  have b2 : Below w.heap.size w W2 := by rw [← hW2, ← hW1]; exact ((Below.refl _ w).alloc (Nat.le_refl _) _).alloc (by simp) _
  have y2 : Blk W2 w.heap.size #[.string k.1, .int .i64 k.2] 32 := by rw [← hW2, ← hW1]; exact (Blk.new w _ _).old _
  have z2 : Blk W2 (w.heap.size + 1) (dcs d) 34 := by
    have := Blk.new W1 (dcs d) 34
    rw [hW2, k1] at this
    exact this
  have l0 := y2.cell 0
  have l1 := y2.cell 1
  have ld := run_ldMid (w := W2) (b := w.heap.size + 1) (o := 0) (d := d) (fun j v hv => by rw [Nat.zero_add]; exact (z2.cell j).trans (by simpa using hv))
  have ldd := run_ldMid (w := W2.drew) (b := w.heap.size + 1) (o := 0) (d := d) (fun j v hv => by rw [Nat.zero_add]; exact (z2.cell j).trans (by simpa using hv))
  have c24 : W2.cell? ⟨ob, 24, none⟩ = some (ptr pb) := by rw [(hob.call b2).cell, ocs_24]
  have hobj := object_some hb g ob room n c o sy W2 (h.call b2) hn ((b2.cell (World.block_lt_of_cell? w _ hc)).trans hc)
  have B2 := Lib.hid b2
  have P2 := Lib.hid (hp W2 b2)
  have P3 := Lib.hid (hp W2.drew b2.drew)
  clear h hc hob hp y2 z2 b2
  go_enter Tryz.func124, Tryz.ntmps124
  go_wp2_with (go_at_call 40; refine hobj.mono ?_; rintro e w2 ⟨rfl, rfl⟩)
  go_region_with (go_at_call 169; refine P3.out.mono ?_; rintro e w' ⟨rfl, hq⟩)
  all_goals go_wp2
  all_goals go_ret
  all_goals exact ⟨rfl, _, B2.out.drew, hq⟩
set_option maxRecDepth 100000 in
set_option maxHeartbeats 2000000 in
theorem hdrop (hb g ob pb n c : Nat) (room sy : Int) (th : Th) (k : KV) (b : Bool) (w : World) (h : Blk w hb (hp room (.slice (some ⟨g, 0, none⟩) n c) sy) 87) (o : Nat) (hn : o < n) (hc : w.cell? ⟨g, o, none⟩ = some (ptr ob)) (hob : Blk w ob (ocs th pb) 107) (Q : World → World → Prop)
    (hp : ∀ w1, Below w.heap.size w w1 → Calls Tryz.prog 175 #[ptr pb, .agg #[.string k.1, .int .i64 k.2]] w1 fun e w' => e = .returned (.bool b) ∧ Q w1 w') :
    Calls Tryz.prog 138 #[ptr hb, .int .i64 o, .agg #[.string k.1, .int .i64 k.2]] w fun e w' => e = .returned (.bool b) ∧ ∃ w1, Below w.heap.size w w1 ∧ Q w1 w' := by
  obtain ⟨W2, hW2⟩ : ∃ W2, w.alloc (.cells #[.string k.1, .int .i64 k.2] 32) = W2 := ⟨_, rfl⟩
  have b2 : Below w.heap.size w W2 := by rw [← hW2]; exact (Below.refl _ w).alloc (Nat.le_refl _) _
  have y2 : Blk W2 w.heap.size #[.string k.1, .int .i64 k.2] 32 := by rw [← hW2]; exact Blk.new w _ _
  have l0 := y2.cell 0
  have l1 := y2.cell 1
  have c24 : W2.cell? ⟨ob, 24, none⟩ = some (ptr pb) := by rw [(hob.call b2).cell, ocs_24]
  have hobj := object_some hb g ob room n c o sy W2 (h.call b2) hn ((b2.cell (World.block_lt_of_cell? w _ hc)).trans hc)
  have B2 := Lib.hid b2
  have P2 := Lib.hid (hp W2 b2)
  have P3 := Lib.hid (hp W2.drew b2.drew)
  clear h hc hob hp y2 b2
  go_enter Tryz.func138, Tryz.ntmps138
  go_wp2_with (first | (go_at_call 40; refine hobj.mono ?_; rintro e w2 ⟨rfl, rfl⟩) | (go_at_call 175; refine P2.out.mono ?_; rintro e w' ⟨rfl, hq⟩))
  go_region_with (go_at_call 175; refine P3.out.mono ?_; rintro e w' ⟨rfl, hq⟩)
  all_goals go_wp2
  all_goals go_ret
  all_goals exact ⟨rfl, _, B2.out.drew, hq⟩
end
end Go.Proofs.YtphaefkaeinngaaGreatDoor.Hp
