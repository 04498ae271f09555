/-
  A ring with its map: what insert leaves of both.
-/
import Derived.Test.YtoakiejpmcgdjaaGreatDoorHpIns
namespace Go.Proofs.YtoakiejpmcgdjaaGreatDoor.Hp
open Go Go.RowKit Go.Maps Go.Proofs.YtoakiejpmcgdjaaGreatDoor.Keys
set_option linter.unusedVariables false
set_option linter.unusedSimpArgs false

/-- Where the first property with a key lies. -/
def look (ns : List Nd) (k : KV) : Option Nat := (ns.find? fun n => decide (ekey n.e = k)).map (·.b)
theorem look_cons (n : Nd) (ns : List Nd) : upd (look ns) (ekey n.e) (some n.b) = look (n :: ns) := by
  funext k
  unfold upd look
  rw [List.find?_cons]
  by_cases h : k = ekey n.e
  · subst h
    simp
  · have h' : ¬ ekey n.e = k := fun e => h e.symm
    simp [h, h']
theorem look_none {ns : List Nd} {k : KV} : look ns k = none ↔ ∀ n ∈ ns, ekey n.e ≠ k := by
  unfold look
  rw [Option.map_eq_none_iff, List.find?_eq_none]
  simp
theorem look_snoc {n : Nd} {ns : List Nd} (h : look ns (ekey n.e) = none) : upd (look ns) (ekey n.e) (some n.b) = look (ns ++ [n]) := by
  funext k
  unfold upd
  by_cases hk : k = ekey n.e
  · subst hk
    rw [if_pos rfl]
    unfold look at h ⊢
    rw [Option.map_eq_none_iff] at h
    rw [List.find?_append, h]
    simp
  · rw [if_neg hk]
    have h' : ¬ ekey n.e = k := fun e => hk e.symm
    unfold look
    rw [List.find?_append]
    simp [h']

theorem Ring.notmap {w : World} {pb mb n : Nat} {f : KV → Option Nat} {ns : List Nd} (h : Ring w pb mb ns) (hm : MapIs w mb n f) : mb ∉ blks pb ns := fun hb => by
  obtain ⟨es, c, ho⟩ := hm.obj
  rcases List.mem_cons.1 hb with rfl | hb
  · rw [show w.heap[mb]? = _ from h.head] at ho; cases ho
  · obtain ⟨n, hn, rfl⟩ := List.mem_map.1 hb
    obtain ⟨p, q, hq⟩ := seg_at n h.seg hn
    rw [show w.heap[n.b]? = _ from hq] at ho
    cases ho
/-- Every block of a ring holds cells. -/
theorem Ring.cells {w : World} {pb mb : Nat} {ns : List Nd} (h : Ring w pb mb ns) : ∀ b ∈ blks pb ns, ∃ cs t, Blk w b cs t ∧ (t = 162 ∨ t = 164) := fun b hb => by
  rcases List.mem_cons.1 hb with rfl | hb
  · exact ⟨_, _, h.head, .inr rfl⟩
  · obtain ⟨n, hn, rfl⟩ := List.mem_map.1 hb
    obtain ⟨p, q, hq⟩ := seg_at n h.seg hn
    exact ⟨_, _, hq, .inl rfl⟩
theorem Ring.notblk {w : World} {pb mb b : Nat} {ns : List Nd} {cs : Array Value} {t : TypeId} (h : Ring w pb mb ns) (hb : Blk w b cs t) (h1 : t ≠ 162) (h2 : t ≠ 164) : b ∉ blks pb ns := fun hm => by
  obtain ⟨cs', t', hb', ht⟩ := h.cells b hm
  have e : Obj.cells cs t (0, 0) = Obj.cells cs' t' (0, 0) := Option.some.inj (hb.symm.trans hb')
  cases e
  rcases ht with e | e
  · exact h1 e
  · exact h2 e
theorem Ring.at_a {w : World} {pb mb : Nat} {l r : List Nd} (h : Ring w pb mb (l ++ r)) : ∃ CA tA, Blk w (lst pb l) CA tA ∧ CA[21]? = some (ptr (nxt r pb)) := by
  rcases snoc_cases l with rfl | ⟨l', n, rfl⟩
  · exact ⟨_, _, h.head, hcs_21 _ _ _⟩
  · have hs := h.seg
    rw [List.append_assoc, seg_append] at hs
    rw [lst_append]
    exact ⟨_, _, hs.2.1, ncs_21 _ _ _ _⟩
theorem Ring.at_c {w : World} {pb mb : Nat} {l r : List Nd} (h : Ring w pb mb (l ++ r)) : ∃ CC tC, Blk w (nxt r pb) CC tC ∧ CC[20]? = some (ptr (lst pb l)) := by
  cases r with
  | nil =>
    have hh := h.head
    rw [List.append_nil] at hh
    exact ⟨_, _, hh, hcs_20 _ _ _⟩
  | cons n r =>
    have hs := h.seg
    rw [seg_append] at hs
    exact ⟨_, _, hs.2.1, ncs_20 _ _ _ _⟩
theorem Ring.mem_a {pb : Nat} (l r : List Nd) : lst pb l ∈ blks pb (l ++ r) := by
  rw [blks, List.map_append]
  rcases lst_mem l pb with ⟨h, _⟩ | h
  · rw [h]; simp
  · exact List.mem_cons_of_mem _ (List.mem_append_left _ h)
theorem Ring.mem_c {pb : Nat} (l r : List Nd) : nxt r pb ∈ blks pb (l ++ r) := by
  rw [blks, List.map_append]
  rcases nxt_mem r pb with ⟨h, _⟩ | h
  · rw [h]; simp
  · exact List.mem_cons_of_mem _ (List.mem_append_right _ h)

/-- What a call may have changed: the blocks of a ring, its map, what is new. -/
structure Turn (w w' : World) (pb mb : Nat) (ns : List Nd) : Prop where
  fr : Fr w w'
  same : ∀ b, b < w.heap.size → b ∉ blks pb ns → b ≠ mb → w'.heap[b]? = w.heap[b]?
theorem Turn.refl (w : World) (pb mb : Nat) (ns : List Nd) : Turn w w pb mb ns := ⟨Fr.refl w, fun _ _ _ _ => rfl⟩
theorem Turn.below {w w' : World} {pb mb B : Nat} {ns : List Nd} (h : Turn w w' pb mb ns) (hn : ∀ b ∈ blks pb ns, B ≤ b) (hm : B ≤ mb) (hs : B ≤ w.heap.size) : Below B w w' :=
  ⟨h.fr.os, h.fr.tape, h.fr.output, h.fr.size, fun k hk => h.same k (by omega) (fun hk' => by have := hn k hk'; omega) (by omega)⟩
theorem Turn.blk {w w' : World} {pb mb b : Nat} {ns : List Nd} {cs : Array Value} {t : TypeId} (h : Turn w w' pb mb ns) (hb : Blk w b cs t) (h1 : b ∉ blks pb ns) (h2 : b ≠ mb) : Blk w' b cs t := (h.same b hb.lt h1 h2).trans hb

/-- A ring with its map. -/
structure Obj1 (w : World) (pb mb n : Nat) (ns : List Nd) : Prop where
  ring : Ring w pb mb ns
  map : MapIs w mb n (look ns)
theorem Obj1.call {w w' : World} {pb mb n : Nat} {ns : List Nd} (h : Obj1 w pb mb n ns) (hb : Below w.heap.size w w') : Obj1 w' pb mb n ns := ⟨h.ring.call hb, h.map.call hb⟩
theorem Obj1.old {w : World} {pb mb n : Nat} {ns : List Nd} (h : Obj1 w pb mb n ns) (o : Obj) : Obj1 (w.alloc o) pb mb n ns := h.call ((Below.refl _ w).alloc (Nat.le_refl _) o)
theorem Obj1.drew {w : World} {pb mb n : Nat} {ns : List Nd} (h : Obj1 w pb mb n ns) : Obj1 w.drew pb mb n ns := h.call (Below.refl _ w).drew

theorem ins_ring {w w' : World} {pb mb n : Nat} {l r : List Nd} {e : En} {y : Ending} (h : Obj1 w pb mb n (l ++ r)) (hi : InsPost w mb n (lst pb l) (nxt r pb) (look (l ++ r)) e y w') (hl : l = [] ∨ r = [] ∧ look (l ++ r) (ekey e) = none) :
    y = .returned (.tuple #[]) ∧ ∃ x : Nd, x.e = e ∧ w.heap.size ≤ x.b ∧ Obj1 w' pb mb (n + 1) (l ++ x :: r) ∧ Turn w w' pb mb (l ++ r) := by
  obtain ⟨hy, x, hx, hb, hm, hw, hf⟩ := hi
  have hnm := h.ring.notmap h.map
  have hlt := h.ring.lt
  refine ⟨hy, ⟨x, e, pto (look (l ++ r) (ekey e))⟩, rfl, hx, ⟨h.ring.insert ⟨x, e, pto (look (l ++ r) (ekey e))⟩ (fun hm => by have := hlt _ hm; simp at this; omega) hb fun b hbm => hw b (hlt b hbm) (fun e => hnm (e ▸ hbm)), ?_⟩, hf, fun b hb h1 h2 => ?_⟩
  · rcases hl with rfl | ⟨rfl, hn⟩
    · have := look_cons ⟨x, e, pto (look ([] ++ r) (ekey e))⟩ r
      rw [List.nil_append, ← this]
      exact hm
    · rw [List.append_nil] at hm hn
      have := look_snoc (n := ⟨x, e, pto (look (l ++ []) (ekey e))⟩) hn
      rw [← this]
      exact hm
  · rw [hw b hb h2]
    exact link_other _ _ _ _ _ _ (fun e => h1 (e ▸ Ring.mem_a l r)) (fun e => h1 (e ▸ Ring.mem_c l r))
/-- insert at a place of a ring. -/
theorem insert_ring {w : World} {pb mb n : Nat} {l r : List Nd} {e : En} (h : Obj1 w pb mb n (l ++ r)) (hn : n < 1000) (hk : Fine (ekey e)) (hl : l = [] ∨ r = [] ∧ look (l ++ r) (ekey e) = none) :
    Calls Tryz.prog 82 #[ptr pb, ptr (lst pb l), .agg (ecs e)] w fun y w' => y = .returned (.tuple #[]) ∧ ∃ x : Nd, x.e = e ∧ w.heap.size ≤ x.b ∧ Obj1 w' pb mb (n + 1) (l ++ x :: r) ∧ Turn w w' pb mb (l ++ r) := by
  obtain ⟨CA, tA, hA, hA1⟩ := h.ring.at_a
  obtain ⟨CC, tC, hC, hC1⟩ := h.ring.at_c
  exact (insert_any pb mb n _ _ _ e _ _ _ CA CC tA tC w h.ring.head hA hA1 hC hC1 h.map hn hk).mono fun y w' hi => ins_ring h hi hl
end Go.Proofs.YtoakiejpmcgdjaaGreatDoor.Hp
