/-
  A ring of properties in memory: what it is, and what a new linking of two places leaves of it. Plain mathematics.
-/
import Derived.Test.YtoakiejpmcgdjaaGreatDoorHpMem
namespace Go.Proofs.YtoakiejpmcgdjaaGreatDoor.Hp
open Go Go.RowKit Go.Maps Go.Proofs.YtoakiejpmcgdjaaGreatDoor.Keys
set_option linter.unusedVariables false
set_option linter.unusedSimpArgs false

/-- A place: its block, its property, its pointer to the next one of the key. -/
structure Nd where
  b : Nat
  e : En
  a : Option Addr
def nxt : List Nd → Nat → Nat
  | [], z => z
  | n :: _, _ => n.b
def lst : Nat → List Nd → Nat
  | a, [] => a
  | _, n :: r => lst n.b r
def Seg (w : World) : Nat → List Nd → Nat → Prop
  | _, [], _ => True
  | a, n :: r, z => Blk w n.b (ncs n.e (ptr a) (ptr (nxt r z)) (.pointer n.a)) 162 ∧ Seg w n.b r z
/-- The blocks of a ring. -/
def blks (pb : Nat) (ns : List Nd) : List Nat := pb :: ns.map (·.b)
structure Ring (w : World) (pb mb : Nat) (ns : List Nd) : Prop where
  head : Blk w pb (hcs (ptr (lst pb ns)) (ptr (nxt ns pb)) mb) 164
  seg : Seg w pb ns pb
  apart : (blks pb ns).Nodup

theorem nxt_append (l r : List Nd) (z : Nat) : nxt (l ++ r) z = nxt l (nxt r z) := by cases l <;> rfl
theorem lst_append : ∀ (l r : List Nd) (a : Nat), lst a (l ++ r) = lst (lst a l) r
  | [], _, _ => rfl
  | n :: l, r, _ => lst_append l r n.b
theorem seg_append (w : World) : ∀ (l r : List Nd) (a z : Nat), Seg w a (l ++ r) z ↔ Seg w a l (nxt r z) ∧ Seg w (lst a l) r z
  | [], r, a, z => by simp [Seg, lst]
  | n :: l, r, a, z => by
    show (Blk w n.b (ncs n.e (ptr a) (ptr (nxt (l ++ r) z)) (.pointer n.a)) _ ∧ Seg w n.b (l ++ r) z) ↔ (Blk w n.b (ncs n.e (ptr a) (ptr (nxt l (nxt r z))) (.pointer n.a)) _ ∧ Seg w n.b l (nxt r z)) ∧ Seg w (lst n.b l) r z
    rw [seg_append w l r n.b z, nxt_append, and_assoc]
theorem seg_same {w w' : World} : ∀ {l : List Nd} {a z : Nat}, Seg w a l z → (∀ n ∈ l, w'.heap[n.b]? = w.heap[n.b]?) → Seg w' a l z
  | [], _, _, _, _ => trivial
  | n :: l, a, z, h, hw => ⟨(hw n (by simp)).trans h.1, seg_same h.2 fun m hm => hw m (by simp [hm])⟩
theorem lst_mem : ∀ (l : List Nd) (a : Nat), lst a l = a ∧ l = [] ∨ lst a l ∈ l.map (·.b)
  | [], a => .inl ⟨rfl, rfl⟩
  | n :: l, a => by
    right
    rcases lst_mem l n.b with ⟨h, _⟩ | h
    · rw [show lst a (n :: l) = lst n.b l from rfl, h]; simp
    · rw [show lst a (n :: l) = lst n.b l from rfl]; simp; right; simpa using h
theorem nxt_mem (l : List Nd) (z : Nat) : nxt l z = z ∧ l = [] ∨ nxt l z ∈ l.map (·.b) := by
  cases l with
  | nil => exact .inl ⟨rfl, rfl⟩
  | cons n l => right; simp [nxt]
theorem seg_at {w : World} : ∀ {l : List Nd} {a z : Nat} (n : Nd), Seg w a l z → n ∈ l → ∃ p q, Blk w n.b (ncs n.e (ptr p) (ptr q) (.pointer n.a)) 162
  | [], _, _, _, _, h => by cases h
  | m :: l, a, z, n, h, hm => by
    rcases List.mem_cons.1 hm with rfl | hm
    · exact ⟨_, _, h.1⟩
    · exact seg_at n h.2 hm
theorem Ring.lt {w : World} {pb mb : Nat} {ns : List Nd} (h : Ring w pb mb ns) : ∀ b ∈ blks pb ns, b < w.heap.size := fun b hb => by
  rcases List.mem_cons.1 hb with rfl | hb
  · exact h.head.lt
  · obtain ⟨n, hn, rfl⟩ := List.mem_map.1 hb
    obtain ⟨p, q, hq⟩ := seg_at n h.seg hn
    exact hq.lt
theorem Ring.same {w w' : World} {pb mb : Nat} {ns : List Nd} (h : Ring w pb mb ns) (hw : ∀ b ∈ blks pb ns, w'.heap[b]? = w.heap[b]?) : Ring w' pb mb ns :=
  ⟨(hw pb (by simp [blks])).trans h.head, seg_same h.seg fun n hn => hw n.b (by simp [blks]; exact .inr ⟨n, hn, rfl⟩), h.apart⟩
theorem Ring.below {w w' : World} {pb mb B : Nat} {ns : List Nd} (h : Ring w pb mb ns) (hb : Below B w w') (hlt : ∀ b ∈ blks pb ns, b < B) : Ring w' pb mb ns := h.same fun b hm => hb.block b (hlt b hm)
theorem Ring.call {w w' : World} {pb mb : Nat} {ns : List Nd} (h : Ring w pb mb ns) (hb : Below w.heap.size w w') : Ring w' pb mb ns := h.below hb h.lt

/-- Two pointers turned. -/
def link (w : World) (a c : Nat) (f g : Value) : World := (w.setCell ⟨a, 21, none⟩ f).setCell ⟨c, 20, none⟩ g
theorem setCell_comm (w : World) (a c : Nat) (f g : Value) : (w.setCell ⟨c, 20, none⟩ g).setCell ⟨a, 21, none⟩ f = link w a c f g := by
  have hh : ((w.setCell ⟨c, 20, none⟩ g).setCell ⟨a, 21, none⟩ f).heap = (link w a c f g).heap := by
    apply Array.ext_getElem?
    intro i
    unfold link
    simp only [World.setCell, Array.getElem?_modify]
    by_cases h1 : a = i
    · by_cases h2 : c = i
      · simp only [h1, h2, if_true, Option.map_map]
        cases w.heap[i]? with
        | none => rfl
        | some o =>
          cases o <;> try rfl
          rename_i cs t fr
          have e : (cs.setIfInBounds 20 g).setIfInBounds 21 f = (cs.setIfInBounds 21 f).setIfInBounds 20 g := by
            apply Array.ext_getElem?
            intro j
            simp only [Array.getElem?_setIfInBounds, Array.size_setIfInBounds]
            by_cases h3 : 21 = j
            · by_cases h4 : 20 = j
              · omega
              · simp [h3, h4]
            · by_cases h4 : 20 = j <;> simp [h3, h4]
          show some (Obj.cells ((cs.setIfInBounds 20 g).setIfInBounds 21 f) t fr) = some (Obj.cells ((cs.setIfInBounds 21 f).setIfInBounds 20 g) t fr)
          rw [e]
      · simp [h1, h2]
    · by_cases h2 : c = i
      · simp [h1, h2]
      · simp [h1, h2]
  have e : ∀ {u v : World}, u.heap = v.heap → u.tape = v.tape → u.drawn = v.drawn → u.os = v.os → u.output = v.output → u = v := by
    intro u v h1 h2 h3 h4 h5
    cases u; cases v
    simp only at h1 h2 h3 h4 h5
    subst h1 h2 h3 h4 h5
    rfl
  exact e hh rfl rfl rfl rfl
theorem link_other (w : World) (a c : Nat) (f g : Value) (b : Nat) (h1 : b ≠ a) (h2 : b ≠ c) : (link w a c f g).heap[b]? = w.heap[b]? := by
  unfold link
  rw [heap_setCell_other _ ⟨c, 20, none⟩ b g h2, heap_setCell_other _ ⟨a, 21, none⟩ b f h1]
theorem link_size (w : World) (a c : Nat) (f g : Value) : (link w a c f g).heap.size = w.heap.size := by simp [link, World.setCell]

theorem snoc_cases {α : Type} (l : List α) : l = [] ∨ ∃ l' a, l = l' ++ [a] := by
  cases h : l.reverse with
  | nil => left; simpa using h
  | cons a r => right; refine ⟨r.reverse, a, ?_⟩; have := congrArg List.reverse h; simpa using this

/-- **What two turned pointers leave of a ring**: between l and r another part stands. -/
theorem Ring.relink {w w' : World} {pb mb : Nat} {l mid r : List Nd} (h : Ring w pb mb (l ++ (mid ++ r))) (mid' : List Nd) (hs : Seg w' (lst pb l) mid' (nxt r pb)) (hn : (blks pb (l ++ (mid' ++ r))).Nodup)
    (hw : ∀ b ∈ blks pb (l ++ r), w'.heap[b]? = (link w (lst pb l) (nxt r pb) (ptr (nxt mid' (nxt r pb))) (ptr (lst (lst pb l) mid'))).heap[b]?) : Ring w' pb mb (l ++ (mid' ++ r)) := by
  obtain ⟨hh, hseg, hap⟩ := h
  obtain ⟨A, hA⟩ : ∃ A, lst pb l = A := ⟨_, rfl⟩
  obtain ⟨C, hC⟩ : ∃ C, nxt r pb = C := ⟨_, rfl⟩
  obtain ⟨f, hf⟩ : ∃ f, ptr (nxt mid' C) = f := ⟨_, rfl⟩
  obtain ⟨g, hg⟩ : ∃ g, ptr (lst A mid') = g := ⟨_, rfl⟩
  rw [hA, hC, hf, hg] at hw
  rw [hA, hC] at hs
  -- apartness
  have hap' : pb ∉ l.map (·.b) ∧ pb ∉ r.map (·.b) ∧ (∀ x ∈ l.map (·.b), x ∉ r.map (·.b)) ∧ (l.map (·.b)).Nodup ∧ (r.map (·.b)).Nodup := by
    simp only [blks, List.map_append, List.nodup_cons, List.mem_append, not_or, List.nodup_append] at hap
    obtain ⟨⟨h1, h2, h3⟩, h4, ⟨h5, h6, h7⟩, h8⟩ := hap
    exact ⟨h1, h3, fun x hx hx' => h8 x hx x (.inr hx') rfl, h4, h6⟩
  obtain ⟨pl, pr, lr, nl, nr⟩ := hap'
  have hAm : A = pb ∧ l = [] ∨ A ∈ l.map (·.b) := by rw [← hA]; exact lst_mem l pb
  have hCm : C = pb ∧ r = [] ∨ C ∈ r.map (·.b) := by rw [← hC]; exact nxt_mem r pb
  rw [seg_append, seg_append, hA] at hseg
  obtain ⟨sl, -, sr⟩ := hseg
  refine ⟨?_, ?_, hn⟩
  · -- the head
    have e1 : Blk (w.setCell ⟨A, 21, none⟩ f) pb (hcs (ptr (lst pb (l ++ (mid ++ r)))) (ptr (nxt (l ++ (mid' ++ r)) pb)) mb) 164 := by
      rcases hAm with ⟨rfl, rfl⟩ | hAm
      · have := hh.set 21 f
        rw [hcs_set21, ← hf] at this
        have e : nxt ([] ++ (mid' ++ r)) A = nxt mid' C := by rw [List.nil_append, nxt_append, hC]
        rw [e, ← hf]
        exact this
      · have e : nxt (l ++ (mid' ++ r)) pb = nxt (l ++ (mid ++ r)) pb := by cases l with
          | nil => simp at hAm
          | cons n l => rfl
        rw [e]
        exact hh.other ⟨A, 21, none⟩ f (fun e => pl (e ▸ hAm))
    have e2 : Blk (link w A C f g) pb (hcs (ptr (lst pb (l ++ (mid' ++ r)))) (ptr (nxt (l ++ (mid' ++ r)) pb)) mb) 164 := by
      unfold link
      rcases hCm with ⟨hCp, rfl⟩ | hCm
      · have := e1.set 20 g
        rw [hcs_set20] at this
        rw [show lst pb (l ++ (mid' ++ [])) = lst A mid' by rw [List.append_nil, lst_append, hA], hg, hCp]
        exact this
      · have e : lst pb (l ++ (mid' ++ r)) = lst pb (l ++ (mid ++ r)) := by
          cases r with
          | nil => simp at hCm
          | cons n r => rw [lst_append, lst_append, lst_append, lst_append]; rfl
        rw [e]
        exact e1.other ⟨C, 20, none⟩ g (fun e => pr (e ▸ hCm))
    exact (hw pb (by simp [blks])).trans e2
  · rw [seg_append, seg_append, hA, hC]
    refine ⟨?_, hs, ?_⟩
    · -- the part ahead
      rw [nxt_append, hC]
      rcases snoc_cases l with rfl | ⟨l', n, rfl⟩
      · trivial
      · have hAn : A = n.b := by rw [← hA, lst_append]; rfl
        rw [seg_append] at sl ⊢
        obtain ⟨s1, s2, -⟩ := sl
        have hCn : n.b ≠ C := by
          rcases hCm with ⟨rfl, -⟩ | hCm
          · exact fun e => pl (by rw [← e]; simp)
          · exact fun e => lr n.b (by simp) (e ▸ hCm)
        refine ⟨seg_same s1 fun m hm => ?_, ?_, trivial⟩
        · have hma : m.b ≠ n.b := by
            rw [List.map_append, List.nodup_append] at nl
            exact nl.2.2 m.b (List.mem_map.2 ⟨m, hm, rfl⟩) n.b (by simp)
          have hml : m.b ∈ (l' ++ [n]).map (·.b) := List.mem_map.2 ⟨m, by simp [hm], rfl⟩
          have hmC : m.b ≠ C := by
            rcases hCm with ⟨rfl, -⟩ | hCm
            · exact fun e => pl (e ▸ hml)
            · exact fun e => lr m.b hml (e ▸ hCm)
          rw [hw m.b (by rw [blks, List.map_append]; exact List.mem_cons_of_mem _ (List.mem_append_left _ hml)), hAn]
          exact link_other _ _ _ _ _ _ hma hmC
        · have e3 := s2.set 21 f
          rw [ncs_set21] at e3
          have e4 := e3.other ⟨C, 20, none⟩ g hCn
          have e5 : Blk w' n.b (ncs n.e (ptr (lst pb l')) f (.pointer n.a)) 162 := by
            refine (hw n.b (by simp [blks])).trans ?_
            unfold link
            rw [hAn]
            exact e4
          rw [← hf] at e5
          exact e5
    · -- the part behind
      cases r with
      | nil => trivial
      | cons m r =>
        have hCn : C = m.b := by rw [← hC]; rfl
        obtain ⟨s1, s2⟩ := sr
        have hAn : m.b ≠ A := by
          rcases hAm with ⟨rfl, -⟩ | hAm
          · exact fun e => pr (by rw [← e]; simp)
          · exact fun e => lr A hAm (e ▸ by simp)
        refine ⟨?_, seg_same s2 fun k hk => ?_⟩
        · have e3 := (s1.other ⟨A, 21, none⟩ f hAn).set 20 g
          rw [ncs_set20] at e3
          have e5 : Blk w' m.b (ncs m.e g (ptr (nxt r pb)) (.pointer m.a)) 162 := by
            refine (hw m.b (by simp [blks])).trans ?_
            unfold link
            rw [hCn]
            exact e3
          rw [← hg] at e5
          exact e5
        · have hkm : k.b ≠ m.b := by
            rw [List.map_cons, List.nodup_cons] at nr
            exact fun e => nr.1 (e ▸ List.mem_map.2 ⟨k, hk, rfl⟩)
          have hkl : k.b ∈ (m :: r).map (·.b) := List.mem_map.2 ⟨k, by simp [hk], rfl⟩
          have hkA : k.b ≠ A := by
            rcases hAm with ⟨rfl, -⟩ | hAm
            · exact fun e => pr (e ▸ hkl)
            · exact fun e => lr A hAm (e ▸ hkl)
          rw [hw k.b (by rw [blks, List.map_append]; exact List.mem_cons_of_mem _ (List.mem_append_right _ hkl)), hCn]
          exact link_other _ _ _ _ _ _ hkA hkm
/-- A new place. -/
theorem Ring.insert {w w' : World} {pb mb : Nat} {l r : List Nd} (h : Ring w pb mb (l ++ r)) (n : Nd) (hb : n.b ∉ blks pb (l ++ r)) (hx : Blk w' n.b (ncs n.e (ptr (lst pb l)) (ptr (nxt r pb)) (.pointer n.a)) 162)
    (hw : ∀ b ∈ blks pb (l ++ r), w'.heap[b]? = (link w (lst pb l) (nxt r pb) (ptr n.b) (ptr n.b)).heap[b]?) : Ring w' pb mb (l ++ n :: r) := by
  refine Ring.relink (mid := []) (by simpa using h) [n] ⟨hx, trivial⟩ ?_ hw
  have hap := h.apart
  simp only [blks, List.map_append, List.map_cons, List.nodup_cons, List.mem_append, not_or, List.nodup_append, List.mem_cons, List.nil_append, List.cons_append, List.singleton_append] at hap hb ⊢
  obtain ⟨⟨h1, h2⟩, h3, h4, h5⟩ := hap
  obtain ⟨b1, b2, b3⟩ := hb
  refine ⟨⟨h1, fun e => b1 e.symm, h2⟩, h3, ⟨b3, h4⟩, fun x hx y hy => ?_⟩
  rcases hy with rfl | hy
  · exact fun e => b2 (e ▸ hx)
  · exact h5 x hx y hy
/-- A place less. -/
theorem Ring.drop {w w' : World} {pb mb : Nat} {l r : List Nd} {n : Nd} (h : Ring w pb mb (l ++ n :: r))
    (hw : ∀ b ∈ blks pb (l ++ r), w'.heap[b]? = (link w (lst pb l) (nxt r pb) (ptr (nxt r pb)) (ptr (lst pb l))).heap[b]?) : Ring w' pb mb (l ++ r) := by
  refine Ring.relink (mid := [n]) h [] trivial ?_ hw
  have hap := h.apart
  simp only [blks, List.map_append, List.map_cons, List.nodup_cons, List.mem_append, not_or, List.nodup_append, List.mem_cons, List.nil_append] at hap ⊢
  obtain ⟨⟨h1, h2, h2'⟩, h3, ⟨h4, h4'⟩, h5⟩ := hap
  exact ⟨⟨h1, h2'⟩, h3, h4', fun x hx y hy => h5 x hx y (.inr hy)⟩
end Go.Proofs.YtoakiejpmcgdjaaGreatDoor.Hp
