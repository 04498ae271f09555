/-
  The program's calls on scopes: Get, Set, Begin, Let.
-/
import Derived.Test.YtglnihecgjfkiaaScAt
namespace Go.Proofs.Ytglnihecgjfkiaa.Sc
open Go Go.RowKit Go.Maps
set_option linter.unusedVariables false
set_option linter.unusedSimpArgs false
attribute [local go_sem ↓] ldV stV alV bxV bxP
attribute [local irreducible] vcs pcs
attribute [local go_sem] run_bx run_alV

/-- What is theirs behind a call: what was theirs, and all that is new. -/
def Also (X : Nat → Prop) (w w' : World) : Nat → Prop := fun b => X b ∨ (w.heap.size ≤ b ∧ b < w'.heap.size)
/-- How a call on scopes ends. -/
def Ends (base : Nat) (X : Nat → Prop) (hb : Nat) (w : World) (r : Value) (S : List Sco) (e : Ending) (w' : World) : Prop := e = .returned r ∧ PIs base (Also X w w') w' hb S ∧ Step X (Also X w w') w w'
theorem also_more {X : Nat → Prop} {w w' : World} : ∀ b, Also X w w' b → X b ∨ w.heap.size ≤ b := fun b h => h.imp id fun k => k.1
section
variable {base : Nat} {X : Nat → Prop} {w w' : World} {hb : Nat} {S : List Sco} {sb mb : Nat → Nat} {vb : Nat → Nat → Nat} {a : Option Addr} {c : Nat}
theorem PAt.also (h : PAt base X w hb S sb mb vb a c) (hw : ∀ b, b < w.heap.size → w'.heap[b]? = w.heap[b]?) (hs : w.heap.size ≤ w'.heap.size) (hbase : base ≤ w.heap.size) : PAt base (Also X w w') w' hb S sb mb vb a c := by
  have k := h.same (w' := w') (fun b hx => hw b (h.low b hx).2) hs
  exact ⟨k.head, k.row, k.sco, k.par, k.map, k.var, k.vinj, k.minj, fun b hb => hb.elim (fun hx => k.low b hx) (fun hx => ⟨Nat.le_trans hbase hx.1, hx.2⟩), .inl k.xh, fun g hg => .inl (k.xr g hg), fun i hi => .inl (k.xs i hi), fun i hi => .inl (k.xm i hi), fun i j sc va hi hj => .inl (k.xv i j sc va hi hj)⟩
theorem PAt.lowb (h : PAt base X w hb S sb mb vb a c) : base ≤ w.heap.size := by have := h.low _ h.xh; omega
/-- Nothing of theirs has turned. -/
theorem PAt.ends (h : PAt base X w hb S sb mb vb a c) {r : Value} (hw : Below w.heap.size w w') : Ends base X hb w r S (.returned r) w' :=
  ⟨rfl, ⟨sb, mb, vb, a, c, h.also (fun b hb => hw.block b hb) hw.size h.lowb⟩, ⟨(Fr.refl w).below hw, fun b hb _ => hw.block b hb, also_more⟩⟩
/-- A variable has turned. -/
theorem PAt.setVar (h : PAt base X w hb S sb mb vb a c) {i j : Nat} {sc : Sco} {va va' : Va} (hi : S[i]? = some sc) (hj : sc.vs[j]? = some va) (hn : va'.name = va.name) (hw : ∀ b, b < w.heap.size → b ≠ vb i j → w'.heap[b]? = w.heap[b]?) (hs : w.heap.size ≤ w'.heap.size)
    (hv : Blk w' (vb i j) (pcs va') 56) : PAt base (Also X w w') w' hb (setVs S i (sc.vs.set j va')) sb mb vb a c := by
  have hb0 := h.var i j sc va hi hj
  have len := setVs_len S i (sc.vs.set j va')
  have hnb : ∀ {b : Nat} {cs : Array Value} {t : TypeId}, Blk w b cs t → t ≠ 56 → w'.heap[b]? = w.heap[b]? := fun hbk ht => hw _ hbk.lt (ne_blk hbk hb0 ht)
  refine ⟨?_, ?_, fun k sk hk => ?_, h.par.setVs _ _, fun k sk hk => ?_, fun k l sk vk hk hl => ?_, fun k l k' l' sk sk' vk vk' hk hl hk' hl' e => ?_, fun k k' hk hk' e => ?_, fun b hb => ?_, .inl h.xh, fun g hg => ?_, fun k hk => ?_, fun k hk => ?_, fun k l sk vk hk hl => ?_⟩
  · rw [len]; exact (hnb h.head (by decide)).trans h.head
  · rw [len]; exact own_same h.row fun g hg => hw g (h.row.lt g hg).2 fun e => own_ne h.row hb0 (by decide) (by rw [hg, e])
  · rcases setVs_cases hk with ⟨_, h1⟩ | ⟨rfl, sc0, h1, rfl⟩
    · exact (hnb (h.sco k sk h1) (by decide)).trans (h.sco k sk h1)
    · exact (hnb (h.sco k sc0 h1) (by decide)).trans (h.sco k sc0 h1)
  · have hm : ∀ sk, S[k]? = some sk → w'.heap[mb k]? = w.heap[mb k]? := fun sk hk => hw _ (h.map k sk hk).lt ((h.map k sk hk).not_blk hb0).symm
    rcases setVs_cases hk with ⟨_, h1⟩ | ⟨rfl, sc0, h1, rfl⟩
    · exact (h.map k sk h1).same (hm sk h1)
    · rw [hi] at h1
      cases h1
      have := (h.map k sc hi).same (hm sc hi)
      simp only [List.length_set]
      exact this.congr fun s => by rw [findV_set sc.vs j va va' hj hn]
  · rcases setVs_cases hk with ⟨hne, h1⟩ | ⟨rfl, sc0, h1, rfl⟩
    · refine (hw _ (h.var k l sk vk h1 hl).lt fun e => hne ?_).trans (h.var k l sk vk h1 hl)
      exact (h.vinj k l i j sk sc vk va h1 hl hi hj e).1
    · rw [hi] at h1
      cases h1
      simp only at hl
      by_cases e : l = j
      · subst e
        rw [List.getElem?_set_self (by have := (List.getElem?_eq_some_iff.1 hj).1; omega)] at hl
        cases hl
        exact hv
      · rw [List.getElem?_set_ne (fun h => e h.symm)] at hl
        refine (hw _ (h.var k l sc vk hi hl).lt fun e2 => e ?_).trans (h.var k l sc vk hi hl)
        exact (h.vinj k l k j sc sc vk va hi hl hi hj e2).2
  · have old : ∀ (k l : Nat) (sk : Sco) (vk : Va), (setVs S i (sc.vs.set j va'))[k]? = some sk → sk.vs[l]? = some vk → ∃ sk0 vk0, S[k]? = some sk0 ∧ sk0.vs[l]? = some vk0 := fun k l sk vk hk hl => by
      rcases setVs_cases hk with ⟨_, h1⟩ | ⟨rfl, sc0, h1, rfl⟩
      · exact ⟨sk, vk, h1, hl⟩
      · simp only at hl
        have : l < sc.vs.length := by have := (List.getElem?_eq_some_iff.1 hl).1; simpa using this
        exact ⟨sc, sc.vs[l], hi, List.getElem?_eq_getElem this⟩
    obtain ⟨s1, v1, q1, q2⟩ := old k l sk vk hk hl
    obtain ⟨s2, v2, q3, q4⟩ := old k' l' sk' vk' hk' hl'
    exact h.vinj k l k' l' s1 s2 v1 v2 q1 q2 q3 q4 e
  · rw [len] at hk hk'
    exact h.minj k k' hk hk' e
  · exact hb.elim (fun hx => ⟨(h.low b hx).1, Nat.lt_of_lt_of_le (h.low b hx).2 hs⟩) (fun hx => ⟨Nat.le_trans h.lowb hx.1, hx.2⟩)
  · rw [len] at hg; exact .inl (h.xr g hg)
  · rw [len] at hk; exact .inl (h.xs k hk)
  · rw [len] at hk; exact .inl (h.xm k hk)
  · rcases setVs_cases hk with ⟨_, h1⟩ | ⟨rfl, sc0, h1, rfl⟩
    · exact .inl (h.xv k l sk vk h1 hl)
    · simp only at hl
      have : l < sc.vs.length := by have := (List.getElem?_eq_some_iff.1 hl).1; simpa using this
      exact .inl (h.xv k l sc sc.vs[l] hi (List.getElem?_eq_getElem this))
/-- A variable has come. -/
theorem PAt.addVar (h : PAt base X w hb S sb mb vb a c) {i : Nat} {sc : Sco} {va : Va} (hi : S[i]? = some sc) (hn : findV sc.vs va.name = none) (hw : ∀ b, b < w.heap.size → b ≠ mb i → w'.heap[b]? = w.heap[b]?) (hs : w.heap.size < w'.heap.size)
    (hv : Blk w' w.heap.size (pcs va) 56) (hm : MapIs w' (mb i) (sc.vs.length + 1) (upd (fun s => (findV sc.vs s).map (vb i)) va.name (some w.heap.size))) :
    PAt base (Also X w w') w' hb (setVs S i (sc.vs ++ [va])) sb mb (fun k l => if k = i ∧ l = sc.vs.length then w.heap.size else vb k l) a c := by
  have len := setVs_len S i (sc.vs ++ [va])
  have hmi := h.map i sc hi
  have hnb : ∀ {b : Nat} {cs : Array Value} {t : TypeId}, Blk w b cs t → w'.heap[b]? = w.heap[b]? := fun hbk => hw _ hbk.lt (hmi.not_blk hbk)
  have old : ∀ (k l : Nat) (sk : Sco) (vk : Va), (setVs S i (sc.vs ++ [va]))[k]? = some sk → sk.vs[l]? = some vk → (k = i ∧ l = sc.vs.length ∧ vk = va) ∨ (¬ (k = i ∧ l = sc.vs.length) ∧ ∃ sk0, S[k]? = some sk0 ∧ sk0.vs[l]? = some vk) := fun k l sk vk hk hl => by
    rcases setVs_cases hk with ⟨hne, h1⟩ | ⟨rfl, sc0, h1, rfl⟩
    · exact .inr ⟨fun e => hne e.1, sk, h1, hl⟩
    · simp only at hl
      by_cases e : l = sc.vs.length
      · subst e
        simp at hl
        exact .inl ⟨rfl, rfl, hl.symm⟩
      · refine .inr ⟨fun e2 => e e2.2, sc, hi, ?_⟩
        have : l < sc.vs.length := by have := (List.getElem?_eq_some_iff.1 hl).1; simp at this; omega
        rwa [List.getElem?_append_left this] at hl
  refine ⟨?_, ?_, fun k sk hk => ?_, h.par.setVs _ _, fun k sk hk => ?_, fun k l sk vk hk hl => ?_, fun k l k' l' sk sk' vk vk' hk hl hk' hl' e => ?_, fun k k' hk hk' e => ?_, fun b hb => ?_, .inl h.xh, fun g hg => ?_, fun k hk => ?_, fun k hk => ?_, fun k l sk vk hk hl => ?_⟩
  · rw [len]; exact (hnb h.head).trans h.head
  · rw [len]; exact own_same h.row fun g hg => hw g (h.row.lt g hg).2 fun e => hmi.not_own h.row (by rw [hg, e])
  · rcases setVs_cases hk with ⟨_, h1⟩ | ⟨rfl, sc0, h1, rfl⟩
    · exact (hnb (h.sco k sk h1)).trans (h.sco k sk h1)
    · exact (hnb (h.sco k sc0 h1)).trans (h.sco k sc0 h1)
  · rcases setVs_cases hk with ⟨hne, h1⟩ | ⟨rfl, sc0, h1, rfl⟩
    · refine ((h.map k sk h1).same (hw _ (h.map k sk h1).lt fun e => hne (h.minj k i (at_lt h1) (at_lt hi) e))).congr fun s => ?_
      cases findV sk.vs s with
      | none => rfl
      | some j => simp [hne]
    · simp only [List.length_append, List.length_cons, List.length_nil]
      refine hm.congr fun s => ?_
      rw [findV_snoc sc.vs va hn]
      unfold upd
      by_cases e : s = va.name
      · simp [e]
      · rw [if_neg e, if_neg e]
        show (findV sc.vs s).map (vb k) = _
        cases hf : findV sc.vs s with
        | none => rfl
        | some j =>
          obtain ⟨x, hx, -⟩ := findV_some hf
          have : j < sc.vs.length := (List.getElem?_eq_some_iff.1 hx).1
          have : ¬ j = sc.vs.length := by omega
          simp [this]
  · rcases old k l sk vk hk hl with ⟨rfl, rfl, rfl⟩ | ⟨hne, sk0, h1, h2⟩
    · rw [if_pos ⟨rfl, rfl⟩]; exact hv
    · rw [if_neg hne]; exact (hnb (h.var k l sk0 vk h1 h2)).trans (h.var k l sk0 vk h1 h2)
  · rcases old k l sk vk hk hl with ⟨rfl, rfl, rfl⟩ | ⟨hne, sk0, h1, h2⟩
    · rcases old k' l' sk' vk' hk' hl' with ⟨rfl, rfl, rfl⟩ | ⟨hne', sk0', h1', h2'⟩
      · exact ⟨rfl, rfl⟩
      · rw [if_pos ⟨rfl, rfl⟩, if_neg hne'] at e
        have := (h.var k' l' sk0' vk' h1' h2').lt
        omega
    · rcases old k' l' sk' vk' hk' hl' with ⟨rfl, rfl, rfl⟩ | ⟨hne', sk0', h1', h2'⟩
      · rw [if_neg hne, if_pos ⟨rfl, rfl⟩] at e
        have := (h.var k l sk0 vk h1 h2).lt
        omega
      · rw [if_neg hne, if_neg hne'] at e
        exact h.vinj k l k' l' sk0 sk0' vk vk' h1 h2 h1' h2' e
  · rw [len] at hk hk'
    exact h.minj k k' hk hk' e
  · exact hb.elim (fun hx => ⟨(h.low b hx).1, Nat.lt_trans (h.low b hx).2 hs⟩) (fun hx => ⟨Nat.le_trans h.lowb hx.1, hx.2⟩)
  · rw [len] at hg; exact .inl (h.xr g hg)
  · rw [len] at hk; exact .inl (h.xs k hk)
  · rw [len] at hk; exact .inl (h.xm k hk)
  · rcases old k l sk vk hk hl with ⟨rfl, rfl, rfl⟩ | ⟨hne, sk0, h1, h2⟩
    · rw [if_pos ⟨rfl, rfl⟩]; exact .inr ⟨Nat.le_refl _, hs⟩
    · rw [if_neg hne]; exact .inl (h.xv k l sk0 vk h1 h2)
end
end Go.Proofs.Ytglnihecgjfkiaa.Sc
