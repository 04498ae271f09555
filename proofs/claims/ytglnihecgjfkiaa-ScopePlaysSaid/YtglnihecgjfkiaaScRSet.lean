/-
  The reference's Get, Set and Begin.
-/
import Derived.Test.YtglnihecgjfkiaaScFind
namespace Go.Proofs.Ytglnihecgjfkiaa.Sc
open Go Go.RowKit Go.Maps
set_option linter.unusedVariables false
set_option linter.unusedSimpArgs false
attribute [local go_sem ↓] ldV stV alV bxV bxP bdV bdP
attribute [local irreducible] vcs pcs
attribute [local go_sem] run_bx run_alV run_bd0

/-! ### A cell of a list of the call's own is written -/
theorem own_put {w : World} {base : Nat} {e : TypeId} {size n g c o : Nat} {xs : List Value} (h : w.ownsRow base e size (.slice (some ⟨g, 0, none⟩) n c) n xs) (ho : o < n * size) (u : Value) : (w.setCell ⟨g, o, none⟩ u).ownsRow base e size (.slice (some ⟨g, 0, none⟩) n c) n (xs.set o u) := by
  refine ⟨by rw [List.length_set]; exact h.1, ?_⟩
  rcases h.2 with ⟨h1, _⟩ | ⟨g', cap, cur, h1, h2, h3, h4, h5, h6, h7⟩
  · cases h1
  · simp only [Value.slice.injEq, Option.some.injEq, Addr.mk.injEq, and_true, true_and] at h1
    obtain ⟨rfl, rfl⟩ := h1
    refine .inr ⟨g, c, cur.setIfInBounds o u, rfl, h2, heap_setCell_same w g o cur e u h3, h4, h5, by simpa using h6, ?_⟩
    rw [Array.toList_setIfInBounds, List.take_set, h7]
theorem rcells_set : ∀ {l : List Va} {j : Nat} {a a' : Va} {q : Nat} {u : Value}, l[j]? = some a → q < 6 → rcs a' = (rcs a).set q u → (rcells l).set (j * 6 + q) u = rcells (l.set j a')
  | [], _, _, _, _, _, h, _, _ => by simp at h
  | b :: r, 0, a, a', q, u, h, hq, he => by
    simp at h
    subst h
    show ((rcs b) ++ rcells r).set (0 * 6 + q) u = (rcs a') ++ rcells r
    rw [Nat.zero_mul, Nat.zero_add, List.set_append_left _ _ (by rw [rcs_len]; omega), he]
  | b :: r, j + 1, a, a', q, u, h, hq, he => by
    have ih := rcells_set (l := r) (j := j) (by simpa using h) hq he
    show ((rcs b) ++ rcells r).set ((j + 1) * 6 + q) u = (rcs b) ++ rcells (r.set j a')
    rw [List.set_append_right _ _ (by rw [rcs_len]; omega), rcs_len, show (j + 1) * 6 + q - 6 = j * 6 + q by omega, ih]
section
variable {base : Nat} {X : Nat → Prop} {w w' : World} {rb : Nat} {S : List Sco} {ap : Option Addr} {cp : Nat} {al : Option Addr} {cl : Nat} {hv : Nat → Value}
theorem own_none_or {e : TypeId} {size n : Nat} {v : Value} {xs : List Value} (h : w.ownsRow base e size v n xs) : v.ownBlock = none ∨ ∃ g, v.ownBlock = some g := by cases v.ownBlock with | none => exact .inl rfl | some g => exact .inr ⟨g, rfl⟩
theorem setVs_parents {S : List Sco} (i : Nat) (l : List Va) : (setVs S i l).map (fun sc => Value.int .i64 sc.parent) = S.map fun sc => .int .i64 sc.parent := by
  apply List.ext_getElem?
  intro k
  simp only [List.getElem?_map, setVs, List.getElem?_modify]
  cases S[k]? with
  | none => rfl
  | some sc =>
    by_cases e : i = k <;> simp [e]
/-- One scope's list has turned; where nothing else has. -/
theorem RAt.turn (h : RAt base X w rb S ap cp al cl hv) {i : Nat} {sc : Sco} (hi : S[i]? = some sc) {g : Nat} (hg : (hv i).ownBlock = some g) {l' : List Va} (hlen : l'.length = sc.vs.length) (hw : ∀ b, b < w.heap.size → b ≠ g → w'.heap[b]? = w.heap[b]?) (hs : w.heap.size ≤ w'.heap.size)
    (hrow : w'.ownsRow base 61 6 (hv i) l'.length (rcells l')) : RAt base X w' rb (setVs S i l') ap cp al cl hv := by
  have len := setVs_len S i l'
  have hr := h.vrow i sc hi
  have two : ∀ {e : TypeId} {sz n : Nat} {v : Value} {xs : List Value}, w.ownsRow base e sz v n xs → e ≠ 61 → w'.ownsRow base e sz v n xs := fun ho he => own_same ho fun g2 hg2 => hw g2 (ho.lt g2 hg2).2 fun e2 => by
    rcases own_two ho hr he with h1 | h1
    · rw [hg2] at h1; cases h1
    · exact h1 (by rw [hg2, hg, e2])
  refine ⟨?_, ?_, ?_, fun k sk hk => ?_, h.par.setVs _ _, fun k m g2 hk hm => ?_, fun b hb => ⟨(h.low b hb).1, Nat.lt_of_lt_of_le (h.low b hb).2 hs⟩, Nat.le_trans h.lowb hs, h.xh, fun g2 hg2 => ?_, fun g2 hg2 => ?_, fun k g2 hk => ?_⟩
  · rw [len]; exact (hw rb h.head.lt fun e => own_ne hr h.head (by decide) (by rw [hg, e])).trans h.head
  · rw [len, setVs_parents]; exact two h.prow (by decide)
  · rw [len]; exact two h.lrow (by decide)
  · rcases setVs_cases hk with ⟨hne, h1⟩ | ⟨rfl, sc0, h1, rfl⟩
    · exact own_same (h.vrow k sk h1) fun g2 hg2 => hw g2 ((h.vrow k sk h1).lt g2 hg2).2 fun e => hne (h.inj k i g2 (at_lt h1) (at_lt hi) hg2 (by rw [hg, e]))
    · exact hrow
  · rw [len] at hk hm
    exact h.inj k m g2 hk hm
  · rw [len] at hg2; exact h.xp g2 hg2
  · rw [len] at hg2; exact h.xl g2 hg2
  · rw [len] at hk; exact h.xv k g2 hk
/-- One cell of a variable is written. -/
theorem RAt.put (h : RAt base X w rb S ap cp al cl hv) {i j : Nat} {sc : Sco} {va va' : Va} (hi : S[i]? = some sc) (hj : sc.vs[j]? = some va) {g c : Nat} (hg : hv i = .slice (some ⟨g, 0, none⟩) sc.vs.length c) {q : Nat} (hq : q < 6) {u : Value} (he : rcs va' = (rcs va).set q u) :
    RAt base X (w.setCell ⟨g, j * 6 + q, none⟩ u) rb (setVs S i (sc.vs.set j va')) ap cp al cl hv := by
  have hjl : j < sc.vs.length := (List.getElem?_eq_some_iff.1 hj).1
  refine h.turn hi (g := g) (by rw [hg]; rfl) (by simp) (fun b hb hne => heap_setCell_other w ⟨g, j * 6 + q, none⟩ b u hne) (by simp [World.setCell]) ?_
  have hr := h.vrow i sc hi
  rw [hg] at hr
  have := own_put hr (o := j * 6 + q) (by omega) u
  rw [rcells_set hj hq he] at this
  rw [hg]
  simpa using this
theorem setVs_setVs (S : List Sco) (i : Nat) (l l' : List Va) : setVs (setVs S i l) i l' = setVs S i l' := by
  apply List.ext_getElem?
  intro k
  simp only [setVs, List.getElem?_modify]
  cases S[k]? with
  | none => rfl
  | some sc => by_cases e : i = k <;> simp [e]
/-- A variable's value is written. -/
theorem RAt.putV (h : RAt base X w rb S ap cp al cl hv) {i j : Nat} {sc : Sco} {va : Va} (hi : S[i]? = some sc) (hj : sc.vs[j]? = some va) {g c : Nat} (hg : hv i = .slice (some ⟨g, 0, none⟩) sc.vs.length c) (v : Vl) :
    RAt base X (w.setCells g (j * 6 + 3) (vcs v).toList) rb (setVs S i (sc.vs.set j { va with v := v })) ap cp al cl hv := by
  have hjl : j < sc.vs.length := (List.getElem?_eq_some_iff.1 hj).1
  have same : ∀ (T : List Sco) (l : List Va), T = setVs S i l → T[i]? = some { sc with vs := l } := fun T l e => by rw [e]; exact setVs_same hi l
  have k1 := h.put (va' := { va with v := ⟨v.k, va.v.n, va.v.s⟩ }) hi hj hg (q := 3) (u := .int .i64 v.k) (by omega) rfl
  have k2 := k1.put (va' := { va with v := ⟨v.k, v.n, va.v.s⟩ }) (setVs_same hi _) (j := j) (va := { va with v := ⟨v.k, va.v.n, va.v.s⟩ }) (by simp [hjl]) (g := g) (c := c) (by simpa using hg) (q := 4) (u := .int .i64 v.n) (by omega) rfl
  rw [setVs_setVs] at k2
  simp only [List.set_set] at k2
  have k3 := k2.put (va' := { va with v := v }) (setVs_same hi _) (j := j) (va := { va with v := ⟨v.k, v.n, va.v.s⟩ }) (by simp [hjl]) (g := g) (c := c) (by simpa using hg) (q := 5) (u := .string v.s) (by omega) rfl
  rw [setVs_setVs] at k3
  simp only [List.set_set] at k3
  have e : w.setCells g (j * 6 + 3) (vcs v).toList = ((w.setCell ⟨g, j * 6 + 3, none⟩ (.int .i64 v.k)).setCell ⟨g, j * 6 + 4, none⟩ (.int .i64 v.n)).setCell ⟨g, j * 6 + 5, none⟩ (.string v.s) := by unfold vcs; rfl
  rw [e]
  exact k3
/-- How a call on the reference's scopes ends. -/
def EndsR (base : Nat) (X : Nat → Prop) (rb : Nat) (w : World) (r : Value) (S : List Sco) (e : Ending) (w' : World) : Prop := e = .returned r ∧ ∃ X', RIs base X' w' rb S ∧ Step X X' w w'
theorem RAt.ends (h : RAt base X w rb S ap cp al cl hv) {r : Value} (hw : Below w.heap.size w w') : EndsR base X rb w r S (.returned r) w' :=
  ⟨rfl, X, ⟨ap, cp, al, cl, hv, h.same (fun b hx => hw.block b (h.low b hx).2) hw.size⟩, ⟨(Fr.refl w).below hw, fun b hb _ => hw.block b hb, fun _ h => .inl h⟩⟩
theorem rng_val {g j : Nat} {va : Va} (h : ∀ q v, (rcs va)[q]? = some v → w.cell? ⟨g, j * 6 + q, none⟩ = some v) : w.rangeAt g (j * 6 + 3) (vcs va.v).toList := fun q v hq => by
  have e : (vcs va.v).toList = [.int .i64 va.v.k, .int .i64 va.v.n, .string va.v.s] := by simp [vcs]
  rw [e] at hq
  have hlt : q < 3 := by have := (List.getElem?_eq_some_iff.1 hq).1; simpa using this
  have := h (3 + q) v (by
    match q, hlt, hq with
    | 0, _, hq => simpa [rcs] using hq
    | 1, _, hq => simpa [rcs] using hq
    | 2, _, hq => simpa [rcs] using hq)
  rw [Nat.add_assoc]
  exact this
set_option maxRecDepth 100000 in
set_option maxHeartbeats 2000000 in
theorem rget_any (h : RAt base X w rb S ap cp al cl hv) (env : Int) (s : ByteArray) (hl : ∀ (i : Nat) (sc : Sco), S[i]? = some sc → sc.vs.length ≤ 1000) :
    Calls Try.prog 16 #[ptr rb, .int .i64 env, .string s] w fun e w' => e = .returned (.tuple #[.agg (vcs (getF S env s).1), .int .i64 (getF S env s).2]) ∧ Below w.heap.size w w' := by
  obtain ⟨w1, hw1⟩ : ∃ w1, w.alloc (.cells (vcs zeroV) 29) = w1 := ⟨_, rfl⟩
  have h1 : RAt base X w1 rb S ap cp al cl hv := by rw [← hw1]; exact h.alloc _
  have b1 : Below w.heap.size w w1 := by rw [← hw1]; exact (Below.refl _ w).alloc (Nat.le_refl _) _
  have x1 : Blk w1 w.heap.size (vcs zeroV) 29 := by rw [← hw1]; exact Blk.new w _ _
  have hfd := find_any h1 env s hl
  have hst : ∀ v : Vl, (St 29 (.pointer (some ⟨w.heap.size, 0, none⟩)) (.agg (vcs v))).run Try.prog w1 = .ok () (w1.setRow w.heap.size (vcs v)) := fun v => run_stRow x1 (vcs_size _)
  have hend : ∀ v : Vl, Blk (w1.setRow w.heap.size (vcs v)) w.heap.size (vcs v) 29 ∧ Below w.heap.size w (w1.setRow w.heap.size (vcs v)) := fun v => ⟨x1.row _, ⟨b1.os, b1.tape, b1.output, by rw [size_setRow]; exact b1.size, fun b hb => (setRow_other w1 _ b _ (by omega)).trans (b1.block b hb)⟩⟩
  have HE := Lib.hid hend
  clear hend b1 x1
  cases hsk : seek S env s with
  | none =>
    have e1 : getF S env s = (zeroV, 1) := by simp [getF, hsk]
    have e2 : findV2 (seek S env s) = .tuple #[.int .i64 (-1), .int .i64 (-1)] := by rw [hsk]; rfl
    rw [e1]
    rw [e2] at hfd
    have hst := hst zeroV
    clear h h1 hsk e1 e2 hl
    go_enter Try.func16, Try.ntmps16
    go_wp2_with (go_at_call 24; refine hfd.mono ?_; rintro e w2 ⟨rfl, hw2⟩; subst w2)
    refine bodyPost_ret (res2_V rfl _ _ w.heap.size zeroV rfl (HE.out zeroV).1) rfl ?_
    exact ⟨rfl, (HE.out zeroV).2⟩
  | some x =>
    obtain ⟨i, j⟩ := x
    obtain ⟨sc, va, hi, hj, hnm, hf⟩ := seek_got h.par hsk
    have hva : varAt S i j = some va := by simp [varAt, hi, hj]
    have e2 : findV2 (seek S env s) = .tuple #[.int .i64 i, .int .i64 j] := by rw [hsk]; rfl
    rw [e2] at hfd
    have c1 : w1.cell? ⟨rb, 1, none⟩ = some (.slice al S.length cl) := h1.head.cell 1
    obtain ⟨gl, rfl, c2⟩ := h1.list hi
    obtain ⟨g, c, q1, q2, q3⟩ := h1.cell hi hj
    rw [q1] at c2
    have q4 : w1.cell? ⟨g, j * 6 + 2, none⟩ = some (.bool va.has) := q3 2 _ rfl
    have hld := run_ldR (rng_val q3)
    have hjl : j < sc.vs.length := (List.getElem?_eq_some_iff.1 hj).1
    have hil := at_lt hi
    obtain ⟨N, hN⟩ : ∃ N, S.length = N := ⟨_, rfl⟩
    obtain ⟨n, hn⟩ : ∃ n, sc.vs.length = n := ⟨_, rfl⟩
    rw [hN] at c1 hil
    rw [hn] at c2 hjl
    have t1 : (i : Int) < N := by omega
    have t2 : decide ((N : Int) ≤ i) = false := by simp; omega
    have t3 : (j : Int) < n := by omega
    have t4 : decide ((n : Int) ≤ j) = false := by simp; omega
    have t5 : decide ((j : Int) < 0) = false := by simp
    cases hh : va.has with
    | false =>
      have e1 : getF S env s = (zeroV, 2) := by simp [getF, hsk, hva, hh]
      rw [e1]
      rw [hh] at q4
      have hst := hst zeroV
      clear h h1 hsk e1 e2 hl hva hj hi hf hld q1 q2 q3 hN hn
      go_enter Try.func16, Try.ntmps16
      go_wp2_with (go_at_call 24; refine hfd.mono ?_; rintro e w2 ⟨rfl, hw2⟩; subst w2)
      refine bodyPost_ret (res2_V rfl _ _ w.heap.size zeroV rfl (HE.out zeroV).1) rfl ?_
      exact ⟨rfl, (HE.out zeroV).2⟩
    | true =>
      have e1 : getF S env s = (va.v, 0) := by simp [getF, hsk, hva, hh]
      rw [e1]
      rw [hh] at q4
      have hst := hst va.v
      clear h h1 hsk e1 e2 hl hva hj hi hf q1 q2 q3 hN hn
      go_enter Try.func16, Try.ntmps16
      go_wp2_with (go_at_call 24; refine hfd.mono ?_; rintro e w2 ⟨rfl, hw2⟩; subst w2)
      refine bodyPost_ret (res2_V rfl _ _ w.heap.size va.v rfl (HE.out va.v).1) rfl ?_
      exact ⟨rfl, (HE.out va.v).2⟩
end
end Go.Proofs.Ytglnihecgjfkiaa.Sc
