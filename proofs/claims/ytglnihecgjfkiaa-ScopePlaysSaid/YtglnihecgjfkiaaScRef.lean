/-
  The reference's scopes in memory; what reads them: there, at, find.
-/
import Derived.Test.YtglnihecgjfkiaaScAlive
import Derived.Test.YtglnihecgjfkiaaScLet
namespace Go.Proofs.Ytglnihecgjfkiaa.Sc
open Go Go.RowKit Go.Maps
set_option linter.unusedVariables false
set_option linter.unusedSimpArgs false
attribute [local go_sem ↓] ldV stV alV bxV bxP bdV bdP
attribute [local irreducible] vcs pcs
attribute [local go_sem] run_bx run_alV run_bd0

/-- A variable of the reference. -/
def rcs (a : Va) : List Value := [.string a.name, .bool a.fixed, .bool a.has, .int .i64 a.v.k, .int .i64 a.v.n, .string a.v.s]
def rcells (l : List Va) : List Value := l.flatMap rcs
theorem rcs_len (a : Va) : (rcs a).length = 6 := rfl
theorem rcells_len (l : List Va) : (rcells l).length = l.length * 6 := by
  induction l with
  | nil => rfl
  | cons a r ih => simp only [rcells, List.flatMap_cons, List.length_append, List.length_cons] at ih ⊢; rw [ih, rcs_len]; omega
theorem rcells_append (a b : List Va) : rcells (a ++ b) = rcells a ++ rcells b := by simp [rcells]
theorem rcells_at : ∀ {l : List Va} {j : Nat} {a : Va}, l[j]? = some a → ∀ i v, (rcs a)[i]? = some v → (rcells l)[j * 6 + i]? = some v
  | [], _, _, h, _, _, _ => by simp at h
  | b :: r, 0, a, h, i, v, hv => by
    simp at h
    subst h
    have hi : i < 6 := by have := (List.getElem?_eq_some_iff.1 hv).1; rwa [rcs_len] at this
    show ((rcs b) ++ rcells r)[0 * 6 + i]? = _
    rw [Nat.zero_mul, Nat.zero_add, List.getElem?_append_left (by rw [rcs_len]; omega)]
    exact hv
  | b :: r, j + 1, a, h, i, v, hv => by
    have := rcells_at (l := r) (by simpa using h) i v hv
    show ((rcs b) ++ rcells r)[(j + 1) * 6 + i]? = _
    rw [List.getElem?_append_right (by rw [rcs_len]; omega), rcs_len, show (j + 1) * 6 + i - 6 = j * 6 + i by omega]
    exact this
abbrev rhd (p l : Value) : Array Value := #[p, l]
/-- The reference's scopes lie at rb; X: the blocks that are theirs; hv: each scope's list. -/
structure RAt (base : Nat) (X : Nat → Prop) (w : World) (rb : Nat) (S : List Sco) (ap : Option Addr) (cp : Nat) (al : Option Addr) (cl : Nat) (hv : Nat → Value) : Prop where
  head : Blk w rb (rhd (.slice ap S.length cp) (.slice al S.length cl)) 49
  prow : w.ownsRow base 3 1 (.slice ap S.length cp) S.length (S.map fun sc => .int .i64 sc.parent)
  lrow : w.ownsRow base 59 1 (.slice al S.length cl) S.length ((List.range S.length).map hv)
  vrow : ∀ (i : Nat) (sc : Sco), S[i]? = some sc → w.ownsRow base 61 6 (hv i) sc.vs.length (rcells sc.vs)
  par : Par S
  inj : ∀ (i j g : Nat), i < S.length → j < S.length → (hv i).ownBlock = some g → (hv j).ownBlock = some g → i = j
  low : ∀ b, X b → base ≤ b ∧ b < w.heap.size
  lowb : base ≤ w.heap.size
  xh : X rb
  xp : ∀ g, (Value.slice ap S.length cp).ownBlock = some g → X g
  xl : ∀ g, (Value.slice al S.length cl).ownBlock = some g → X g
  xv : ∀ (i g : Nat), i < S.length → (hv i).ownBlock = some g → X g
def RIs (base : Nat) (X : Nat → Prop) (w : World) (rb : Nat) (S : List Sco) : Prop := ∃ ap cp al cl hv, RAt base X w rb S ap cp al cl hv
section
variable {base : Nat} {X : Nat → Prop} {w w' : World} {rb : Nat} {S : List Sco} {ap : Option Addr} {cp : Nat} {al : Option Addr} {cl : Nat} {hv : Nat → Value}
theorem RAt.same (h : RAt base X w rb S ap cp al cl hv) (hw : ∀ b, X b → w'.heap[b]? = w.heap[b]?) (hs : w.heap.size ≤ w'.heap.size) : RAt base X w' rb S ap cp al cl hv where
  head := (hw _ h.xh).trans h.head
  prow := own_same h.prow fun g hg => hw g (h.xp g hg)
  lrow := own_same h.lrow fun g hg => hw g (h.xl g hg)
  vrow := fun i sc hi => own_same (h.vrow i sc hi) fun g hg => hw g (h.xv i g (at_lt hi) hg)
  par := h.par
  inj := h.inj
  low := fun b hb => ⟨(h.low b hb).1, Nat.lt_of_lt_of_le (h.low b hb).2 hs⟩
  lowb := Nat.le_trans h.lowb hs
  xh := h.xh
  xp := h.xp
  xl := h.xl
  xv := h.xv
theorem RIs.same (h : RIs base X w rb S) (hw : ∀ b, X b → w'.heap[b]? = w.heap[b]?) (hs : w.heap.size ≤ w'.heap.size) : RIs base X w' rb S := by
  obtain ⟨ap, cp, al, cl, hv, h⟩ := h
  exact ⟨ap, cp, al, cl, hv, h.same hw hs⟩
theorem RIs.low (h : RIs base X w rb S) : ∀ b, X b → base ≤ b ∧ b < w.heap.size := by
  obtain ⟨ap, cp, al, cl, hv, h⟩ := h
  exact h.low
theorem own_cell {e : TypeId} {n c i : Nat} {a : Option Addr} {xs : List Value} {v : Value} (h : w.ownsRow base e 1 (.slice a n c) n xs) (hi : xs[i]? = some v) : ∃ g, a = some ⟨g, 0, none⟩ ∧ w.cell? ⟨g, i, none⟩ = some v := by
  have hlt : i < n := by have := (List.getElem?_eq_some_iff.1 hi).1; have := h.1; omega
  rcases h.2 with ⟨h1, h2⟩ | ⟨g, cap, cur, h1, h2, h3⟩
  · omega
  · simp only [Value.slice.injEq] at h1
    obtain ⟨rfl, -, -⟩ := h1
    exact ⟨g, rfl, by rw [h.cellAt i (by omega)]; exact hi⟩
theorem RAt.list (h : RAt base X w rb S ap cp al cl hv) {i : Nat} {sc : Sco} (hi : S[i]? = some sc) : ∃ g, al = some ⟨g, 0, none⟩ ∧ w.cell? ⟨g, i, none⟩ = some (hv i) :=
  own_cell h.lrow (by rw [List.getElem?_map, List.getElem?_range (at_lt hi)]; rfl)
theorem RAt.parent (h : RAt base X w rb S ap cp al cl hv) {i : Nat} {sc : Sco} (hi : S[i]? = some sc) : ∃ g, ap = some ⟨g, 0, none⟩ ∧ w.cell? ⟨g, i, none⟩ = some (.int .i64 sc.parent) :=
  own_cell h.prow (by rw [List.getElem?_map, hi]; rfl)
theorem RAt.shape (h : RAt base X w rb S ap cp al cl hv) {i : Nat} {sc : Sco} (hi : S[i]? = some sc) : ∃ a c, hv i = .slice a sc.vs.length c := own_shape (h.vrow i sc hi)
/-- A variable's cells. -/
theorem RAt.cell (h : RAt base X w rb S ap cp al cl hv) {i j : Nat} {sc : Sco} {va : Va} (hi : S[i]? = some sc) (hj : sc.vs[j]? = some va) : ∃ g c, hv i = .slice (some ⟨g, 0, none⟩) sc.vs.length c ∧ sc.vs.length ≤ c ∧ ∀ q v, (rcs va)[q]? = some v → w.cell? ⟨g, j * 6 + q, none⟩ = some v := by
  have hrow := h.vrow i sc hi
  have hjl : j < sc.vs.length := (List.getElem?_eq_some_iff.1 hj).1
  rcases hrow.2 with ⟨h1, h2⟩ | ⟨g, cap, cur, h1, h2, h3, h4, -⟩
  · omega
  · rw [h1] at hrow
    refine ⟨g, cap, h1, h4, fun q v hq => ?_⟩
    have hq6 : q < 6 := by have := (List.getElem?_eq_some_iff.1 hq).1; rwa [rcs_len] at this
    rw [hrow.cellAt (j * 6 + q) (by omega)]
    exact rcells_at hj q v hq

/-! ### there -/
theorem there_any (h : RAt base X w rb S ap cp al cl hv) (env : Int) : Calls Try.prog 21 #[ptr rb, .int .i64 env] w fun e w' => e = .returned (.bool (there S env)) ∧ w' = w := by
  have c1 : w.cell? ⟨rb, 1, none⟩ = some (.slice al S.length cl) := h.head.cell 1
  obtain ⟨N, hN⟩ : ∃ N, S.length = N := ⟨_, rfl⟩
  rw [hN] at c1
  have hT : there S env = (decide (0 ≤ env) && decide (env < N)) := by rw [← hN]; rfl
  rw [hT]
  by_cases h0 : env < 0
  · have e1 : decide (0 ≤ env) = false := by simp; omega
    rw [e1, Bool.false_and]
    clear h hN hT
    go_enter Try.func21, Try.ntmps21
    go_wp2
    go_ret
    exact ⟨rfl, rfl⟩
  · have e0 : 0 ≤ env := by omega
    have e1 : decide (0 ≤ env) = true := by simp; omega
    rw [e1, Bool.true_and]
    clear h hN hT h0
    go_enter Try.func21, Try.ntmps21
    go_wp2
    go_ret
    exact ⟨rfl, rfl⟩

/-! ### at -/
theorem ne_list {a b : ByteArray} (h : ¬ a = b) : (a.toList == b.toList) = false := by
  refine beq_eq_false_iff_ne.2 fun e => h (Go.WideShapes.bytes_inj ?_)
  rwa [ByteArray.toList_eq, ByteArray.toList_eq] at e
/-- A place as at tells it, from the place k on. -/
def plc (k : Nat) : Option Nat → Int
  | none => -1
  | some j => (k + j : Nat)
theorem plc_step {l : List Va} {k : Nat} {a : Va} (h : l[k]? = some a) (s : ByteArray) : plc k (findV (l.drop k) s) = if a.name = s then (k : Int) else plc (k + 1) (findV (l.drop (k + 1)) s) := by
  have hk : k < l.length := (List.getElem?_eq_some_iff.1 h).1
  rw [List.drop_eq_getElem_cons hk]
  have e : l[k] = a := by rw [List.getElem?_eq_getElem hk] at h; exact Option.some.inj h
  rw [e, findV]
  by_cases hn : a.name = s
  · rw [if_pos hn, if_pos hn]; rfl
  · rw [if_neg hn, if_neg hn]
    cases findV (l.drop (k + 1)) s with
    | none => rfl
    | some j => simp only [Option.map_some, plc]; omega
theorem plc_end {l : List Va} {k : Nat} (h : l.length ≤ k) (s : ByteArray) : plc k (findV (l.drop k) s) = -1 := by rw [List.drop_eq_nil_of_le h]; rfl
theorem plc_zero (l : List Va) (s : ByteArray) : plc 0 (findV (l.drop 0) s) = plc 0 (findV l s) := rfl
theorem at_meas {n k : Nat} (h : k < n) (hn : n ≤ 1000) : n - (intOf (.int .i64 (wrap64 ((k : Int) + 1)))).toNat < n - (intOf (.int .i64 (k : Int))).toNat := by
  have e : wrap64 ((k : Int) + 1) = k + 1 := by unfold wrap64; omega
  rw [e]
  show n - ((k : Int) + 1).toNat < n - ((k : Int)).toNat
  omega
theorem at_meas2 {n k : Nat} (h : k < n) : n - (intOf (.int .i64 ((k : Int) + 1))).toNat < n - (intOf (.int .i64 (k : Int))).toNat := by
  show n - ((k : Int) + 1).toNat < n - ((k : Int)).toNat
  omega
set_option maxRecDepth 100000 in
set_option maxHeartbeats 2000000 in
theorem at_any (h : RAt base X w rb S ap cp al cl hv) {i : Nat} {sc : Sco} (hi : S[i]? = some sc) (s : ByteArray) (hl : sc.vs.length ≤ 1000) : Calls Try.prog 22 #[ptr rb, .int .i64 i, .string s] w fun e w' => e = .returned (.int .i64 (plc 0 (findV sc.vs s))) ∧ w' = w := by
  have c1 : w.cell? ⟨rb, 1, none⟩ = some (.slice al S.length cl) := h.head.cell 1
  obtain ⟨gl, rfl, c2⟩ := h.list hi
  obtain ⟨a, c, hsh⟩ := h.shape hi
  rw [hsh] at c2
  have hilt := at_lt hi
  obtain ⟨N, hN⟩ : ∃ N, S.length = N := ⟨_, rfl⟩
  obtain ⟨n, hn⟩ : ∃ n, sc.vs.length = n := ⟨_, rfl⟩
  rw [hN] at c1 hilt
  rw [hn] at c2 hl
  have d1 : (i : Int) < N := by omega
  have d2 : decide ((N : Int) ≤ i) = false := by simp; omega
  obtain ⟨R, hR⟩ : ∃ R, plc 0 (findV sc.vs s) = R := ⟨_, rfl⟩
  rw [hR]
  have HR : Hid (plc 0 (findV (sc.vs.drop 0) s) = R) := Lib.hid hR
  have H := Lib.hid h
  have HI := Lib.hid hi
  have HSH := Lib.hid hsh
  have HNN := Lib.hid hn
  have HL := Lib.hid hl
  clear h hi hsh hN hn hR
  go_enter Try.func22, Try.ntmps22
  go_wp2
  go_loopw [7] (fun v wr => wr = w ∧ ∃ k : Nat, k ≤ n ∧ v = .int .i64 k ∧ plc k (findV (sc.vs.drop k) s) = R) (fun v _ => n - (intOf v).toNat)
  case atStart => exact ⟨rfl, 0, Nat.zero_le _, rfl, HR.out⟩
  case round =>
    obtain ⟨rfl, k, hk, rfl, hR⟩ := hrel
    by_cases hlt : k < n
    · obtain ⟨va, hva⟩ : ∃ va, sc.vs[k]? = some va := ⟨sc.vs[k]'(by have := HNN.out; omega), List.getElem?_eq_getElem _⟩
      obtain ⟨g, c', q1, q2, q3⟩ := H.out.cell HI.out hva
      rw [HSH.out, HNN.out] at q1
      simp only [Value.slice.injEq, true_and] at q1
      obtain ⟨rfl, rfl⟩ := q1
      have c3 : wr.cell? ⟨g, k * 6, none⟩ = some (.string va.name) := q3 0 _ rfl
      rw [plc_step hva] at hR
      have t1 : (k : Int) < n := by omega
      have t2 : decide ((n : Int) ≤ k) = false := by simp; omega
      have HLT := Lib.hid hlt
      have hw := (show wrap64 ((k : Int) + 1) = k + 1 by unfold wrap64; have := HL.out; omega)
      have HW := Lib.hid hw
      by_cases hnm : va.name = s
      · rw [if_pos hnm] at hR
        subst hR
        have hb : (va.name.toList == s.toList) = true := by rw [hnm]; simp
        clear q2 q3 hva hk hw hnm
        go_wp2
        go_ret
        exact ⟨rfl, rfl⟩
      · rw [if_neg hnm] at hR
        have hb := ne_list hnm
        have HR2 := Lib.hid hR
        clear q2 q3 hva hk hnm hR
        go_wp2
        go_roundw
        · exact ⟨trivial, k + 1, HLT.out, by congr 1, HR2.out⟩
        · exact at_meas2 HLT.out
    · obtain rfl : k = n := by omega
      rw [plc_end (by have := HNN.out; omega)] at hR
      subst hR
      have t2 : decide ((k : Int) < k) = false := by simp
      clear hk hlt
      go_wp2
      go_ret
      exact ⟨rfl, rfl⟩
end
end Go.Proofs.Ytglnihecgjfkiaa.Sc
