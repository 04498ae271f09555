/-
  reader.quoted.
-/
import Derived.Test.YtlboaldikgonoaaDoorLxNumb
import Derived.Test.YtlboaldikgonoaaDoorUnText
import Derived.Test.YtlboaldikgonoaaDoorVaQi
import Derived.OwnWalk
import Derived.Maps.AppendAt
import Derived.Laws.AppendOwnNone
namespace Go.Proofs.YtlboaldikgonoaaDoor.Lx
open Go Go.RowKit Go.Maps Go.Proofs.YtlboaldikgonoaaDoor.Uni
set_option linter.unusedVariables false
set_option linter.unusedSimpArgs false
attribute [local go_sem ↓] ldK stK alK bdK
attribute [local irreducible] kcs
attribute [local go_sem] run_alK run_bdK0 run_bdKs run_bdKn run_bdKe

/-- 'append(out, l...)', both lists of the call's own. -/
theorem wp_append_two {P : Program} {w : World} {ops : Array Oper} {rest : List Oper} {o : Oper} {a : Act} {Q : Exit → Act → World → Prop} (hgd : o.guard = none) (s x : Operand) (t : TypeId)
    (ho : o.op = .call { callee := .builtin .append, args := #[s, x], argTypes := #[t, t] })
    (base : Nat) (e : TypeId) (i : TypeInfo) (z : Value) (size bytes : Nat) (ht : P.underlying t = some (.slice e)) (hi : P.info? e = some i) (hz : i.zero = some z)
    (hsize : i.size = size) (hby : i.bytes = bytes) (hzs : z.cells.size = size) (hsz : 0 < size)
    (v : Value) (n : Nat) (xs : List Value) (hs : a.eval s = v) (hown : w.ownsRow base e size v n xs)
    (base2 : Nat) (v2 : Value) (n2 : Nat) (xs2 : List Value) (hx : a.eval x = v2) (hown2 : w.ownsRow base2 e size v2 n2 xs2) (h1 : ∀ u ∈ xs2, u.oneCell' = true)
    (h63 : n + n2 ≤ maxLen) (hbytes : (n + n2) * bytes ≤ 140737488355328) (hbase : base ≤ w.heap.size)
    (h : ∀ v' w', w'.ownsRow base e size v' (n + n2) (xs ++ xs2) → w.grownBy w' v.ownBlock → (v'.ownBlock = v.ownBlock ∨ v'.ownBlock = some w.heap.size) → wpList P ops Q rest (a.put o.dst v') w') :
    wpList P ops Q (o :: rest) a w := by
  rcases hown2.2 with ⟨rfl, rfl⟩ | ⟨g, cap, cur, rfl, _⟩
  · have hn : xs2 = [] := List.eq_nil_of_length_eq_zero (by simpa using hown2.1)
    subst hn
    exact wpList_append_own_none hgd s x t ho base e i size ht hi v n xs hs hown hx (h v w (by simpa using hown) (World.grownBy.refl _ _) (.inl rfl))
  · exact wpList_append_own_at w hgd s x t ho base e i z size bytes ht hi hz hsize hby hzs hsz v n xs hs hown ⟨g, 0, none⟩ n2 cap xs2 hx hown2.1 (hown2.cells (g := g) rfl) h1 h63 hbytes hbase
      (fun v' w' r1 r2 _ r4 => h v' w' r1 r2 r4)
theorem uc_one (l : List Nat) : ∀ u ∈ uc l, u.oneCell' = true := by
  intro u hu
  unfold uc at hu
  obtain ⟨n, _, rfl⟩ := List.mem_map.1 hu
  rfl

/-- What is known of the world while a string is read: the quote's cell, the result's cell, the reader. -/
structure Mq (g : Nat) (t : ByteArray) (a q : Nat) (w W : World) : Prop where
  bel : Below w.heap.size w W
  res : Blk W (w.heap.size + 1) (kcs zeroK) 33
  cap : W.cell? ⟨w.heap.size, 0, none⟩ = some (.int .i32 (q : Int))
  rd : Rd W g t a
  lt : g < w.heap.size
  size : w.heap.size + 2 ≤ W.heap.size
theorem Mq.low {g : Nat} {t : ByteArray} {a q : Nat} {w W W2 : World} (h : Mq g t a q w W) (hb : Below (w.heap.size + 2) W W2) : Mq g t a q w W2 := by
  have hl := h.lt
  refine ⟨h.bel.trans (hb.mono (by omega)), h.res.below hb (by omega), ?_, (hb.block g (by omega)).trans h.rd, hl, Nat.le_trans h.size hb.size⟩
  rw [hb.cell (p := ⟨w.heap.size, 0, none⟩) (by show w.heap.size < w.heap.size + 2; omega)]
  exact h.cap
theorem Mq.call {g : Nat} {t : ByteArray} {a q : Nat} {w W W2 : World} (h : Mq g t a q w W) (hb : Below W.heap.size W W2) : Mq g t a q w W2 := h.low (hb.mono h.size)
theorem Mq.drewN {g : Nat} {t : ByteArray} {a q : Nat} {w W : World} (h : Mq g t a q w W) (n : Nat) : Mq g t a q w (W.drewN n) := h.call (below_drewN (Below.refl _ _) n)
theorem mq_start {g : Nat} {t : ByteArray} {a q : Nat} {w : World} (hr : Rd w g t a) : Mq g t a q w ((w.alloc (.cells #[.int .i32 (q : Int)] 21)).alloc (.cells (kcs zeroK) 33)) := by
  have hl := hr.lt
  refine ⟨bl_alloc bel1, blk_newg (by simp), ?_, hr.below (bl_alloc bel1), hl, by simp⟩
  have h1 : ((w.alloc (.cells #[.int .i32 (q : Int)] 21)).alloc (.cells (kcs zeroK) 33)).heap[w.heap.size]? = some (.cells #[.int .i32 (q : Int)] 21 (0, 0)) := by
    rw [heap_alloc_old _ _ (by simp)]
    exact heap_alloc_new w _
  exact cell_of_one h1
/-- The token is none: the reader stands at b. -/
theorem Mq.bad {g : Nat} {t : ByteArray} {a q b : Nat} {w W : World} (h : Mq g t a q w W) {l : By} (hl : l = t.data.toList.drop b) (hb : b ≤ t.size) {v : Int} (hv : v = (b : Int)) {fn : Func} {p r : Tmp} (hf : fn.results = #[.cell p 33, .tmp r]) {tmps : Array Value} (hp : tmps.getD p undef = .pointer (some ⟨w.heap.size + 1, 0, none⟩)) (hq : tmps.getD r undef = .bool false) : bodyPost Tryd.prog fn (GotP g t a w (.bad l)) .ret ⟨tmps, []⟩ ((W.setCell ⟨g, 1, none⟩ (.int .i64 v)).setRow (w.heap.size + 1) (kcs zeroK)) := by
  have hlt := h.lt
  have hne : w.heap.size + 1 ≠ g := by omega
  exact bodyPost_ret (res_K hf _ _ (w.heap.size + 1) zeroK _ hp hq ((h.res.other _ _ (by simpa using hne)).row _)) rfl ⟨rfl, b, hl, hb, (h.rd.set hv).row _ hne.symm, ((GB.of h.bel).trans (GB.set _ _ _)).row _ (by omega)⟩
theorem Mq.bad0 {g : Nat} {t : ByteArray} {a q : Nat} {w W : World} (h : Mq g t a q w W) {l : By} (hl : l = t.data.toList.drop a) (hb : a ≤ t.size) {fn : Func} {p r : Tmp} (hf : fn.results = #[.cell p 33, .tmp r]) {tmps : Array Value} (hp : tmps.getD p undef = .pointer (some ⟨w.heap.size + 1, 0, none⟩)) (hq : tmps.getD r undef = .bool false) : bodyPost Tryd.prog fn (GotP g t a w (.bad l)) .ret ⟨tmps, []⟩ (W.setRow (w.heap.size + 1) (kcs zeroK)) := by
  have hlt := h.lt
  exact bodyPost_ret (res_K hf _ _ (w.heap.size + 1) zeroK _ hp hq (h.res.row _)) rfl ⟨rfl, a, hl, hb, h.rd.row _ (by omega), (GB.of h.bel).row _ (by omega)⟩
theorem Mq.good {g : Nat} {t : ByteArray} {a q b : Nat} {w W W2 : World} (h : Mq g t a q w W) (h2 : Mq g t a q w W2) {l : By} (tk : Tk) {v : Int} (hv : v = (b : Int)) (hl : l = t.data.toList.drop b) (hb : b ≤ t.size) {fn : Func} {p r : Tmp} (hf : fn.results = #[.cell p 33, .tmp r]) {tmps : Array Value} (hp : tmps.getD p undef = .pointer (some ⟨w.heap.size + 1, 0, none⟩)) (hq : tmps.getD r undef = .bool true) {W3 : World} (hW : Below W2.heap.size (W2.setCell ⟨g, 1, none⟩ (.int .i64 v)) W3) : bodyPost Tryd.prog fn (GotP g t a w (.ok tk l)) .ret ⟨tmps, []⟩ (W3.setRow (w.heap.size + 1) (kcs ⟨tk.kind, a, tk.num, tk.text⟩)) := by
  have hlt := h.lt
  have hsz := h2.size
  have hne : w.heap.size + 1 ≠ g := by omega
  have r3 : Blk W3 (w.heap.size + 1) (kcs zeroK) 33 := (h2.res.other _ _ (by simpa using hne)).below hW (by omega)
  have d3 : Rd W3 g t b := (hW.block g (by omega)).trans (h2.rd.set hv)
  have k3 : Below w.heap.size (W2.setCell ⟨g, 1, none⟩ (.int .i64 v)) W3 := hW.mono (by omega)
  refine bodyPost_ret (res_K hf _ _ (w.heap.size + 1) ⟨tk.kind, a, tk.num, tk.text⟩ _ hp hq (r3.row _)) rfl ⟨rfl, b, hl, hb, d3.row _ hne.symm, ?_⟩
  refine GB.row ?_ _ (by omega)
  have g1 : GB g w (W2.setCell ⟨g, 1, none⟩ (.int .i64 v)) := (GB.of h2.bel).trans (GB.set _ _ _)
  exact ⟨k3.os.trans g1.os, k3.tape.trans g1.tape, k3.output.trans g1.output, Nat.le_trans g1.size k3.size, fun k hk hn => (k3.block k hk).trans (g1.block k hk hn)⟩

theorem esc_lt {l : By} : (escF l).1 < 65536 := by
  match l with
  | [] => simp [escF]
  | [_] => simp [escF]
  | a :: c :: r =>
    simp only [escF]
    have := c.toNat_lt
    split
    · simp
    · split
      · simp
      · split
        · simp; omega
        · split
          · split
            · simp
            · split
              · simp
              · rename_i u hu
                have h1 := hexF_lt _ _ _ hu
                have h2 : (r.take 4).length ≤ 4 := List.length_take_le _ _
                have h3 : 16 ^ (r.take 4).length ≤ 16 ^ 4 := Nat.pow_le_pow_right (by decide) h2
                simp
                omega
          · simp
theorem esc_len {l : By} : (escF l).2 ≤ l.length ∧ (escF l).2 ≤ 6 ∧ ((escF l).2 ≠ 0 → 2 ≤ (escF l).2) := by
  match l with
  | [] => simp [escF]
  | [_] => simp [escF]
  | a :: c :: r =>
    simp only [escF]
    split
    · simp
    · split
      · simp
      · split
        · simp
        · split
          · split
            · simp
            · split
              · simp
              · simp; omega
          · simp
theorem units_lt (s : ByteArray) : ∀ u ∈ units s, u < 65536 := by
  intro u hu
  unfold units at hu
  cases hp : pts s with
  | none => rw [hp] at hu; simp at hu
  | some L =>
    rw [hp] at hu
    exact Vals.uns_lt (pts_bd hp) u hu

/-- Where the loop stands. -/
structure QI (g : Nat) (t : ByteArray) (a q : Nat) (R : Got) (l0 : By) (w wr : World) (us : List Nat) (e f : Nat) (v : Value) : Prop where
  mq : Mq g t a q w wr
  own : wr.ownsRow (w.heap.size + 2) 51 1 v us.length (uc us)
  lo : a < e
  hi : e ≤ t.size
  len : us.length ≤ 2 * e
  fu : t.size < e + f
  lt : ∀ u ∈ us, u < 65536
  eq : R = quotF q l0 f us (t.data.toList.drop e)
end Go.Proofs.YtlboaldikgonoaaDoor.Lx
