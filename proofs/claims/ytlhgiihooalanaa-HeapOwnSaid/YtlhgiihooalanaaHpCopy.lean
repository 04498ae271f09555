/-
  Big; CopyThing.
-/
import Derived.Test.YtlhgiihooalanaaHpThing
import Derived.Laws.AppendOwnNone
namespace Go.Proofs.Ytlhgiihooalanaa.Hp
open Go Go.RowKit Go.Maps Go.Shelf Go.Proofs.Ytlhgiihooalanaa.Keys
set_option linter.unusedVariables false
set_option linter.unusedSimpArgs false
attribute [local go_sem ↓] ldE ldT bxT bxO bdO alE alT stE stT
attribute [local irreducible] ecs tcs ocs
attribute [local go_sem] run_bx run_alE run_alT run_bdO ecs_0 ecs_1 ecs_10 tcs_0 tcs_5 tcs_20 tcs_set5 tcs_set20 ocs_24
/-- Big: at a list of which it says no there are at most sixty properties. -/
def BigPost (es : List En) (w : World) (x : Ending) (w' : World) : Prop := ∃ b, x = .returned (.bool b) ∧ (b = false → es.length ≤ 60 ∧ ∀ e ∈ es, e.ks.size ≤ 100) ∧ w = w'
theorem small_next {es : List En} {j : Nat} {e : En} (he : es[j]? = some e) (h : ∀ x ∈ es.take j, x.ks.size ≤ 100) (hs : e.ks.size ≤ 100) : ∀ x ∈ es.take (j + 1), x.ks.size ≤ 100 := fun x hx => by
  rw [List.take_add_one, he] at hx
  simp at hx
  rcases hx with hx | rfl
  · exact h x hx
  · exact hs
theorem size_bound (s : ByteArray) : 100 < (s.size : Int) ∨ (s.size : Int) ≤ 100 := by omega
set_option maxRecDepth 100000 in
set_option maxHeartbeats 2000000 in
theorem big_any (ao : Option Addr) (cap : Nat) (es : List En) (w : World) (hlen : (es.length : Int) ≤ 9223372036854775807) (hc : EsAt w.heap.size ao es w) :
    Calls Try.prog 6 #[.slice ao es.length cap] w (BigPost es w) := by
  have HC := Lib.hid hc
  clear hc
  go_enter Try.func6, Try.ntmps6
  go_wp2
  go_loopw [3] (fun i wr => ∃ j : Nat, j ≤ es.length ∧ i = .int .i64 j ∧ wr = w ∧ Hid (∀ e ∈ es.take j, e.ks.size ≤ 100)) (fun i _ => es.length - (intOf i).toNat)
  case atStart => exact ⟨0, Nat.zero_le _, rfl, rfl, Lib.hid (fun e he => by simp at he)⟩
  case round =>
    obtain ⟨j, hj, rfl, rfl, hsm⟩ := hrel
    by_cases hlt : j < es.length
    · obtain ⟨e, he⟩ : ∃ e, es[j]? = some e := ⟨es[j], by simp [hlt]⟩
      have hlt2 : (j : Int) < es.length := by omega
      obtain ⟨b, off, rfl, hb, hat⟩ := HC.out j e he
      have c0 := enAt_cell hat 0 _ (ecs_0 e)
      have c10 := enAt_cell hat 10 _ (ecs_10 e)
      rw [Nat.add_zero] at c0
      have HE := Lib.hid he
      clear he hat hb
      rcases size_bound e.ks with h1 | h1
      · go_wp2
        go_ret
        exact ⟨true, rfl, (fun h => by cases h), rfl⟩
      · rcases size_bound e.d.v.s with h2 | h2
        · go_wp2
          go_ret
          exact ⟨true, rfl, (fun h => by cases h), rfl⟩
        · go_wp2
          go_roundw
          case rel => exact ⟨j + 1, by omega, by go_num, trivial, Lib.hid (small_next HE.out hsm.out (by omega))⟩
          case measure => simp [intOf]; omega
    · obtain rfl : j = es.length := by omega
      clear hlt hj
      by_cases h : (es.length : Int) ≤ 60
      · have h60 : decide (60 < (es.length : Int)) = false := by simp; omega
        go_wp2
        go_ret
        exact ⟨false, rfl, (fun _ => ⟨by omega, by have := hsm.out; rwa [List.take_length] at this⟩), rfl⟩
      · have h' : 60 < (es.length : Int) := by omega
        clear h
        go_wp2
        go_ret
        exact ⟨true, rfl, (fun h => by cases h), rfl⟩


/-! ### A copy: append to nil -/
theorem wpList_copy {P : Program} {w : World} {ops : Array Oper} {rest : List Oper} {o : Oper} {a : Act} {Q : Exit → Act → World → Prop} (hgd : o.guard = none) (s x : Operand) (t : TypeId) (ho : o.op = .call { callee := .builtin .append, args := #[s, x], argTypes := #[t, t] })
    (base : Nat) (e : TypeId) (i : TypeInfo) (z : Value) (size bytes : Nat) (ht : P.underlying t = some (.slice e)) (hi : P.info? e = some i) (hz : i.zero = some z) (hsize : i.size = size) (hby : i.bytes = bytes) (hzs : z.cells.size = size) (hsz : 0 < size)
    (hs : a.eval s = .slice none 0 0) (ao : Option Addr) (n c : Nat) (hx : a.eval x = .slice ao n c) (xs : List Value) (hl : xs.length = n * size) (hsrc : (ao = none ∧ n = 0 ∧ c = 0) ∨ ∃ ad, ao = some ad ∧ ∀ j u, xs[j]? = some u → w.cell? (ad.add j) = some u) (h1 : ∀ u ∈ xs, u.oneCell' = true) (hn : n ≤ 1000) (hb : bytes ≤ 1000) (hbase : base ≤ w.heap.size)
    (h : ∀ v' w', w'.ownsRow base e size v' n xs → w.grownBy w' none → wpList P ops Q rest (a.put o.dst v') w') : wpList P ops Q (o :: rest) a w := by
  rcases hsrc with ⟨rfl, rfl, rfl⟩ | ⟨ad, rfl, hcell⟩
  · have hx0 : xs = [] := List.eq_nil_of_length_eq_zero (by simpa using hl)
    subst hx0
    exact wpList_append_own_none hgd s x t ho base e i size ht hi (.slice none 0 0) 0 [] hs (World.ownsRow_nil _ _ _ _) hx (h _ w (World.ownsRow_nil _ _ _ _) (World.grownBy.refl _ _))
  · refine wpList_append_own w hgd s x t ho base e i z size bytes ht hi hz hsize hby hzs hsz (.slice none 0 0) 0 [] hs (World.ownsRow_nil _ _ _ _) ad n c xs hx hl hcell h1 (by unfold maxLen; omega) ?_ hbase ?_
    · have : (0 + n) * bytes ≤ 1000 * 1000 := Nat.mul_le_mul (by omega) hb
      omega
    · intro v' w' r1 r2 _
      rw [Nat.zero_add, List.nil_append] at r1
      exact h v' w' r1 r2
/-- How CopyThing ends. -/
def CopyPost (w : World) (t : Th) (es : List En) (vs : List Vl) (y : Ending) (w' : World) : Prop := ∃ a c a' c', y = .returned (.agg (tcs { t with props := .slice a es.length c, args := .slice a' vs.length c' })) ∧
  w'.ownsRow w.heap.size 40 20 (.slice a es.length c) es.length (cellsE es) ∧ w'.ownsRow w.heap.size 23 3 (.slice a' vs.length c') vs.length (cellsV vs) ∧ Below w.heap.size w w'
theorem cellsE_one' (l : List En) : ∀ u ∈ cellsE l, u.oneCell' = true := fun u hu => by
  obtain ⟨e, _, he⟩ := List.mem_flatMap.1 hu
  exact ecs_one' e u he
theorem res_T {fn : Func} {p : Tmp} (h : fn.results = #[.cell p 27]) (tmps : Array Value) (w : World) (g : Nat) (t : Th) (hp : tmps.getD p undef = .pointer (some ⟨g, 0, none⟩)) {T : TypeId} (hr : Blk w g (tcs t) T) :
    (results fn tmps).run Try.prog w = .ok (.agg (tcs t)) w :=
  results_cell_row h tmps w g T (tcs t) (0, 0) _ hp hr Try.underlying27 rfl (by rw [tcs_size]; exact sizeT)
/-- Where the cells of a list that is copied lie. -/
def Src (ao : Option Addr) (n c n₀ : Nat) (xs : List Value) (w : World) : Prop := (ao = none ∧ n = 0 ∧ c = 0) ∨ ∃ ad : Addr, ao = some ad ∧ ∀ j u, xs[j]? = some u → ad.block < n₀ ∧ w.cell? (ad.add j) = some u
theorem blk_add (ad : Addr) (j : Nat) : (ad.add j).block = ad.block := by unfold Addr.add; split <;> rfl
theorem Src.below {ao : Option Addr} {n c n₀ : Nat} {xs : List Value} {w w' : World} (h : Src ao n c n₀ xs w) (hb : Below n₀ w w') : (ao = none ∧ n = 0 ∧ c = 0) ∨ ∃ ad, ao = some ad ∧ ∀ j u, xs[j]? = some u → w'.cell? (ad.add j) = some u := by
  rcases h with h | ⟨ad, ha, hc⟩
  · exact .inl h
  · exact .inr ⟨ad, ha, fun j u hu => by rw [hb.cell (by rw [blk_add]; exact (hc j u hu).1)]; exact (hc j u hu).2⟩
set_option maxRecDepth 100000 in
set_option maxHeartbeats 4000000 in
theorem copy_any (t : Th) (pa aa : Option Addr) (pc ac : Nat) (es : List En) (vs : List Vl) (w : World) (hp : t.props = .slice pa es.length pc) (ha : t.args = .slice aa vs.length ac) (hle : es.length ≤ 100) (hlv : vs.length ≤ 100) (hes : Src pa es.length pc w.heap.size (cellsE es) w) (hvs : Src aa vs.length ac w.heap.size (cellsV vs) w) :
    Calls Try.prog 8 #[.agg (tcs t)] w (CopyPost w t es vs) := by
  obtain ⟨i40, hi40, hz400, hz401, hz402⟩ := info_parts infoE
  obtain ⟨i23, hi23, hz230, hz231, hz232⟩ := info_parts infoV
  obtain ⟨w1, hw1⟩ : ∃ w1, (w.alloc (.cells (tcs t) 27)).alloc (.cells (tcs zeroT) 27) = w1 := ⟨_, rfl⟩
  have k1 : w1.heap.size = w.heap.size + 2 := by rw [← hw1]; simp
  have b1 : Below w.heap.size w w1 := by rw [← hw1]; exact ((Below.refl _ w).alloc (Nat.le_refl _) _).alloc (by simp) _
  have x1 : Blk w1 w.heap.size (tcs t) 27 := by rw [← hw1]; exact (Blk.new w _ _).old _
  have y1 : Blk w1 (w.heap.size + 1) (tcs zeroT) 27 := by
    have := Blk.new (w.alloc (.cells (tcs t) 27)) (tcs zeroT) 27
    rw [hw1, World.size_alloc] at this
    exact this
  have c5 : w1.cell? ⟨w.heap.size, 5, none⟩ = some (.slice pa es.length pc) := by rw [x1.cell, tcs_5, hp]
  have hs1 := hes.below b1
  have B1 := Lib.hid b1
  have X1 := Lib.hid x1
  have Y1 := Lib.hid y1
  have HV := Lib.hid hvs
  have HA := Lib.hid ha
  have HP := Lib.hid hp
  clear b1 x1 y1 hvs ha hp hes
  go_enter Try.func8, Try.ntmps8
  go_wp2_with (at_builtin; refine wpList_copy rfl _ _ 24 rfl w.heap.size 40 i40 (.agg (ecs zeroE)) 20 136 Try.underlying24 hi40 hz400 hz401 hz402 zeroE_cells (by decide) rfl pa es.length pc rfl (cellsE es) (cellsE_length es) hs1 (cellsE_one' es) (by omega) (by omega) (by omega) ?_; intro v' w2 hown2 hgrow2; refine Hid.out ?_)
  refine Lib.hid ?_
  obtain ⟨a, c, rfl⟩ := own_shape hown2
  have b2 := B1.out.grown hgrow2 (by omega) (fun k hk => by cases hk)
  have x2 := X1.out.grown hgrow2 (by simp)
  have y2 := Y1.out.grown hgrow2 (by simp)
  have k2 : w.heap.size + 2 ≤ w2.heap.size := by have := hgrow2.size; omega
  have d5 : w2.cell? ⟨w.heap.size, 5, none⟩ = some (.slice pa es.length pc) := by rw [x2.cell, tcs_5]; exact congrArg some HP.out
  have f5 := x2.frozen 5
  obtain ⟨w3, hw3⟩ : ∃ w3, w2.setCell ⟨w.heap.size, 5, none⟩ (.slice a es.length c) = w3 := ⟨_, rfl⟩
  have b3 : Below w.heap.size w w3 := by rw [← hw3]; exact b2.setCell (p := ⟨w.heap.size, 5, none⟩) (Nat.le_refl _) _
  have x3 : Blk w3 w.heap.size (tcs { t with props := .slice a es.length c }) 27 := by
    have := x2.set 5 (.slice a es.length c)
    rw [tcs_set5, hw3] at this
    exact this
  have y3 : Blk w3 (w.heap.size + 1) (tcs zeroT) 27 := by rw [← hw3]; exact y2.other _ _ (by simp)
  have r3 : w3.ownsRow w.heap.size 40 20 (.slice a es.length c) es.length (cellsE es) := by rw [← hw3]; exact own_set hown2 x2 (by decide) _ _
  have k3 : w.heap.size + 2 ≤ w3.heap.size := by rw [← hw3]; simpa [World.setCell] using k2
  have c20 : w3.cell? ⟨w.heap.size, 20, none⟩ = some (.slice aa vs.length ac) := by rw [x3.cell, tcs_20]; exact congrArg some HA.out
  have hs3 := HV.out.below b3
  have B3 := Lib.hid b3
  have X3 := Lib.hid x3
  have Y3 := Lib.hid y3
  have R3 := Lib.hid r3
  clear c5 hs1 hown2 hgrow2 b2 x2 y2 b3 x3 y3 r3 hw1 k1
  go_wp2_with (at_builtin; refine wpList_copy rfl _ _ 25 rfl w.heap.size 23 i23 (.agg #[.int .i64 0, .int .i64 0, .string ⟨#[]⟩]) 3 32 Try.underlying25 hi23 hz230 hz231 hz232 rfl (by decide) rfl aa vs.length ac rfl (cellsV vs) (cellsV_length vs) hs3 (cellsV_one vs) (by omega) (by omega) (by omega) ?_; intro v' w4 hown4 hgrow4; refine Hid.out ?_)
  refine Lib.hid ?_
  obtain ⟨a', c', rfl⟩ := own_shape hown4
  have b4 := B3.out.grown hgrow4 (by omega) (fun k hk => by cases hk)
  have x4 := X3.out.grown hgrow4 (by simp)
  have y4 := Y3.out.grown hgrow4 (by simp)
  have r4 := R3.out.kept hgrow4 (by cases a <;> simp [Value.ownBlock])
  have d20 : w4.cell? ⟨w.heap.size, 20, none⟩ = some (.slice aa vs.length ac) := by rw [x4.cell, tcs_20]; exact congrArg some HA.out
  have f20 := x4.frozen 20
  obtain ⟨t', ht'⟩ : ∃ t', t' = ({ t with props := .slice a es.length c, args := .slice a' vs.length c' } : Th) := ⟨_, rfl⟩
  obtain ⟨w5, hw5⟩ : ∃ w5, w4.setCell ⟨w.heap.size, 20, none⟩ (.slice a' vs.length c') = w5 := ⟨_, rfl⟩
  have b5 : Below w.heap.size w w5 := by rw [← hw5]; exact b4.setCell (p := ⟨w.heap.size, 20, none⟩) (Nat.le_refl _) _
  have x5 : Blk w5 w.heap.size (tcs t') 27 := by
    have := x4.set 20 (.slice a' vs.length c')
    rw [tcs_set20, hw5] at this
    rw [ht']
    exact this
  have y5 : Blk w5 (w.heap.size + 1) (tcs zeroT) 27 := by rw [← hw5]; exact y4.other _ _ (by simp)
  have r5 : w5.ownsRow w.heap.size 40 20 (.slice a es.length c) es.length (cellsE es) := by rw [← hw5]; exact own_set r4 x4 (by decide) _ _
  have q5 : w5.ownsRow w.heap.size 23 3 (.slice a' vs.length c') vs.length (cellsV vs) := by rw [← hw5]; exact own_set hown4 x4 (by decide) _ _
  have lt := run_ldT x5
  have tok' : t'.ok := by rw [ht']; exact ⟨⟨_, _, _, rfl⟩, ⟨_, _, _, rfl⟩⟩
  have hst := run_st_row y5 (T := 27) (cs := tcs t') (by rw [tcs_size]; exact sizeT) (by rw [tcs_size, tcs_size]) (tcs_one tok')
  obtain ⟨w6, hw6⟩ : ∃ w6, w5.setRow (w.heap.size + 1) (tcs t') = w6 := ⟨_, rfl⟩
  rw [hw6] at hst
  have hend : Hid (CopyPost w t es vs (.returned (.agg (tcs t'))) w6) := by
    rw [← hw6]
    exact ⟨a, c, a', c', by rw [ht'], own_row r5 y5 (by decide), own_row q5 y5 (by decide), b5.trans ⟨rfl, rfl, rfl, by simp, fun k hk => setRow_other w5 _ k _ (by omega)⟩⟩
  have x6 : Hid (Blk w6 (w.heap.size + 1) (tcs t') 27) := by rw [← hw6]; exact y5.row _
  clear c20 hs3 d5 f5 hw3 hown4 hgrow4 b4 x4 y4 r4 b5 x5 y5 r5 q5 tok' hw6 ht'
  go_wp2
  refine bodyPost_ret (res_T rfl _ _ (w.heap.size + 1) t' rfl x6.out) rfl ?_
  exact hend.out
end Go.Proofs.Ytlhgiihooalanaa.Hp
