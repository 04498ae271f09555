/-
  Texts of this seat in build order: PaCont, PaEnv, PaLow.
-/
import Derived.Test.YtkknglmpdmhhjaaGreatDoorMg21
/-
  contains, seesOneOf.
-/
namespace Go.Proofs.YtkknglmpdmhhjaaGreatDoor.Pa
open Go Go.RowKit Go.Proofs.YtkknglmpdmhhjaaGreatDoor.Lx Go.Proofs.YtkknglmpdmhhjaaGreatDoor.Uni
set_option linter.unusedVariables false
set_option linter.unusedSimpArgs false

theorem ext_list (s : ByteArray) (i j : Nat) : (s.extract i j).toList = (s.data.toList.drop i).take (j - i) := by
  rw [ByteArray.toList_eq, ByteArray.data_extract, Array.toList_extract, List.extract_eq_take_drop]
structure CInv (s t : ByteArray) (w0 : World) (v : Value) (wr : World) (a pos : Nat) : Prop where
  v : v = .int .i64 (a : Int)
  le : a ≤ pos
  hi : pos ≤ s.size
  it : wr.heap[w0.heap.size]? = some (.stringIter s pos)
  bel : Below w0.heap.size w0 wr
  eq : hasF s t = (partsF ((s.data.toList.drop a).take (pos - a)) (s.data.toList.drop pos)).contains t.data.toList
theorem drop_B {s : ByteArray} {p : Nat} (h : p < s.size) : ∃ c, s.data.toList.drop p = c :: s.data.toList.drop (p + 1) ∧ c.toNat = B s p := by
  have hl : p < s.data.toList.length := by rw [lsz]; exact h
  refine ⟨s.data.toList[p], List.drop_eq_getElem_cons hl, ?_⟩
  have h2 : p < s.data.size := h
  unfold B
  rw [Array.getElem_toList]
  simp [ByteArray.get!, h2]
  rw [Array.getElem?_eq_getElem h2]
  rfl
set_option maxRecDepth 100000 in
set_option maxHeartbeats 2000000 in
theorem contains_any (s t : ByteArray) (w : World) (hs : s.size ≤ 1000) (hA : ∀ p, p < s.size → B s p < 128) :
    Calls Tryz.prog 246 #[.string s, .string t] w fun e w' => e = .returned (.bool (hasF s t)) ∧ Below w.heap.size w w' := by
  have HAS := Lib.hid hA
  clear hA
  go_enter Tryz.func246, Tryz.ntmps246
  go_wp2
  go_loopw [5] (fun v wr => ∃ a pos, CInv s t w v wr a pos) (fun _ wr => s.size - wr.iterPos w.heap.size)
  case atStart => exact ⟨0, 0, rfl, Nat.le_refl _, Nat.zero_le _, World.iter_heap _ _ _, iter_below (Nat.le_refl _) s, rfl⟩
  case round =>
    obtain ⟨a, pos, hv, hle, hhi, hit, hbel, heq⟩ := hrel
    subst hv
    have hai : (a : Int) ≤ 1000 := by omega
    have hpi : (pos : Int) ≤ 1000 := by omega
    have hap : (a : Int) ≤ pos := by omega
    by_cases hp : pos < s.size
    · have hnx : ∀ ty, (Instr.next (.pointer (some ⟨w.heap.size, 0, none⟩)) true ty).run Tryz.prog wr = _ := fun ty => Lib.run_next_any_at wr w.heap.size s pos ty hit hp
      have hd : Utf8.decode s pos = (B s pos, 1) := by rw [dec_eq, if_pos (HAS.out pos hp)]
      obtain ⟨c, hc1, hc2⟩ := drop_B hp
      have h128 := HAS.out pos hp
      have hh := Lib.iterAt_heap wr w.heap.size s pos (pos + 1) hit
      have hb2 : Below w.heap.size w (wr.iterAt w.heap.size s (pos + 1)) := Lib.below_iterAt hbel (Nat.le_refl _) s (pos + 1)
      rw [hd] at hnx
      have hsz : (pos : Int) ≤ (s.size : Int) := by omega
      rw [hc1] at heq
      have hw : ∀ b, b ∈ [a, pos] → True := fun _ _ => trivial
      obtain ⟨k, hk⟩ : ∃ k, B s pos = k := ⟨_, rfl⟩
      rw [hk] at hnx hc2 h128
      have hki : (k : Int) ≤ 127 := by omega
      have HH := Lib.hid hh
      have HIT := Lib.hid hit
      have HB2 := Lib.hid hb2
      by_cases h32 : k = 32
      · have e32 : ((k : Int) != 32) = false := by simp; omega
        have hc : c = 32 := UInt8.toNat_inj.1 (by rw [hc2, h32]; rfl)
        subst hc
        have heq2 : partsF ((s.data.toList.drop a).take (pos - a)) (32 :: s.data.toList.drop (pos + 1)) = (s.data.toList.drop a).take (pos - a) :: partsF [] (s.data.toList.drop (pos + 1)) := by rw [partsF]; rfl
        rw [heq2, List.contains_cons] at heq
        have hx : ((s.extract a pos).toList == t.toList) = (t.data.toList == (s.data.toList.drop a).take (pos - a)) := by
          rw [ext_list, ByteArray.toList_eq, Bool.eq_iff_iff, beq_iff_eq, beq_iff_eq]
          exact eq_comm
        cases hbq : (t.data.toList == (s.data.toList.drop a).take (pos - a)) with
        | true =>
          rw [hbq] at hx heq
          have HE := Lib.hid heq
          clear heq heq2 hc1 hc2 hh hit hb2 hbel h32 hk hd hbq
          go_wp2
          go_ret
          exact ⟨by rw [HE.out]; rfl, HB2.out⟩
        | false =>
          rw [hbq] at hx heq
          have HE := Lib.hid heq
          clear heq heq2 hc1 hc2 hh hit hb2 hbel h32 hk hd hbq
          go_wp2
          go_roundw
          case rel => exact ⟨pos + 1, pos + 1, rfl, Nat.le_refl _, hp, HH.out, HB2.out, by rw [HE.out, Nat.sub_self]; rfl⟩
          case measure => simp only [World.iterPos, HH.out, HIT.out]; omega
      · have e32 : ((k : Int) != 32) = true := by simp; omega
        have hc : ¬ c = 32 := fun h => h32 (by rw [← hc2, h]; rfl)
        have heq2 : partsF ((s.data.toList.drop a).take (pos - a)) (c :: s.data.toList.drop (pos + 1)) = partsF ((s.data.toList.drop a).take (pos + 1 - a)) (s.data.toList.drop (pos + 1)) := by
          rw [partsF, if_neg hc]
          congr 1
          rw [show pos + 1 - a = (pos - a) + 1 from by omega, List.take_add_one, List.getElem?_drop, show a + (pos - a) = pos from by omega]
          have : s.data.toList[pos]? = some c := by
            have h3 := congrArg (·[0]?) hc1
            simp only [List.getElem?_drop, Nat.add_zero] at h3
            simpa using h3
          rw [this]
          rfl
        rw [heq2] at heq
        have HE := Lib.hid heq
        clear heq heq2 hc1 hc2 hh hit hb2 hbel h32 hk hd hc
        go_wp2
        go_roundw
        case rel => exact ⟨a, pos + 1, rfl, by omega, hp, HH.out, HB2.out, HE.out⟩
        case measure => simp only [World.iterPos, HH.out, HIT.out]; omega
    · have hnx : ∀ ty, (Instr.next (.pointer (some ⟨w.heap.size, 0, none⟩)) true ty).run Tryz.prog wr = _ := fun ty => Lib.run_next_end_at wr w.heap.size s pos ty hit hp
      have hps : pos = s.size := by omega
      have hd0 : s.data.toList.drop pos = [] := List.drop_eq_nil_of_le (by rw [lsz]; omega)
      have hx : ((s.extract a s.size).toList == t.toList) = hasF s t := by
        rw [heq, hd0, ext_list, ByteArray.toList_eq, hps]
        simp only [partsF, List.contains_cons, List.contains_nil, Bool.or_false]
        rw [Bool.eq_iff_iff, beq_iff_eq, beq_iff_eq]
        exact eq_comm
      have has : (a : Int) ≤ s.size := by omega
      have HB := Lib.hid hbel
      clear heq hd0 hbel hps hit
      go_wp2
      go_ret
      exact ⟨by rw [← hx]; rfl, HB.out⟩

attribute [local go_sem ↓] ldK stK alK bdK bsK
attribute [local irreducible] kcs
attribute [local go_sem] run_alK run_bdK0 run_bdKs run_bdKn run_bdKe run_bsK run_fdK0 run_fdK1 run_fdK2 run_fdK3 run_fdN4
set_option maxRecDepth 100000 in
set_option maxHeartbeats 2000000 in
theorem seesOne_any {g d : Nat} {s : PS} {w : World} (h : At g d s w) (l : ByteArray) (hs : l.size ≤ 1000) (hA : ∀ p, p < l.size → B l p < 128) :
    Calls Tryz.prog 231 #[.pointer (some ⟨g, 0, none⟩), .string l] w (PostR w (.bool (seesOneF l s))) := by
  have hn := next_any h
  have hm := fun w => mark_any s.next w
  have hc := fun w => contains_any l s.next.text w hs hA
  unfold seesOneF
  have c3 : ∀ w : World, (w.alloc (.cells (kcs s.next) 79)).cell? ⟨w.heap.size, 3, none⟩ = some (.string s.next.text) := fun w => ((Blk.new w (kcs s.next) 79).cell 3).trans (kcs_3 _)
  clear hA
  cases hk : markF s.next with
  | false =>
    rw [hk] at hm
    clear h hk
    go_enter Tryz.func231, Tryz.ntmps231
    go_wp2_with (first | (go_at_call 45; refine hn.mono ?_; rintro e w1 ⟨rfl, hb⟩; have hs := (fun o => run_stKg w1 w1.heap.size s.next o rfl); have hl := (run_ldK (Blk.new w1 (kcs s.next) 79)); have HB := Lib.hid hb; clear hb) | (go_at_call 137; refine (hm _).mono ?_; rintro e w2 ⟨rfl, hb2⟩; have HB2 := Lib.hid hb2; clear hb2))
    go_ret
    exact ⟨rfl, HB.out.trans ((bel1.trans (HB2.out.mono (by simp))).mono HB.out.size)⟩
  | true =>
    rw [hk] at hm
    clear h hk
    go_enter Tryz.func231, Tryz.ntmps231
    go_wp2_with (first | (go_at_call 45; refine hn.mono ?_; rintro e w1 ⟨rfl, hb⟩; have hs := (fun o => run_stKg w1 w1.heap.size s.next o rfl); have hl := (run_ldK (Blk.new w1 (kcs s.next) 79)); have cc := c3 w1; have HB := Lib.hid hb; clear hb) | (go_at_call 137; refine (hm _).mono ?_; rintro e w2 ⟨rfl, hb2⟩; have cd := (cell_keep cc (fun hl => hb2.block _ hl)); have HB2 := Lib.hid hb2; clear hb2) | (go_at_call 246; refine (hc _).mono ?_; rintro e w3 ⟨rfl, hb3⟩; have HB3 := Lib.hid hb3; clear hb3))
    go_ret
    exact ⟨by rw [Bool.true_and]; rfl, HB.out.trans ((bel1.trans ((HB2.out.trans (HB3.out.mono HB2.out.size)).mono (by simp))).mono HB.out.size)⟩
end Go.Proofs.YtkknglmpdmhhjaaGreatDoor.Pa

/-
  What holds between two calls: the parser, the call's own variables, the trees.
-/
namespace Go.Proofs.YtkknglmpdmhhjaaGreatDoor.Pa
open Go Go.RowKit Go.Proofs.YtkknglmpdmhhjaaGreatDoor.Lx Go.Proofs.YtkknglmpdmhhjaaGreatDoor.Uni
set_option linter.unusedVariables false
set_option linter.unusedSimpArgs false

/-- What the listed variables hold; the parser lies behind them. -/
def lvL : List Value := [.string (levelT 0), .string (levelT 1), .string (levelT 2), .string (levelT 3), .string (levelT 4), .string (levelT 5)]
structure Gx (g : Nat) (w : World) : Prop where
  fa : Fa w
  lv : w.rangeAt 2 0 lvL
  lo : 8 ≤ g
theorem Gx.gb {g : Nat} {w w' : World} (h : Gx g w) (k : GB g w w') : Gx g w' :=
  ⟨h.fa.gb (by have := h.lo; omega) k, fun j v hj => cell_keep (h.lv j v hj) (fun hl => k.block _ hl (by have := h.lo; simp; omega)), h.lo⟩
def Own (S0 : Nat → Prop) (lo : Nat) (xs : List Nat) (b : Nat) : Prop := (S0 b ∨ lo ≤ b) ∧ b ∉ xs
structure Env (g d : Nat) (s : PS) (S0 : Nat → Prop) (w0 W : World) (bs : List (Nat × Nd)) (vs : List (Tree × Nd)) : Prop where
  at_ : At g d s W
  gx : Gx g W
  gb : GB g w0 W
  gl : g < w0.heap.size
  s0 : ∀ b, S0 b → b ≠ g
  bl : ∀ x ∈ bs, w0.heap.size ≤ x.1 ∧ Blk W x.1 (ncs x.2) 27
  nd : (bs.map Prod.fst).Nodup
  rp : ∀ v ∈ vs, Rep (Own S0 w0.heap.size (bs.map Prod.fst)) W v.1 v.2

section
variable {g d : Nat} {s : PS} {S0 : Nat → Prop} {w0 W : World} {bs : List (Nat × Nd)} {vs : List (Tree × Nd)}
theorem Env.startS {w : World} (h : At g d s w) (hX : Gx g w) (hS : ∀ b, S0 b → b ≠ g) : Env g d s S0 w w [] [] :=
  ⟨h, hX, GB.refl _ _, h.lt, hS, fun _ h => by simp at h, by simp, fun _ h => by simp at h⟩
theorem Env.start {w : World} (h : At g d s w) (hX : Gx g w) : Env g d s (fun _ => False) w w [] [] := Env.startS h hX (fun _ h => h.elim)
theorem Env.size (E : Env g d s S0 w0 W bs vs) : w0.heap.size ≤ W.heap.size := E.gb.size
theorem Env.alloc (E : Env g d s S0 w0 W bs vs) (o : Obj) : Env g d s S0 w0 (W.alloc o) bs vs :=
  ⟨E.at_.alloc o, E.gx.gb (GB.of bel1), E.gb.trans (GB.of bel1), E.gl, E.s0, fun x hx => ⟨(E.bl x hx).1, (E.bl x hx).2.old o⟩, E.nd,
    fun v hv => Rep.keep (fun b hb hS => ⟨hS, heap_alloc_old _ _ hb⟩) _ _ (E.rp v hv)⟩
theorem Env.drew (E : Env g d s S0 w0 W bs vs) (n : Nat) : Env g d s S0 w0 (W.drewN n) bs vs :=
  ⟨E.at_.drewN n, E.gx.gb ((GB.refl g W).drew n), E.gb.drew n, E.gl, E.s0, fun x hx => ⟨(E.bl x hx).1, (E.bl x hx).2.drewN n⟩, E.nd,
    fun v hv => Rep.keep (w := W) (w' := W.drewN n) (fun b hb hS => ⟨hS, rfl⟩) _ _ (E.rp v hv)⟩
theorem Env.drew1 (E : Env g d s S0 w0 W bs vs) : Env g d s S0 w0 W.drew bs vs :=
  ⟨E.at_.drew, E.gx.gb (GB.of (Below.refl _ W).drew), E.gb.trans (GB.of (Below.refl _ W).drew), E.gl, E.s0, fun x hx => ⟨(E.bl x hx).1, (E.bl x hx).2.drew⟩, E.nd,
    fun v hv => Rep.keep (w := W) (w' := W.drew) (fun b hb hS => ⟨hS, rfl⟩) _ _ (E.rp v hv)⟩
theorem Env.new (E : Env g d s S0 w0 W bs vs) (N : Nd) : Env g d s S0 w0 (W.alloc (.cells (ncs N) 27)) ((W.heap.size, N) :: bs) vs := by
  have E' := E.alloc (.cells (ncs N) 27)
  refine ⟨E'.at_, E'.gx, E'.gb, E'.gl, E'.s0, fun x hx => ?_, ?_, fun v hv => ?_⟩
  · rcases List.mem_cons.1 hx with rfl | hx
    · exact ⟨E.size, Blk.new W _ _⟩
    · exact E'.bl x hx
  · rw [List.map_cons, List.nodup_cons]
    refine ⟨fun h => ?_, E.nd⟩
    obtain ⟨x, hx, he⟩ := List.mem_map.1 h
    have := (E.bl x hx).2.lt
    omega
  · refine Rep.keep (fun b hb hS => ⟨⟨hS.1, ?_⟩, heap_alloc_old _ _ hb⟩) _ _ (E.rp v hv)
    rw [List.map_cons, List.mem_cons]
    rintro (h | h)
    · have h' : b = W.heap.size := h
      omega
    · exact hS.2 h
theorem Env.newAt (E : Env g d s S0 w0 W bs vs) (N : Nd) {b : Nat} (hb : b = W.heap.size) : Env g d s S0 w0 (W.alloc (.cells (ncs N) 27)) ((b, N) :: bs) vs := by
  subst hb
  exact E.new N
theorem Env.store (E : Env g d s S0 w0 W bs vs) (i : Nat) {b : Nat} {o : Nd} (hi : bs[i]? = some (b, o)) (N : Nd) : Env g d s S0 w0 (W.setRow b (ncs N)) (bs.set i (b, N)) vs := by
  have hm : (b, o) ∈ bs := List.mem_of_getElem? hi
  obtain ⟨hb1, hb2⟩ := E.bl _ hm
  have hgb : GB g W (W.setRow b (ncs N)) ∨ True := .inr trivial
  have hmap : (bs.set i (b, N)).map Prod.fst = bs.map Prod.fst := by
    rw [List.map_set]
    apply List.ext_getElem?
    intro j
    rw [List.getElem?_set]
    split
    · rename_i h; subst h
      split
      · simp [hi]
      · rename_i h2; rw [List.getElem?_eq_none (by omega)]
    · rfl
  have hlt : i < bs.length := (List.getElem?_eq_some_iff.1 hi).1
  refine ⟨E.at_.row hb2, ?_, E.gb.row _ hb1, E.gl, E.s0, fun x hx => ?_, by rw [hmap]; exact E.nd, fun v hv => ?_⟩
  · have hgl := E.gl
    have hg8 := E.gx.lo
    exact ⟨E.gx.fa.keep fun k hk hl => setRow_other W b k _ (by show k ≠ b; have h1 : w0.heap.size ≤ b := hb1; omega), fun j v hj => cell_keep (E.gx.lv j v hj) (fun hl => setRow_other W b _ _ (by have h1 : w0.heap.size ≤ b := hb1; show _ ≠ b; omega)), hg8⟩
  · obtain ⟨j, hj⟩ := List.mem_iff_getElem?.1 hx
    by_cases hij : i = j
    · subst hij
      rw [List.getElem?_set_self hlt] at hj
      cases hj
      exact ⟨hb1, hb2.row _⟩
    · rw [List.getElem?_set_ne hij] at hj
      have hxm : x ∈ bs := List.mem_of_getElem? hj
      refine ⟨(E.bl x hxm).1, (E.bl x hxm).2.row_other _ ?_⟩
      intro he
      have h1 : (bs.map Prod.fst)[i]? = some b := by rw [List.getElem?_map, hi]; rfl
      have h2 : (bs.map Prod.fst)[j]? = some b := by rw [List.getElem?_map, hj, ← he]; rfl
      have hil : i < (bs.map Prod.fst).length := by rw [List.length_map]; exact hlt
      exact hij (List.getElem?_inj hil E.nd |>.1 (h1.trans h2.symm))
  · rw [hmap]
    refine Rep.keep (fun c hc hS => ⟨hS, setRow_other W b c _ ?_⟩) _ _ (E.rp v hv)
    rintro rfl
    exact hS.2 (List.mem_map.2 ⟨_, hm, rfl⟩)
theorem Env.frame {d' : Nat} {s' : PS} {w' : World} (E : Env g d s S0 w0 W bs vs) (ha : At g d' s' w') (hg : GB g W w') : Env g d' s' S0 w0 w' bs vs := by
  have hne : ∀ b, w0.heap.size ≤ b → b ≠ g := fun b hb => by have := E.gl; omega
  have hne2 : ∀ b, S0 b ∨ w0.heap.size ≤ b → b ≠ g := fun b hb => hb.elim (E.s0 b) (hne b)
  refine ⟨ha, E.gx.gb hg, E.gb.trans hg, E.gl, E.s0, fun x hx => ⟨(E.bl x hx).1, (E.bl x hx).2.gb hg (hne _ (E.bl x hx).1)⟩, E.nd, fun v hv => ?_⟩
  exact Rep.keep (fun b hb hS => ⟨hS, hg.block b hb (by simpa using hne2 b hS.1)⟩) _ _ (E.rp v hv)
theorem Env.call {d' : Nat} {s' : PS} {w' : World} {v : Value} {e : Ending} (E : Env g d s S0 w0 W bs vs) (h : Post g d' W v s' e w') : e = .returned v ∧ Env g d' s' S0 w0 w' bs vs := ⟨h.1, E.frame h.2.1 h.2.2⟩
theorem Env.callR {w' : World} {v : Value} {e : Ending} (E : Env g d s S0 w0 W bs vs) (h : PostR W v e w') : e = .returned v ∧ Env g d s S0 w0 w' bs vs := ⟨h.1, E.frame (E.at_.below h.2) (GB.of h.2)⟩
theorem Env.callB {w' : World} (E : Env g d s S0 w0 W bs vs) (h : Below W.heap.size W w') : Env g d s S0 w0 w' bs vs := E.frame (E.at_.below h) (GB.of h)
theorem Env.add {T : Tree} {N : Nd} (E : Env g d s S0 w0 W bs vs) (h : Rep (Own S0 w0.heap.size (bs.map Prod.fst)) W T N) : Env g d s S0 w0 W bs ((T, N) :: vs) :=
  ⟨E.at_, E.gx, E.gb, E.gl, E.s0, E.bl, E.nd, fun v hv => by
    rcases List.mem_cons.1 hv with rfl | hv
    · exact h
    · exact E.rp v hv⟩
theorem Env.callS {d' : Nat} {R : Tree × PS} {S : Nat → Prop} {w' : World} {e : Ending} (E : Env g d s S0 w0 W bs vs) (h : PostS S g d' W R e w') (hS : ∀ b, S b → Own S0 w0.heap.size (bs.map Prod.fst) b) : ∃ N, e = .returned (.agg (ncs N)) ∧ Env g d' R.2 S0 w0 w' bs ((R.1, N) :: vs) := by
  obtain ⟨N, he, hr, ha, hg⟩ := h
  refine ⟨N, he, (E.frame ha hg).add (Rep.keep (fun b hb hS2 => ⟨?_, rfl⟩) _ _ hr)⟩
  rcases hS2 with hS2 | hS2
  · exact hS b hS2
  · refine ⟨.inr (Nat.le_trans E.size hS2), fun hm => ?_⟩
    obtain ⟨x, hx, rfl⟩ := List.mem_map.1 hm
    have := (E.bl x hx).2.lt
    omega
theorem Env.callN {d' : Nat} {R : Tree × PS} {w' : World} {e : Ending} (E : Env g d s S0 w0 W bs vs) (h : PostN g d' W R e w') : ∃ N, e = .returned (.agg (ncs N)) ∧ Env g d' R.2 S0 w0 w' bs ((R.1, N) :: vs) := E.callS h (fun b hb => hb.elim)
theorem Env.leaf (E : Env g d s S0 w0 W bs vs) (k n : Int) (t : ByteArray) : Env g d s S0 w0 W bs ((.mk k n t [] [], ⟨k, n, t, nilSl, nilSl⟩) :: vs) := E.add (Rep.nil _ _ _ _ _)
theorem Env.own_new (E : Env g d s S0 w0 W bs vs) : Own S0 w0.heap.size (bs.map Prod.fst) W.heap.size := by
  refine ⟨.inr E.size, fun hm => ?_⟩
  obtain ⟨x, hx, he⟩ := List.mem_map.1 hm
  have := (E.bl x hx).2.lt
  omega
/-- A new node with a list of kids. -/
theorem Env.kids (E : Env g d s S0 w0 W bs vs) {ts : List Tree} {xs : List Nd} (h : Reps (Own S0 w0.heap.size (bs.map Prod.fst)) W ts xs) {m : Nat} (hm : ts.length = m) (hl : m ≤ 200000) (k n : Int) (t : ByteArray) : Env g d s S0 w0 (W.alloc (.cells (ncells xs).toArray 27)) bs ((.mk k n t [] ts, ⟨k, n, t, nilSl, newSl W.heap.size m⟩) :: vs) := by
  have E' := E.alloc (.cells (ncells xs).toArray 27)
  refine E'.add (Rep.of (xs := xs) ?_ (Reps.keep (fun b hb hS => ⟨hS, heap_alloc_old _ _ hb⟩) _ _ h))
  rw [hm]
  exact Row.new W xs m (by rw [h.len, hm]) (by unfold maxLen; omega) E.own_new
theorem Env.kids1 (E : Env g d s S0 w0 W bs vs) {T : Tree} {N : Nd} (h : (T, N) ∈ vs) (k n : Int) (t : ByteArray) : Env g d s S0 w0 (W.alloc (.cells (ncells [N]).toArray 27)) bs ((.mk k n t [] [T], ⟨k, n, t, nilSl, newSl W.heap.size 1⟩) :: vs) :=
  E.kids (m := 1) (ts := [T]) (xs := [N]) (by unfold Reps; exact ⟨E.rp _ h, by unfold Reps; trivial⟩) rfl (by omega) k n t
theorem Env.kids2 (E : Env g d s S0 w0 W bs vs) {T T2 : Tree} {N N2 : Nd} (h : (T, N) ∈ vs) (h2 : (T2, N2) ∈ vs) (k n : Int) (t : ByteArray) : Env g d s S0 w0 (W.alloc (.cells (ncells [N, N2]).toArray 27)) bs ((.mk k n t [] [T, T2], ⟨k, n, t, nilSl, newSl W.heap.size 2⟩) :: vs) :=
  E.kids (m := 2) (ts := [T, T2]) (xs := [N, N2]) (by unfold Reps; refine ⟨E.rp _ h, ?_⟩; unfold Reps; exact ⟨E.rp _ h2, by unfold Reps; trivial⟩) rfl (by omega) k n t
theorem Env.kids3 (E : Env g d s S0 w0 W bs vs) {T T2 T3 : Tree} {N N2 N3 : Nd} (h : (T, N) ∈ vs) (h2 : (T2, N2) ∈ vs) (h3 : (T3, N3) ∈ vs) (k n : Int) (t : ByteArray) : Env g d s S0 w0 (W.alloc (.cells (ncells [N, N2, N3]).toArray 27)) bs ((.mk k n t [] [T, T2, T3], ⟨k, n, t, nilSl, newSl W.heap.size 3⟩) :: vs) :=
  E.kids (m := 3) (ts := [T, T2, T3]) (xs := [N, N2, N3]) (by unfold Reps; refine ⟨E.rp _ h, ?_⟩; unfold Reps; refine ⟨E.rp _ h2, ?_⟩; unfold Reps; exact ⟨E.rp _ h3, by unfold Reps; trivial⟩) rfl (by omega) k n t
theorem Env.post (E : Env g d s S0 w0 W bs vs) {T : Tree} {N : Nd} (hv : (T, N) ∈ vs) : PostS S0 g d w0 (T, s) (.returned (.agg (ncs N))) W :=
  ⟨N, rfl, Rep.keep (fun b hb hS => ⟨hS.1, rfl⟩) _ _ (E.rp _ hv), E.at_, E.gb⟩
/-- The end: the result's cell is read. -/
theorem Env.fin (E : Env g d s S0 w0 W bs vs) {b : Nat} {T : Tree} {N : Nd} (hb : (b, N) ∈ bs) (hv : (T, N) ∈ vs) {fn : Func} {p : Tmp} (hf : fn.results = #[.cell p 27]) {tmps : Array Value} (hp : tmps.getD p undef = .pointer (some ⟨b, 0, none⟩)) : bodyPost Tryz.prog fn (PostS S0 g d w0 (T, s)) .ret ⟨tmps, []⟩ W :=
  bodyPost_ret (res_N hf _ _ b N hp (E.bl _ hb).2) rfl (E.post hv)
/-- A variable is read. -/
theorem Env.ld (E : Env g d s S0 w0 W bs vs) (i : Nat) {b : Nat} {N : Nd} (hi : bs[i]? = some (b, N)) : (Ld 27 (.pointer (some ⟨b, 0, none⟩))).run Tryz.prog W = .ok (.agg (ncs N)) W := run_ldN (E.bl _ (List.mem_of_getElem? hi)).2
theorem Env.sto (E : Env g d s S0 w0 W bs vs) (i : Nat) {b : Nat} {N : Nd} (hi : bs[i]? = some (b, N)) (M : Nd) : (Lx.St 27 (.pointer (some ⟨b, 0, none⟩)) (.agg (ncs M))).run Tryz.prog W = .ok () (W.setRow b (ncs M)) := run_stN (E.bl _ (List.mem_of_getElem? hi)).2
theorem Env.c0 (E : Env g d s S0 w0 W bs vs) (i : Nat) {b : Nat} {N : Nd} (hi : bs[i]? = some (b, N)) : W.cell? ⟨b, 0, none⟩ = some (.int .i64 N.kind) := ((E.bl _ (List.mem_of_getElem? hi)).2.cell 0).trans (ncs_0 N)
theorem Env.c1 (E : Env g d s S0 w0 W bs vs) (i : Nat) {b : Nat} {N : Nd} (hi : bs[i]? = some (b, N)) : W.cell? ⟨b, 1, none⟩ = some (.int .i64 N.num) := ((E.bl _ (List.mem_of_getElem? hi)).2.cell 1).trans (ncs_1 N)
theorem Env.c4 (E : Env g d s S0 w0 W bs vs) (i : Nat) {b : Nat} {N : Nd} (hi : bs[i]? = some (b, N)) : W.cell? ⟨b, 4, none⟩ = some (.slice N.kids.a N.kids.n N.kids.c) := ((E.bl _ (List.mem_of_getElem? hi)).2.cell 4).trans (ncs_4 N)
theorem Env.fz (E : Env g d s S0 w0 W bs vs) (i : Nat) {b : Nat} {N : Nd} (hi : bs[i]? = some (b, N)) (j : Nat) : W.frozen? ⟨b, j, none⟩ = false := (E.bl _ (List.mem_of_getElem? hi)).2.frozen j
end
theorem setCell_row {w : World} {b : Nat} {cs : Array Value} {t : TypeId} (h : Blk w b cs t) (i : Nat) (v : Value) : w.setCell ⟨b, i, none⟩ v = w.setRow b (cs.setIfInBounds i v) := by
  unfold World.setCell World.setRow
  simp only
  congr 1
  apply Array.ext_getElem?
  intro j
  rw [Array.getElem?_modify, Array.getElem?_modify]
  unfold Blk at h
  by_cases hj : b = j
  · subst hj
    simp [h]
  · simp [hj]
/-- A field of a variable is written. -/
theorem Env.set4 {g d : Nat} {s : PS} {S0 : Nat → Prop} {w0 W : World} {bs : List (Nat × Nd)} {vs : List (Tree × Nd)} (E : Env g d s S0 w0 W bs vs) (i : Nat) {b : Nat} {N : Nd} (hi : bs[i]? = some (b, N)) (a : Option Addr) (l c : Nat) : Env g d s S0 w0 (W.setCell ⟨b, 4, none⟩ (.slice a l c)) (bs.set i (b, { N with kids := ⟨a, l, c⟩ })) vs := by
  have hB : Blk W b (ncs N) 27 := (E.bl _ (List.mem_of_getElem? hi)).2
  rw [setCell_row hB, ncs_set4]
  exact E.store i hi _
theorem Env.set1 {g d : Nat} {s : PS} {S0 : Nat → Prop} {w0 W : World} {bs : List (Nat × Nd)} {vs : List (Tree × Nd)} (E : Env g d s S0 w0 W bs vs) (i : Nat) {b : Nat} {N : Nd} (hi : bs[i]? = some (b, N)) (n : Int) : Env g d s S0 w0 (W.setCell ⟨b, 1, none⟩ (.int .i64 n)) (bs.set i (b, { N with num := n })) vs := by
  have hB : Blk W b (ncs N) 27 := (E.bl _ (List.mem_of_getElem? hi)).2
  rw [setCell_row hB, ncs_set1]
  exact E.store i hi _
theorem Env.ne {g d : Nat} {s : PS} {S0 : Nat → Prop} {w0 W : World} {bs : List (Nat × Nd)} {vs : List (Tree × Nd)} (E : Env g d s S0 w0 W bs vs) : ∀ b, Own S0 w0.heap.size (bs.map Prod.fst) b → b ≠ g := fun b h => h.1.elim (E.s0 b) (fun h => by have := E.gl; omega)
/-- An argument that is a node. -/
theorem Env.arg {g d : Nat} {s : PS} {S0 : Nat → Prop} {w : World} (E : Env g d s S0 w w [] []) {T : Tree} {N : Nd} (h : Rep S0 w T N) : Env g d s S0 w w [] [(T, N)] := E.add (Rep.keep (fun b hb hS => ⟨⟨.inl hS, by simp⟩, rfl⟩) _ _ h)
end Go.Proofs.YtkknglmpdmhhjaaGreatDoor.Pa

/-
  What is one deeper, by contracts; parenthesized, pair.
-/
namespace Go.Proofs.YtkknglmpdmhhjaaGreatDoor.Pa
open Go Go.RowKit Go.Proofs.YtkknglmpdmhhjaaGreatDoor.Lx Go.Proofs.YtkknglmpdmhhjaaGreatDoor.Uni
set_option linter.unusedVariables false
set_option linter.unusedSimpArgs false
attribute [local go_sem ↓] ldK stK alK bdK bsK ldN stN alN bdN bsN
attribute [local irreducible] kcs ncs ncells
attribute [local go_sem] run_alK run_bdK0 run_bdKs run_bdKn run_bdKe run_bsK run_fdK0 run_fdK1 run_fdK2 run_fdK3 run_fdN4 run_alN run_stNg run_ldNg run_bdN0 run_bdN04 run_bdN02 run_bdN01 run_bdN024 run_bdN03 run_bdN0234 run_bsN1 run_bsN2 run_bsN3

/-- What is one deeper, by contracts. -/
structure LowC (d : Nat) (L : Low) : Prop where
  ex : ∀ {g : Nat} {s : PS} {w : World}, At g d s w → Gx g w → Calls Tryz.prog 141 #[.pointer (some ⟨g, 0, none⟩)] w (PostN g d w (L.ex s))
  st : ∀ {g : Nat} {s : PS} {w : World}, At g d s w → Gx g w → Calls Tryz.prog 44 #[.pointer (some ⟨g, 0, none⟩)] w (PostN g d w (L.st s))
  un : ∀ {g : Nat} {s : PS} {w : World}, At g d s w → Gx g w → Calls Tryz.prog 230 #[.pointer (some ⟨g, 0, none⟩)] w (PostN g d w (L.un s))
  ad : LowA L

set_option maxRecDepth 100000 in
set_option maxHeartbeats 4000000 in
theorem paren_any {d : Nat} {L : Low} (hL : LowC d L) {g : Nat} {s : PS} {w : World} (h : At g d s w) (hX : Gx g w) :
    Calls Tryz.prog 90 #[.pointer (some ⟨g, 0, none⟩)] w (PostN g d w (parenF L s)) := by
  have E0 := (Env.start h hX).new zeroN
  have hn := needs_any E0.at_ ⟨#[40]⟩
  have HE := Lib.hid E0
  clear E0 h hX
  go_enter Tryz.func90, Tryz.ntmps90
  go_wp2_with (first | (go_at_call 93; first | (with_reducible refine hn.mono ?_; intro e w1 hp; obtain ⟨rfl, E1⟩ := HE.out.call hp; have h2 := hL.ex E1.at_ E1.gx; have HE1 := Lib.hid E1; clear hp E1) | (with_reducible refine h4.mono ?_; intro e w3 hp; obtain ⟨rfl, E3⟩ := HE2.out.call hp; have l3 := E3.ld 0 rfl; have s3 := E3.sto 1 rfl; have HE3 := Lib.hid E3; clear hp E3)) | (go_at_call 141; with_reducible refine h2.mono ?_; intro e w2 hp; obtain ⟨N, rfl, E2⟩ := HE1.out.callN hp; have E2 := E2.new N; have h4 := needs_any E2.at_ ⟨#[41]⟩; have HE2 := Lib.hid E2; clear hp E2))
  exact ((HE3.out.store 1 rfl N).fin (by simp) (List.mem_cons_self) rfl rfl)

set_option maxRecDepth 100000 in
set_option maxHeartbeats 4000000 in
theorem pair_any {d : Nat} {L : Low} (hL : LowC d L) {g : Nat} {s : PS} {w : World} (h : At g d s w) (hX : Gx g w) {S : Nat → Prop} (hS : ∀ b, S b → b ≠ g) {K : Tree} {M : Nd} (hK : Rep S w K M) :
    Calls Tryz.prog 276 #[.pointer (some ⟨g, 0, none⟩), .agg (ncs M)] w (PostS S g d w (pairF L K s)) := by
  have E0 := (((Env.startS h hX hS).arg hK).new M).newAt zeroN (b := w.heap.size + 1) (by simp)
  have hn := needs_any E0.at_ ⟨#[58]⟩
  have HE := Lib.hid E0
  clear E0 h hX hK hS
  go_enter Tryz.func276, Tryz.ntmps276
  go_wp2_with (go_at_call 93; with_reducible refine hn.mono ?_; intro e w1 hp; obtain ⟨rfl, E1⟩ := HE.out.call hp; have E1 := E1.drew1; have h2 := hL.ex E1.at_ E1.gx; have l1 := E1.ld 1 rfl; have HE1 := Lib.hid E1; clear hp E1)
  go_region_with (first | (go_at_call 141; with_reducible refine h2.mono ?_; intro e w2 hp; obtain ⟨N, rfl, E2⟩ := HE1.out.callN hp; have l2 := E2.ld 1 rfl; have s2 := ((E2.kids2 (k := 11) (n := 0) (t := noS) (List.mem_cons_of_mem _ List.mem_cons_self) List.mem_cons_self).alloc (.cells (ncs (kidN 11 (newSl w2.heap.size 2))) 27)).sto 0 rfl; have HE2 := Lib.hid E2; clear hp E2) | (go_at_call 22; with_reducible refine (node_any _ _ _ _ _).mono ?_; rintro e w3 ⟨rfl, rfl⟩))
  all_goals go_wp2
  all_goals exact ((((HE2.out.kids2 (k := 11) (n := 0) (t := noS) (List.mem_cons_of_mem _ List.mem_cons_self) List.mem_cons_self).alloc _).store 0 rfl _).fin List.mem_cons_self List.mem_cons_self rfl rfl)
end Go.Proofs.YtkknglmpdmhhjaaGreatDoor.Pa
