/-
  Texts of this seat in build order: RpEnv, RpLow, RpList.
-/
import Derived.Test.YtinoaajohkafmaaGreatMw04
import Derived.Test.YtinoaajohkafmaaGreatMw17
/-
  The reference's parser: what holds between two calls.
-/
namespace Go.Proofs.YtinoaajohkafmaaGreat.Rp
open Go Go.RowKit Go.Proofs.YtinoaajohkafmaaGreat.Uni Go.Proofs.YtinoaajohkafmaaGreat.Pa
open Go.Proofs.YtinoaajohkafmaaGreat.Lx
set_option linter.unusedVariables false
set_option linter.unusedSimpArgs false
structure Env (g d : Nat) (s : PS) (S0 : Nat → Prop) (w0 W : World) (bs : List (Nat × Nd)) (vs : List (Tree × Nd)) : Prop where
  at_ : At g d s W
  gb : GB g w0 W
  gl : g < w0.heap.size
  s0 : ∀ b, S0 b → b ≠ g
  bl : ∀ x ∈ bs, w0.heap.size ≤ x.1 ∧ Blk W x.1 (ncs x.2) 25
  nd : (bs.map Prod.fst).Nodup
  rp : ∀ v ∈ vs, Rep (Own S0 w0.heap.size (bs.map Prod.fst)) W v.1 v.2
section
variable {g d : Nat} {s : PS} {S0 : Nat → Prop} {w0 W : World} {bs : List (Nat × Nd)} {vs : List (Tree × Nd)}
theorem Env.startS {w : World} (h : At g d s w) (hS : ∀ b, S0 b → b ≠ g) : Env g d s S0 w w [] [] :=
  ⟨h, GB.refl _ _, h.lt, hS, fun _ h => by simp at h, by simp, fun _ h => by simp at h⟩
theorem Env.start {w : World} (h : At g d s w) : Env g d s (fun _ => False) w w [] [] := Env.startS h (fun _ h => h.elim)
theorem Env.size (E : Env g d s S0 w0 W bs vs) : w0.heap.size ≤ W.heap.size := E.gb.size
theorem Env.alloc (E : Env g d s S0 w0 W bs vs) (o : Obj) : Env g d s S0 w0 (W.alloc o) bs vs :=
  ⟨E.at_.alloc o, E.gb.trans (GB.of bel1), E.gl, E.s0, fun x hx => ⟨(E.bl x hx).1, (E.bl x hx).2.old o⟩, E.nd,
    fun v hv => Rep.keep (fun b hb hS => ⟨hS, heap_alloc_old _ _ hb⟩) _ _ (E.rp v hv)⟩
theorem Env.drew (E : Env g d s S0 w0 W bs vs) (n : Nat) : Env g d s S0 w0 (W.drewN n) bs vs :=
  ⟨E.at_.drewN n, E.gb.drew n, E.gl, E.s0, fun x hx => ⟨(E.bl x hx).1, (E.bl x hx).2.drewN n⟩, E.nd,
    fun v hv => Rep.keep (w := W) (w' := W.drewN n) (fun b hb hS => ⟨hS, rfl⟩) _ _ (E.rp v hv)⟩
theorem Env.drew1 (E : Env g d s S0 w0 W bs vs) : Env g d s S0 w0 W.drew bs vs :=
  ⟨E.at_.drew, E.gb.trans (GB.of (Below.refl _ W).drew), E.gl, E.s0, fun x hx => ⟨(E.bl x hx).1, (E.bl x hx).2.drew⟩, E.nd,
    fun v hv => Rep.keep (w := W) (w' := W.drew) (fun b hb hS => ⟨hS, rfl⟩) _ _ (E.rp v hv)⟩
theorem Env.new (E : Env g d s S0 w0 W bs vs) (N : Nd) : Env g d s S0 w0 (W.alloc (.cells (ncs N) 25)) ((W.heap.size, N) :: bs) vs := by
  have E' := E.alloc (.cells (ncs N) 25)
  refine ⟨E'.at_, E'.gb, E'.gl, E'.s0, fun x hx => ?_, ?_, fun v hv => ?_⟩
  · rcases List.mem_cons.1 hx with rfl | hx
    · exact ⟨E.size, Blk.new W _ _⟩
    · exact E'.bl x hx
  · rw [List.map_cons, List.nodup_cons]
    refine ⟨fun h => ?_, E.nd⟩
    obtain ⟨x, hx, he⟩ := List.mem_map.1 h
    have := (E.bl x hx).2.lt
    omega
  · refine Rep.keep (fun b hb hS => ⟨⟨hS.1, ?_⟩, heap_alloc_old _ _ hb⟩) _ _ (E.rp v hv)
    rw [List.map_cons, List.mem_cons]
    rintro (h | h)
    · have h' : b = W.heap.size := h
      omega
    · exact hS.2 h
theorem Env.newAt (E : Env g d s S0 w0 W bs vs) (N : Nd) {b : Nat} (hb : b = W.heap.size) : Env g d s S0 w0 (W.alloc (.cells (ncs N) 25)) ((b, N) :: bs) vs := by
  subst hb
  exact E.new N
theorem Env.store (E : Env g d s S0 w0 W bs vs) (i : Nat) {b : Nat} {o : Nd} (hi : bs[i]? = some (b, o)) (N : Nd) : Env g d s S0 w0 (W.setRow b (ncs N)) (bs.set i (b, N)) vs := by
  have hm : (b, o) ∈ bs := List.mem_of_getElem? hi
  obtain ⟨hb1, hb2⟩ := E.bl _ hm
  have hgb : GB g W (W.setRow b (ncs N)) ∨ True := .inr trivial
  have hmap : (bs.set i (b, N)).map Prod.fst = bs.map Prod.fst := by
    rw [List.map_set]
    apply List.ext_getElem?
    intro j
    rw [List.getElem?_set]
    split
    · rename_i h; subst h
      split
      · simp [hi]
      · rename_i h2; rw [List.getElem?_eq_none (by omega)]
    · rfl
  have hlt : i < bs.length := (List.getElem?_eq_some_iff.1 hi).1
  refine ⟨E.at_.row hb2, E.gb.row _ hb1, E.gl, E.s0, fun x hx => ?_, by rw [hmap]; exact E.nd, fun v hv => ?_⟩
  · obtain ⟨j, hj⟩ := List.mem_iff_getElem?.1 hx
    by_cases hij : i = j
    · subst hij
      rw [List.getElem?_set_self hlt] at hj
      cases hj
      exact ⟨hb1, hb2.row _⟩
    · rw [List.getElem?_set_ne hij] at hj
      have hxm : x ∈ bs := List.mem_of_getElem? hj
      refine ⟨(E.bl x hxm).1, (E.bl x hxm).2.row_other _ ?_⟩
      intro he
      have h1 : (bs.map Prod.fst)[i]? = some b := by rw [List.getElem?_map, hi]; rfl
      have h2 : (bs.map Prod.fst)[j]? = some b := by rw [List.getElem?_map, hj, ← he]; rfl
      have hil : i < (bs.map Prod.fst).length := by rw [List.length_map]; exact hlt
      exact hij (List.getElem?_inj hil E.nd |>.1 (h1.trans h2.symm))
  · rw [hmap]
    refine Rep.keep (fun c hc hS => ⟨hS, setRow_other W b c _ ?_⟩) _ _ (E.rp v hv)
    rintro rfl
    exact hS.2 (List.mem_map.2 ⟨_, hm, rfl⟩)
theorem Env.frame {d' : Nat} {s' : PS} {w' : World} (E : Env g d s S0 w0 W bs vs) (ha : At g d' s' w') (hg : GB g W w') : Env g d' s' S0 w0 w' bs vs := by
  have hne : ∀ b, w0.heap.size ≤ b → b ≠ g := fun b hb => by have := E.gl; omega
  have hne2 : ∀ b, S0 b ∨ w0.heap.size ≤ b → b ≠ g := fun b hb => hb.elim (E.s0 b) (hne b)
  refine ⟨ha, E.gb.trans hg, E.gl, E.s0, fun x hx => ⟨(E.bl x hx).1, (E.bl x hx).2.gb hg (hne _ (E.bl x hx).1)⟩, E.nd, fun v hv => ?_⟩
  exact Rep.keep (fun b hb hS => ⟨hS, hg.block b hb (by simpa using hne2 b hS.1)⟩) _ _ (E.rp v hv)
theorem Env.call {d' : Nat} {s' : PS} {w' : World} {v : Value} {e : Ending} (E : Env g d s S0 w0 W bs vs) (h : Post g d' W v s' e w') : e = .returned v ∧ Env g d' s' S0 w0 w' bs vs := ⟨h.1, E.frame h.2.1 h.2.2⟩
theorem Env.callR {w' : World} {v : Value} {e : Ending} (E : Env g d s S0 w0 W bs vs) (h : PostR W v e w') : e = .returned v ∧ Env g d s S0 w0 w' bs vs := ⟨h.1, E.frame (E.at_.below h.2) (GB.of h.2)⟩
theorem Env.callB {w' : World} (E : Env g d s S0 w0 W bs vs) (h : Below W.heap.size W w') : Env g d s S0 w0 w' bs vs := E.frame (E.at_.below h) (GB.of h)
theorem Env.add {T : Tree} {N : Nd} (E : Env g d s S0 w0 W bs vs) (h : Rep (Own S0 w0.heap.size (bs.map Prod.fst)) W T N) : Env g d s S0 w0 W bs ((T, N) :: vs) :=
  ⟨E.at_, E.gb, E.gl, E.s0, E.bl, E.nd, fun v hv => by
    rcases List.mem_cons.1 hv with rfl | hv
    · exact h
    · exact E.rp v hv⟩
theorem Env.callS {d' : Nat} {R : Tree × PS} {S : Nat → Prop} {w' : World} {e : Ending} (E : Env g d s S0 w0 W bs vs) (h : PostS S g d' W R e w') (hS : ∀ b, S b → Own S0 w0.heap.size (bs.map Prod.fst) b) : ∃ N, e = .returned (.agg (ncs N)) ∧ Env g d' R.2 S0 w0 w' bs ((R.1, N) :: vs) := by
  obtain ⟨N, he, hr, ha, hg⟩ := h
  refine ⟨N, he, (E.frame ha hg).add (Rep.keep (fun b hb hS2 => ⟨?_, rfl⟩) _ _ hr)⟩
  rcases hS2 with hS2 | hS2
  · exact hS b hS2
  · refine ⟨.inr (Nat.le_trans E.size hS2), fun hm => ?_⟩
    obtain ⟨x, hx, rfl⟩ := List.mem_map.1 hm
    have := (E.bl x hx).2.lt
    omega
theorem Env.callN {d' : Nat} {R : Tree × PS} {w' : World} {e : Ending} (E : Env g d s S0 w0 W bs vs) (h : PostN g d' W R e w') : ∃ N, e = .returned (.agg (ncs N)) ∧ Env g d' R.2 S0 w0 w' bs ((R.1, N) :: vs) := E.callS h (fun b hb => hb.elim)
theorem Env.leaf (E : Env g d s S0 w0 W bs vs) (k n : Int) (t : ByteArray) : Env g d s S0 w0 W bs ((.mk k n t [] [], ⟨k, n, t, nilSl, nilSl⟩) :: vs) := E.add (Rep.nil _ _ _ _ _)
theorem Env.own_new (E : Env g d s S0 w0 W bs vs) : Own S0 w0.heap.size (bs.map Prod.fst) W.heap.size := by
  refine ⟨.inr E.size, fun hm => ?_⟩
  obtain ⟨x, hx, he⟩ := List.mem_map.1 hm
  have := (E.bl x hx).2.lt
  omega
theorem Env.kids (E : Env g d s S0 w0 W bs vs) {ts : List Tree} {xs : List Nd} (h : Reps (Own S0 w0.heap.size (bs.map Prod.fst)) W ts xs) {m : Nat} (hm : ts.length = m) (hl : m ≤ 200000) (k n : Int) (t : ByteArray) : Env g d s S0 w0 (W.alloc (.cells (ncells xs).toArray 25)) bs ((.mk k n t [] ts, ⟨k, n, t, nilSl, newSl W.heap.size m⟩) :: vs) := by
  have E' := E.alloc (.cells (ncells xs).toArray 25)
  refine E'.add (Rep.of (xs := xs) ?_ (Reps.keep (fun b hb hS => ⟨hS, heap_alloc_old _ _ hb⟩) _ _ h))
  rw [hm]
  exact Row.new W xs m (by rw [h.len, hm]) (by unfold maxLen; omega) E.own_new
theorem Env.kids1 (E : Env g d s S0 w0 W bs vs) {T : Tree} {N : Nd} (h : (T, N) ∈ vs) (k n : Int) (t : ByteArray) : Env g d s S0 w0 (W.alloc (.cells (ncells [N]).toArray 25)) bs ((.mk k n t [] [T], ⟨k, n, t, nilSl, newSl W.heap.size 1⟩) :: vs) :=
  E.kids (m := 1) (ts := [T]) (xs := [N]) (by unfold Reps; exact ⟨E.rp _ h, by unfold Reps; trivial⟩) rfl (by omega) k n t
theorem Env.kids2 (E : Env g d s S0 w0 W bs vs) {T T2 : Tree} {N N2 : Nd} (h : (T, N) ∈ vs) (h2 : (T2, N2) ∈ vs) (k n : Int) (t : ByteArray) : Env g d s S0 w0 (W.alloc (.cells (ncells [N, N2]).toArray 25)) bs ((.mk k n t [] [T, T2], ⟨k, n, t, nilSl, newSl W.heap.size 2⟩) :: vs) :=
  E.kids (m := 2) (ts := [T, T2]) (xs := [N, N2]) (by unfold Reps; refine ⟨E.rp _ h, ?_⟩; unfold Reps; exact ⟨E.rp _ h2, by unfold Reps; trivial⟩) rfl (by omega) k n t
theorem Env.kids3 (E : Env g d s S0 w0 W bs vs) {T T2 T3 : Tree} {N N2 N3 : Nd} (h : (T, N) ∈ vs) (h2 : (T2, N2) ∈ vs) (h3 : (T3, N3) ∈ vs) (k n : Int) (t : ByteArray) : Env g d s S0 w0 (W.alloc (.cells (ncells [N, N2, N3]).toArray 25)) bs ((.mk k n t [] [T, T2, T3], ⟨k, n, t, nilSl, newSl W.heap.size 3⟩) :: vs) :=
  E.kids (m := 3) (ts := [T, T2, T3]) (xs := [N, N2, N3]) (by unfold Reps; refine ⟨E.rp _ h, ?_⟩; unfold Reps; refine ⟨E.rp _ h2, ?_⟩; unfold Reps; exact ⟨E.rp _ h3, by unfold Reps; trivial⟩) rfl (by omega) k n t
theorem Env.post (E : Env g d s S0 w0 W bs vs) {T : Tree} {N : Nd} (hv : (T, N) ∈ vs) : PostS S0 g d w0 (T, s) (.returned (.agg (ncs N))) W :=
  ⟨N, rfl, Rep.keep (fun b hb hS => ⟨hS.1, rfl⟩) _ _ (E.rp _ hv), E.at_, E.gb⟩
theorem Env.fin (E : Env g d s S0 w0 W bs vs) {b : Nat} {T : Tree} {N : Nd} (hb : (b, N) ∈ bs) (hv : (T, N) ∈ vs) {fn : Func} {p : Tmp} (hf : fn.results = #[.cell p 25]) {tmps : Array Value} (hp : tmps.getD p undef = .pointer (some ⟨b, 0, none⟩)) : bodyPost Tryz.prog fn (PostS S0 g d w0 (T, s)) .ret ⟨tmps, []⟩ W :=
  bodyPost_ret (res_N hf _ _ b N hp (E.bl _ hb).2) rfl (E.post hv)
theorem Env.ld (E : Env g d s S0 w0 W bs vs) (i : Nat) {b : Nat} {N : Nd} (hi : bs[i]? = some (b, N)) : (Ld 25 (.pointer (some ⟨b, 0, none⟩))).run Tryz.prog W = .ok (.agg (ncs N)) W := run_ldN (E.bl _ (List.mem_of_getElem? hi)).2
theorem Env.sto (E : Env g d s S0 w0 W bs vs) (i : Nat) {b : Nat} {N : Nd} (hi : bs[i]? = some (b, N)) (M : Nd) : (Lx.St 25 (.pointer (some ⟨b, 0, none⟩)) (.agg (ncs M))).run Tryz.prog W = .ok () (W.setRow b (ncs M)) := run_stN (E.bl _ (List.mem_of_getElem? hi)).2
theorem Env.c0 (E : Env g d s S0 w0 W bs vs) (i : Nat) {b : Nat} {N : Nd} (hi : bs[i]? = some (b, N)) : W.cell? ⟨b, 0, none⟩ = some (.int .i64 N.kind) := ((E.bl _ (List.mem_of_getElem? hi)).2.cell 0).trans (ncs_0 N)
theorem Env.c1 (E : Env g d s S0 w0 W bs vs) (i : Nat) {b : Nat} {N : Nd} (hi : bs[i]? = some (b, N)) : W.cell? ⟨b, 1, none⟩ = some (.int .i64 N.num) := ((E.bl _ (List.mem_of_getElem? hi)).2.cell 1).trans (ncs_1 N)
theorem Env.c4 (E : Env g d s S0 w0 W bs vs) (i : Nat) {b : Nat} {N : Nd} (hi : bs[i]? = some (b, N)) : W.cell? ⟨b, 4, none⟩ = some (.slice N.kids.a N.kids.n N.kids.c) := ((E.bl _ (List.mem_of_getElem? hi)).2.cell 4).trans (ncs_4 N)
theorem Env.fz (E : Env g d s S0 w0 W bs vs) (i : Nat) {b : Nat} {N : Nd} (hi : bs[i]? = some (b, N)) (j : Nat) : W.frozen? ⟨b, j, none⟩ = false := (E.bl _ (List.mem_of_getElem? hi)).2.frozen j
end
theorem Env.set4 {g d : Nat} {s : PS} {S0 : Nat → Prop} {w0 W : World} {bs : List (Nat × Nd)} {vs : List (Tree × Nd)} (E : Env g d s S0 w0 W bs vs) (i : Nat) {b : Nat} {N : Nd} (hi : bs[i]? = some (b, N)) (a : Option Addr) (l c : Nat) : Env g d s S0 w0 (W.setCell ⟨b, 4, none⟩ (.slice a l c)) (bs.set i (b, { N with kids := ⟨a, l, c⟩ })) vs := by
  have hB : Blk W b (ncs N) 25 := (E.bl _ (List.mem_of_getElem? hi)).2
  rw [setCell_row hB, ncs_set4]
  exact E.store i hi _
theorem Env.set1 {g d : Nat} {s : PS} {S0 : Nat → Prop} {w0 W : World} {bs : List (Nat × Nd)} {vs : List (Tree × Nd)} (E : Env g d s S0 w0 W bs vs) (i : Nat) {b : Nat} {N : Nd} (hi : bs[i]? = some (b, N)) (n : Int) : Env g d s S0 w0 (W.setCell ⟨b, 1, none⟩ (.int .i64 n)) (bs.set i (b, { N with num := n })) vs := by
  have hB : Blk W b (ncs N) 25 := (E.bl _ (List.mem_of_getElem? hi)).2
  rw [setCell_row hB, ncs_set1]
  exact E.store i hi _
theorem Env.ne {g d : Nat} {s : PS} {S0 : Nat → Prop} {w0 W : World} {bs : List (Nat × Nd)} {vs : List (Tree × Nd)} (E : Env g d s S0 w0 W bs vs) : ∀ b, Own S0 w0.heap.size (bs.map Prod.fst) b → b ≠ g := fun b h => h.1.elim (E.s0 b) (fun h => by have := E.gl; omega)
theorem Env.arg {g d : Nat} {s : PS} {S0 : Nat → Prop} {w : World} (E : Env g d s S0 w w [] []) {T : Tree} {N : Nd} (h : Rep S0 w T N) : Env g d s S0 w w [] [(T, N)] := E.add (Rep.keep (fun b hb hS => ⟨⟨.inl hS, by simp⟩, rfl⟩) _ _ h)
end Go.Proofs.YtinoaajohkafmaaGreat.Rp

/-
  The reference's parser: what is one deeper; one, two, target, brackets.
-/
namespace Go.Proofs.YtinoaajohkafmaaGreat.Rp
open Go Go.RowKit Go.Proofs.YtinoaajohkafmaaGreat.Uni Go.Proofs.YtinoaajohkafmaaGreat.Pa
open Go.Proofs.YtinoaajohkafmaaGreat.Lx
set_option linter.unusedVariables false
set_option linter.unusedSimpArgs false
attribute [local go_sem ↓] ldK stK alK bdK bsK ldN stN alN bdN bsN
attribute [local irreducible] kcs ncs ncells
attribute [local go_sem] run_alK run_bdK0 run_bdKs run_bdKn run_bdKe run_bsK run_fdK0 run_fdK1 run_fdK2 run_fdK3 run_fdN4 run_alN run_stNg run_ldNg run_bdN0 run_bdN04 run_bdN02 run_bdN01 run_bdN024 run_bdN03 run_bdN0234 run_bsN1 run_bsN2 run_bsN3
structure LowC (d : Nat) (L : Low) : Prop where
  ex : ∀ {g : Nat} {s : PS} {w : World}, At g d s w → Calls Tryz.prog 81 #[.pointer (some ⟨g, 0, none⟩)] w (PostN g d w (L.ex s))
  st : ∀ {g : Nat} {s : PS} {w : World}, At g d s w → Calls Tryz.prog 38 #[.pointer (some ⟨g, 0, none⟩)] w (PostN g d w (L.st s))
  un : ∀ {g : Nat} {s : PS} {w : World}, At g d s w → Calls Tryz.prog 113 #[.pointer (some ⟨g, 0, none⟩)] w (PostN g d w (L.un s))
  ad : LowA L
def PostO (S : Nat → Prop) (W : World) (T : Tree) (e : Ending) (w' : World) : Prop := ∃ M, e = .returned (.agg (ncs M)) ∧ Rep (fun b => S b ∨ W.heap.size ≤ b) w' T M ∧ Below W.heap.size W w'
theorem Env.callO {g d : Nat} {s : PS} {S0 : Nat → Prop} {w0 W : World} {bs : List (Nat × Nd)} {vs : List (Tree × Nd)} {T : Tree} {S : Nat → Prop} {w' : World} {e : Ending} (E : Env g d s S0 w0 W bs vs) (h : PostO S W T e w') (hS : ∀ b, S b → Own S0 w0.heap.size (bs.map Prod.fst) b) : ∃ N, e = .returned (.agg (ncs N)) ∧ Env g d s S0 w0 w' bs ((T, N) :: vs) := by
  obtain ⟨N, he, hr, hb⟩ := h
  refine ⟨N, he, (E.callB hb).add (Rep.keep (fun b hb2 hS2 => ⟨?_, rfl⟩) _ _ hr)⟩
  rcases hS2 with hS2 | hS2
  · exact hS b hS2
  · refine ⟨.inr (Nat.le_trans E.size hS2), fun hm => ?_⟩
    obtain ⟨x, hx, rfl⟩ := List.mem_map.1 hm
    have := (E.bl x hx).2.lt
    omega
theorem rep_low {S : Nat → Prop} {w : World} {T : Tree} {N : Nd} (h : Rep S w T N) : Rep (fun b => S b ∧ b < w.heap.size) w T N := Rep.keep (fun b hb hS => ⟨⟨hS, hb⟩, rfl⟩) _ _ h
theorem blk_2 (w : World) (a b : Array Value) (t u : TypeId) : Blk ((w.alloc (.cells a t)).alloc (.cells b u)) (w.heap.size + 1) b u := by
  have := Blk.new (w.alloc (.cells a t)) b u
  simpa using this
theorem blk_3 (w : World) (a b c : Array Value) (t u v : TypeId) : Blk (((w.alloc (.cells a t)).alloc (.cells b u)).alloc (.cells c v)) (w.heap.size + 2) c v := by
  have := Blk.new ((w.alloc (.cells a t)).alloc (.cells b u)) c v
  simpa using this
set_option maxRecDepth 100000 in
set_option maxHeartbeats 4000000 in
theorem one_any {S : Nat → Prop} {T : Tree} {N : Nd} {w : World} (h : Rep S w T N) (k : Int) :
    Calls Tryz.prog 83 #[.int .i64 k, .agg (ncs N)] w (PostO S w (node k [T])) := by
  have hl := rep_low h
  obtain ⟨w1, e1⟩ : ∃ w1, w1 = w.alloc (.cells (ncs N) 25) := ⟨_, rfl⟩
  obtain ⟨w2, e2⟩ : ∃ w2, w2 = (w.alloc (.cells (ncs N) 25)).alloc (.cells (ncs zeroN) 25) := ⟨_, rfl⟩
  have z2 : w2.heap.size = w.heap.size + 2 := by rw [e2]; simp
  have hr2 : Rep (fun b => b < w.heap.size ∧ S b) w2 T N := Rep.keep (fun b hb hS => ⟨hS.symm, by rw [e2, heap_alloc_old _ _ (by simp; omega), heap_alloc_old _ _ hb]⟩) _ _ hl
  have hr3 : Rep (fun b => (b < w.heap.size ∧ S b) ∨ b = w2.heap.size) (w2.alloc (.cells (ncells [N]).toArray 25)) (node k [T]) ⟨k, 0, noS, nilSl, newSl w2.heap.size 1⟩ :=
    Rep.of (xs := [N]) (Row.new w2 [N] 1 rfl (by unfold maxLen; omega) (.inr rfl)) (by unfold Reps; exact ⟨Rep.keep (fun b hb hS => ⟨.inl hS, heap_alloc_old _ _ hb⟩) _ _ hr2, by unfold Reps; trivial⟩)
  have hr4 := fun cs => Rep.keep (w' := (w2.alloc (.cells (ncells [N]).toArray 25)).setRow (w.heap.size + 1) cs) (S' := fun b => S b ∨ w.heap.size ≤ b) (fun b hb hS => ⟨hS.elim (fun h => .inl h.2) (fun h => .inr (by omega)), setRow_other _ _ _ _ (by omega)⟩) _ _ hr3
  have bl : ∀ cs, Below w.heap.size w ((w2.alloc (.cells (ncells [N]).toArray 25)).setRow (w.heap.size + 1) cs) := fun cs => by
    rw [e2]
    exact below_row (bl_alloc (bl_alloc bel1)) _ (by omega)
  have l1 := run_ldN ((Blk.new w (ncs N) 25).old (.cells (ncs zeroN) 25))
  have b2 := (blk_2 w (ncs N) (ncs zeroN) 25 25).old (.cells (ncells [N]).toArray 25)
  have s2 := fun M : Nd => run_stN (t := M) b2
  rw [e2] at hr4 bl z2
  have HR := Lib.hid hr4
  have HB := Lib.hid bl
  have HB2 := Lib.hid b2
  clear h hl e1 e2 hr2 hr3 hr4 bl z2 b2
  go_enter Tryz.func83, Tryz.ntmps83
  go_wp2
  refine bodyPost_ret (res_N rfl _ _ (w.heap.size + 1) _ rfl (HB2.out.row _)) rfl ⟨_, rfl, ?_, HB.out _⟩
  have e : newSl ((w.alloc (.cells (ncs N) 25)).alloc (.cells (ncs zeroN) 25)).heap.size 1 = ⟨some ⟨w.heap.size + 1 + 1, 0, none⟩, 1, 1⟩ := by simp [newSl]
  have h := HR.out (ncs ⟨k, 0, noS, nilSl, ⟨some ⟨w.heap.size + 1 + 1, 0, none⟩, 1, 1⟩⟩)
  rw [e] at h
  exact h
set_option maxRecDepth 100000 in
set_option maxHeartbeats 4000000 in
theorem two_any {S : Nat → Prop} {T T' : Tree} {N N' : Nd} {w : World} (h : Rep S w T N) (h' : Rep S w T' N') (k : Int) (t : ByteArray) :
    Calls Tryz.prog 105 #[.int .i64 k, .string t, .agg (ncs N), .agg (ncs N')] w (PostO S w (.mk k 0 t [] [T, T'])) := by
  have hl := rep_low h
  have hl' := rep_low h'
  obtain ⟨w2, e2⟩ : ∃ w2, w2 = ((w.alloc (.cells (ncs N) 25)).alloc (.cells (ncs N') 25)).alloc (.cells (ncs zeroN) 25) := ⟨_, rfl⟩
  have z2 : w2.heap.size = w.heap.size + 3 := by rw [e2]; simp
  have kp : ∀ (T : Tree) (N : Nd), Rep (fun b => S b ∧ b < w.heap.size) w T N → Rep (fun b => b < w.heap.size ∧ S b) w2 T N := fun T N => Rep.keep (fun b hb hS => ⟨hS.symm, by rw [e2, heap_alloc_old _ _ (by simp; omega), heap_alloc_old _ _ (by simp; omega), heap_alloc_old _ _ hb]⟩) _ _
  have hr3 : Rep (fun b => (b < w.heap.size ∧ S b) ∨ b = w2.heap.size) (w2.alloc (.cells (ncells [N, N']).toArray 25)) (.mk k 0 t [] [T, T']) ⟨k, 0, t, nilSl, newSl w2.heap.size 2⟩ :=
    Rep.of (xs := [N, N']) (Row.new w2 [N, N'] 2 rfl (by unfold maxLen; omega) (.inr rfl)) (by unfold Reps; refine ⟨Rep.keep (fun b hb hS => ⟨.inl hS, heap_alloc_old _ _ hb⟩) _ _ (kp _ _ hl), ?_⟩; unfold Reps; exact ⟨Rep.keep (fun b hb hS => ⟨.inl hS, heap_alloc_old _ _ hb⟩) _ _ (kp _ _ hl'), by unfold Reps; trivial⟩)
  have hr4 := fun cs => Rep.keep (w' := (w2.alloc (.cells (ncells [N, N']).toArray 25)).setRow (w.heap.size + 2) cs) (S' := fun b => S b ∨ w.heap.size ≤ b) (fun b hb hS => ⟨hS.elim (fun h => .inl h.2) (fun h => .inr (by omega)), setRow_other _ _ _ _ (by omega)⟩) _ _ hr3
  have bl : ∀ cs, Below w.heap.size w ((w2.alloc (.cells (ncells [N, N']).toArray 25)).setRow (w.heap.size + 2) cs) := fun cs => by
    rw [e2]
    exact below_row (bl_alloc (bl_alloc (bl_alloc bel1))) _ (by omega)
  have l1 := run_ldN (((Blk.new w (ncs N) 25).old (.cells (ncs N') 25)).old (.cells (ncs zeroN) 25))
  have l2 := run_ldN ((blk_2 w (ncs N) (ncs N') 25 25).old (.cells (ncs zeroN) 25))
  have b2 := (blk_3 w (ncs N) (ncs N') (ncs zeroN) 25 25 25).old (.cells (ncells [N, N']).toArray 25)
  have s2 := fun M : Nd => run_stN (t := M) b2
  rw [e2] at hr4 bl z2
  have HR := Lib.hid hr4
  have HB := Lib.hid bl
  have HB2 := Lib.hid b2
  clear h h' hl hl' e2 kp hr3 hr4 bl z2 b2
  go_enter Tryz.func105, Tryz.ntmps105
  go_wp2
  refine bodyPost_ret (res_N rfl _ _ (w.heap.size + 2) _ rfl (HB2.out.row _)) rfl ⟨_, rfl, ?_, HB.out _⟩
  have e : newSl (((w.alloc (.cells (ncs N) 25)).alloc (.cells (ncs N') 25)).alloc (.cells (ncs zeroN) 25)).heap.size 2 = ⟨some ⟨w.heap.size + 1 + 1 + 1, 0, none⟩, 2, 2⟩ := by simp [newSl]
  have h := HR.out (ncs ⟨k, 0, t, nilSl, ⟨some ⟨w.heap.size + 1 + 1 + 1, 0, none⟩, 2, 2⟩⟩)
  rw [e] at h
  exact h
set_option maxRecDepth 100000 in
set_option maxHeartbeats 4000000 in
theorem target_any (N : Nd) (w : World) :
    Calls Tryz.prog 100 #[.agg (ncs N)] w (PostR w (.bool (N.kind == 8 || N.kind == 15 || N.kind == 16))) := by
  have k0 := ((Blk.new w (ncs N) 25).cell 0).trans (ncs_0 N)
  obtain ⟨a, ha⟩ : ∃ a, (N.kind == 8) = a := ⟨_, rfl⟩
  obtain ⟨b, hb⟩ : ∃ b, (N.kind == 15) = b := ⟨_, rfl⟩
  obtain ⟨c, hc⟩ : ∃ c, (N.kind == 16) = c := ⟨_, rfl⟩
  rw [ha, hb, hc]
  cases a <;> cases b
  all_goals (
    go_enter Tryz.func100, Tryz.ntmps100
    go_wp2
    go_ret
    exact ⟨rfl, bel1⟩)
set_option maxRecDepth 100000 in
set_option maxHeartbeats 4000000 in
theorem paren_any {d : Nat} {L : Low} (hL : LowC d L) {g : Nat} {s : PS} {w : World} (h : At g d s w) :
    Calls Tryz.prog 85 #[.pointer (some ⟨g, 0, none⟩)] w (PostN g d w (parenF L s)) := by
  have E0 := (Env.start h).new zeroN
  have c1 := want_any E0.at_ ⟨#[40]⟩
  have HE0 := Lib.hid E0
  clear E0 h
  go_enter Tryz.func85, Tryz.ntmps85
  go_wp2_with (first | (go_at_call 82; (with_reducible refine c1.mono ?_); intro e w1 hp; obtain ⟨rfl, E1⟩ := HE0.out.call hp; have c2 := hL.ex E1.at_; have HE1 := Lib.hid E1; clear hp E1) | (go_at_call 81; (with_reducible refine c2.mono ?_); intro e w2 hp; obtain ⟨N2, rfl, E2⟩ := HE1.out.callN hp; have E2 := E2.new N2; have c3 := want_any E2.at_ ⟨#[41]⟩; have HE2 := Lib.hid E2; clear hp E2) | (go_at_call 82; (with_reducible refine c3.mono ?_); intro e w3 hp; obtain ⟨rfl, E3⟩ := HE2.out.call hp; have l3 := E3.ld 0 rfl; have s3 := E3.sto 1 rfl; have HE3 := Lib.hid E3; clear hp E3))
  exact ((HE3.out.store 1 rfl N2).fin (by simp) (List.mem_cons_self) rfl rfl)
end Go.Proofs.YtinoaajohkafmaaGreat.Rp

/-
  The reference's parser: a list of expressions.
-/
namespace Go.Proofs.YtinoaajohkafmaaGreat.Rp
open Go Go.RowKit Go.Proofs.YtinoaajohkafmaaGreat.Uni Go.Proofs.YtinoaajohkafmaaGreat.Pa
open Go.Proofs.YtinoaajohkafmaaGreat.Lx
set_option linter.unusedVariables false
set_option linter.unusedSimpArgs false
attribute [local go_sem ↓] ldK stK alK bdK bsK ldN stN alN bdN bsN
attribute [local irreducible] kcs ncs ncells
attribute [local go_sem] run_alK run_bdK0 run_bdKs run_bdKn run_bdKe run_bsK run_fdK0 run_fdK1 run_fdK2 run_fdK3 run_fdN4 run_alN run_stNg run_ldNg run_bdN0 run_bdN04 run_bdN02 run_bdN01 run_bdN024 run_bdN03 run_bdN0234 run_bsN1 run_bsN2 run_bsN3
theorem Opn.len {g d : Nat} {s : PS} {w : World} {b o c n k : Nat} {D : Int} {T : Tok} (h : Opn g d s w b o c n k D T) (hf : s.fault = 0) : k + s.left.length = n := (h.lv hf).2.2.2
def measS (g : Nat) (w : World) : Nat := match w.cell? ⟨g, 3, none⟩, w.cell? ⟨g, 0, none⟩, w.cell? ⟨g, 1, none⟩ with
  | some (.int _ e), some (.slice _ n _), some (.int _ k) => if e = 0 then n - k.toNat + 1 else 0
  | _, _, _ => 0
theorem At.meas {g d : Nat} {s : PS} {w : World} (h : At g d s w) : measS g w = if s.fault = 0 then s.left.length + 1 else 0 := by
  obtain ⟨b, o, c, n, k, D, T, ho⟩ := h.opn
  unfold measS
  rw [ho.c3, ho.c0, ho.c1]
  simp only
  by_cases hf : s.fault = 0
  · rw [if_pos hf, if_pos hf]
    have := ho.len hf
    simp only [Int.toNat_natCast]
    omega
  · rw [if_neg hf, if_neg hf]
theorem At.c3 {g d : Nat} {s : PS} {w : World} (h : At g d s w) : w.cell? ⟨g, 3, none⟩ = some (.int .i64 s.fault) := by
  obtain ⟨b, o, c, n, k, D, T, ho⟩ := h.opn
  exact ho.c3
theorem At.c30 {g d : Nat} {s : PS} {w : World} (h : At g d s w) (hf : s.fault = 0) : w.cell? ⟨g, 3, none⟩ = some (.int .i64 0) := by
  have := h.c3
  rw [hf] at this
  exact this
theorem At.grown {g d : Nat} {s : PS} {w0 W w' : World} {et size n : Nat} {v : Value} {xs : List Value} (h : At g d s W) (k : W.grownBy w' v.ownBlock) (het : et ≠ 73) (hv : W.ownsRow w0.heap.size et size v n xs) (hl : g < w0.heap.size) : At g d s w' := by
  have hb : ∀ b', v.ownBlock = some b' → ∃ cur, W.heap[b']? = some (.cells cur et (0, 0)) := fun b' hb' => by
    rcases hv.2 with ⟨h1, -⟩ | ⟨g', cap, cur, h1, -, h2, -⟩
    · rw [h1] at hb'; cases hb'
    · rw [h1] at hb'; cases hb'; exact ⟨cur, h2⟩
  have hgv : some g ≠ v.ownBlock := fun e => by have := (hv.lt g e.symm).1; omega
  obtain ⟨h0, v2, L, k2, D, h1, h2, h3⟩ := h
  refine ⟨h0, v2, L, k2, D, (k.block g (lt_of_block h1) hgv).trans h1, h2.keep fun b2 hb2 _ hc => k.block b2 hb2 fun e => ?_, h3⟩
  obtain ⟨c2, hc2⟩ := hc
  obtain ⟨cur', h'⟩ := hb b2 e.symm
  rw [h'] at hc2
  simp only [Option.some.injEq, Obj.cells.injEq] at hc2
  exact het hc2.2.1
def PostL (g d : Nat) (w : World) (R : List Tree × PS) (e : Ending) (w' : World) : Prop :=
  ∃ v xs, e = .returned v ∧ Grow w w' R.1 xs v ∧ R.1.length ≤ 100001 ∧ At g d R.2 w' ∧ GB g w w'
theorem ad_take {s t : PS} (h : Adv s.take t) (hs : OkS s) (hk : ¬ (s.next.kind = 0 ∨ s.next.kind = -1)) : t.left.length + 1 ≤ s.left.length := by
  obtain ⟨k1, k2⟩ := hs.take hk
  have := (h k1).2.1
  omega
structure LI (el : PS → Tree × PS) (g d : Nat) (w wr : World) (R : List Tree × PS) (ts : List Tree) (xs : List Nd) (s : PS) (f : Nat) (v : Value) : Prop where
  at_ : At g d s wr
  gb : GB g w wr
  gr : Grow w wr ts xs v
  fu : s.left.length ≤ f
  len : ts.length + s.left.length ≤ 100001
  eq : R = (ts ++ (moreF el f s).1, (moreF el f s).2)
set_option maxRecDepth 100000 in
set_option maxHeartbeats 4000000 in
theorem list_no {d : Nat} {L : Low} (x : ByteArray) {g : Nat} {s : PS} {w : World} (h : At g d s w) (hk : ¬ (s.fault = 0 ∧ seesF x s = false)) :
    Calls Tryz.prog 137 #[.pointer (some ⟨g, 0, none⟩), .string x] w (PostL g d w ([], s)) := by
  have c3 := h.c3
  have hnil : PostL g d w ([], s) (.returned (.slice none 0 0)) w := ⟨_, [], rfl, Grow.nil _ _, by simp, h, GB.refl _ _⟩
  by_cases hf : s.fault = 0
  · have hk2 : seesF x s = true := by cases hq : seesF x s with | true => rfl | false => exact absurd ⟨hf, hq⟩ hk
    have hi := is_any h hf x
    rw [hk2] at hi
    rw [hf] at c3
    have HA := Lib.hid h
    clear hnil h hk hk2 hf
    go_enter Tryz.func137, Tryz.ntmps137
    go_wp2_with (go_at_call 37; (with_reducible refine hi.mono ?_); rintro e w1 ⟨rfl, hb⟩; have HB := Lib.hid hb; clear hb)
    go_ret
    exact ⟨_, [], rfl, Grow.nil _ _, by simp, HA.out.below HB.out, GB.of HB.out⟩
  · have hq : (s.fault == 0) = false := by simpa using hf
    have HN := Lib.hid hnil
    clear hnil h hk hf
    go_enter Tryz.func137, Tryz.ntmps137
    go_wp2
    go_ret
    exact HN.out
set_option maxRecDepth 100000 in
set_option maxHeartbeats 4000000 in
theorem list_yes {d : Nat} {L : Low} (hL : LowC d L) (x : ByteArray) {g : Nat} {s : PS} {w : World} (h : At g d s w) (hf : s.fault = 0) (hk : seesF x s = false) :
    Calls Tryz.prog 137 #[.pointer (some ⟨g, 0, none⟩), .string x] w (PostL g d w ((L.ex s).1 :: (moreF L.ex (L.ex s).2.left.length (L.ex s).2).1, (moreF L.ex (L.ex s).2.left.length (L.ex s).2).2)) := by
  obtain ⟨i0, hi, hz0, hz1, hz2⟩ := info_parts infoN3
  have c3 := h.c30 hf
  have hx := is_any h hf x
  rw [hk] at hx
  have hgl := h.lt
  have hok := h.ok
  obtain ⟨X, hXe⟩ : ∃ X, L.ex s = X := ⟨_, rfl⟩
  rw [hXe]
  have had := hL.ad.ex s
  rw [hXe] at had
  have hXl : X.2.left.length ≤ 100000 := Nat.le_trans (had hok).2.1 hok.len
  have HXE := Lib.hid hXe
  have HA := Lib.hid h
  clear h hok hk had hf
  go_enter Tryz.func137, Tryz.ntmps137
  go_wp2_with (first | (go_at_call 37; (with_reducible refine hx.mono ?_); rintro e w1 ⟨rfl, hb1⟩; have h2 := hL.ex (HA.out.below hb1); have HB1 := Lib.hid hb1; clear hb1) | (go_at_call 81; (with_reducible refine h2.mono ?_); rintro e w4 ⟨N4, rfl, hr4, ha4, hg4⟩; refine Hid.out ?_))
  refine Lib.hid ?_
  rw [HXE.out] at hr4 ha4
  have hgr3 := Grow.nil w w1
  have hgb3 := GB.of (g := g) HB1.out
  have hgr := hgr3.frame hg4 hgl
  have hgb4 := hgb3.trans hg4
  have hs3 : w.heap.size ≤ w1.heap.size := hgb3.size
  have hs4 : w.heap.size ≤ w4.heap.size := Nat.le_trans hs3 hg4.size
  have hrT := hgr3.fresh hs3 hr4
  have hown := (hgr.alloc (.cells (ncells [N4]).toArray 25)).own
  have hn1 : ([] : List Tree).length + 1 ≤ 200000 := by simp
  have HT := Lib.hid (Rep.keep (w' := w4.alloc (.cells (ncells [N4]).toArray 25)) (fun b hb hS => ⟨hS, heap_alloc_old _ _ hb⟩) _ _ hrT)
  have HGR := Lib.hid (hgr.alloc (.cells (ncells [N4]).toArray 25))
  have HA4 := Lib.hid (ha4.alloc (.cells (ncells [N4]).toArray 25))
  have HG4 := Lib.hid (hgb4.trans (GB.of (bel1 (o := .cells (ncells [N4]).toArray 25))))
  clear hr4 ha4 hg4 hgr hgb4 hrT hgr3 hgb3 h2 hx c3
  go_wp2_with (at_builtin; refine wpList_append_own_at _ rfl _ _ 23 rfl w.heap.size 25 i0 (.agg (ncs zeroN)) 5 80 Tryz.underlying23 hi hz0 hz1 hz2 zeroN_cells (by decide) _ _ _ rfl hown ⟨w4.heap.size, 0, none⟩ 1 1 (ncs N4).toList rfl (ncs_list N4) (new_cellsN w4 N4) (ncs_one' N4) (by unfold maxLen; omega) (by omega) (by simp; omega) ?_; intro v5 w5 hown5 hgrow5 _ hat5; refine Hid.out ?_)
  refine Lib.hid ?_
  have hgr5 := HGR.out.snoc HT.out hown5 hgrow5 hat5
  have ha5 := HA4.out.grown hgrow5 (by decide) HGR.out.own hgl
  have hgb5 := GB.grown HG4.out hgrow5 (fun b hb => (HGR.out.own.lt b hb).1)
  have HGR5 := Lib.hid hgr5
  have HA5 := Lib.hid ha5
  have HGB5 := Lib.hid hgb5
  clear hown5 hgrow5 hgr5 ha5 hgb5 hown hat5
  obtain ⟨R, hR⟩ : ∃ R, R = (X.1 :: (moreF L.ex X.2.left.length X.2).1, (moreF L.ex X.2.left.length X.2).2) := ⟨_, rfl⟩
  have hst : LI L.ex g d w w5 R [X.1] [N4] X.2 X.2.left.length v5 := ⟨HA5.out, HGB5.out, HGR5.out, Nat.le_refl _, by simp; omega, hR⟩
  have HST := Lib.hid hst
  have HRR := Lib.hid hR
  clear hR hst HT HGR HA4 HG4 HGR5 HA5 HGB5 HXE
  go_wp2
  go_loopw [5] (fun v wr => ∃ ts xs s f, LI L.ex g d w wr R ts xs s f v) (fun _ wr => measS g wr)
  case atStart => exact ⟨_, _, _, _, HST.out⟩
  case round =>
    obtain ⟨ts, xs, s', f, hI⟩ := hrel
    have hmeas := hI.at_.meas
    cases hk : seesF ⟨#[44]⟩ s' with
    | false =>
      have ht := take_f hI.at_ hk
      have he := hI.eq
      rw [moreF_nil hk, List.append_nil] at he
      have HI := Lib.hid hI
      have HE := Lib.hid he
      clear hk hI he hmeas
      go_wp2_with (first | (go_at_call 79; (with_reducible refine ht.mono ?_); rintro e w3 ⟨rfl, ha3, hg3⟩; have HA3 := Lib.hid ha3; have HG3 := Lib.hid hg3; clear ha3 hg3))
      go_ret
      rw [← HRR.out, HE.out]
      exact ⟨_, xs, rfl, HI.out.gr.frame HG3.out hgl, by have := HI.out.len; simp only; omega, HA3.out, HI.out.gb.trans HG3.out⟩
    | true =>
      have ht := take_t hI.at_ hk
      have hsk := sees_kind hk
      have hf' : s'.fault = 0 := hI.at_.ok.live (fun e => hsk (.inr e))
      rw [if_pos hf'] at hmeas
      have hfu := hI.fu
      obtain ⟨f', rfl⟩ : ∃ f', f = f' + 1 := ⟨f - 1, by have := hI.at_.ok.pos; omega⟩
      have he := hI.eq
      obtain ⟨Y, hY⟩ : ∃ Y, L.ex s'.take = Y := ⟨_, rfl⟩
      rw [moreF_cons hk, hY] at he
      have hadv := ad_take (hL.ad.ex s'.take) hI.at_.ok hsk
      rw [hY] at hadv
      have HI := Lib.hid hI
      have HE := Lib.hid he
      have HY := Lib.hid hY
      have HV := Lib.hid hadv
      have HF := Lib.hid hfu
      have HM := Lib.hid hmeas
      have hn1 : ts.length + 1 ≤ 200000 := by have := hI.len; omega
      clear hk hI he hY hadv hfu hsk hf' hmeas
      go_wp2_with (first | (go_at_call 79; (with_reducible refine ht.mono ?_); rintro e w3 ⟨rfl, ha3, hg3⟩; have h4 := hL.ex ha3; have HG3 := Lib.hid hg3; clear ha3 hg3) | (go_at_call 81; (with_reducible refine h4.mono ?_); rintro e w4 ⟨N4, rfl, hr4, ha4, hg4⟩; refine Hid.out ?_))
      refine Lib.hid ?_
      rw [HY.out] at hr4 ha4
      have hgr3 := HI.out.gr.frame HG3.out hgl
      have hgb3 := HI.out.gb.trans HG3.out
      have hgr := hgr3.frame hg4 hgl
      have hgb4 := hgb3.trans hg4
      have hs3 : w.heap.size ≤ w3.heap.size := hgb3.size
      have hs4 : w.heap.size ≤ w4.heap.size := Nat.le_trans hs3 hg4.size
      have hrT := hgr3.fresh hs3 hr4
      have hown := (hgr.alloc (.cells (ncells [N4]).toArray 25)).own
      have HT := Lib.hid (Rep.keep (w' := w4.alloc (.cells (ncells [N4]).toArray 25)) (fun b hb hS => ⟨hS, heap_alloc_old _ _ hb⟩) _ _ hrT)
      have HGR := Lib.hid (hgr.alloc (.cells (ncells [N4]).toArray 25))
      have HA4 := Lib.hid (ha4.alloc (.cells (ncells [N4]).toArray 25))
      have HG4 := Lib.hid (hgb4.trans (GB.of (bel1 (o := .cells (ncells [N4]).toArray 25))))
      clear hr4 ha4 hg4 hgr hgb4 hrT hgr3 hgb3 ht h4
      go_wp2_with (at_builtin; refine wpList_append_own_at _ rfl _ _ 23 rfl w.heap.size 25 i0 (.agg (ncs zeroN)) 5 80 Tryz.underlying23 hi hz0 hz1 hz2 zeroN_cells (by decide) _ _ _ rfl hown ⟨w4.heap.size, 0, none⟩ 1 1 (ncs N4).toList rfl (ncs_list N4) (new_cellsN w4 N4) (ncs_one' N4) (by unfold maxLen; omega) (by omega) (by simp; omega) ?_; intro v5 w5 hown5 hgrow5 _ hat5; refine Hid.out ?_)
      refine Lib.hid ?_
      have hgr5 := HGR.out.snoc HT.out hown5 hgrow5 hat5
      have ha5 := HA4.out.grown hgrow5 (by decide) HGR.out.own hgl
      have hgb5 := GB.grown HG4.out hgrow5 (fun b hb => (HGR.out.own.lt b hb).1)
      have HGR5 := Lib.hid hgr5
      have HA5 := Lib.hid ha5
      have HGB5 := Lib.hid hgb5
      clear hown5 hgrow5 hgr5 ha5 hgb5 hown hat5
      go_wp2
      go_roundw
      case rel =>
        refine ⟨ts ++ [Y.1], xs ++ [N4], Y.2, f', HA5.out, HGB5.out, HGR5.out, ?_, ?_, ?_⟩
        · have := HV.out; have := HF.out; omega
        · have := HV.out; have := HI.out.len; simp; omega
        · rw [HE.out]; simp
      case measure =>
        rw [HA5.out.meas, HM.out]
        have := HV.out
        split <;> omega
theorem list_any {d : Nat} {L : Low} (hL : LowC d L) (x : ByteArray) {g : Nat} {s : PS} {w : World} (h : At g d s w) :
    Calls Tryz.prog 137 #[.pointer (some ⟨g, 0, none⟩), .string x] w (PostL g d w (rlistF x L.ex s)) := by
  unfold rlistF
  by_cases hk : s.fault = 0 ∧ seesF x s = false
  · rw [if_pos hk]; exact list_yes hL x h hk.1 hk.2
  · rw [if_neg hk]; exact list_no (L := L) x h hk
end Go.Proofs.YtinoaajohkafmaaGreat.Rp
