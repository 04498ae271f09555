/-
  Texts of this seat in build order: PaSame, PaAlive.
-/
import Derived.Test.YtocebhaaamnfiaaGreatDoorMg35
import Derived.Lib.SlBytesRow
import Derived.Lib.ConvBytes
import Derived.Lib.SlBytesConst
/-
  The reference's SameNode, SameNodes, SameTexts at trees in memory.
-/
namespace Go.Proofs.YtocebhaaamnfiaaGreatDoor.Pa
open Go Go.RowKit Go.Proofs.YtocebhaaamnfiaaGreatDoor.Lx Go.Proofs.YtocebhaaamnfiaaGreatDoor.Uni
set_option linter.unusedVariables false
set_option linter.unusedSimpArgs false

mutual
def sameT : Tree → Tree → Bool
  | .mk k n t ns ks, .mk k' n' t' ns' ks' => k == k' && (n == n' && (eqT t t' && (sameS ns ns' && sameTs ks ks')))
def sameTs : List Tree → List Tree → Bool
  | [], [] => true
  | a :: l, b :: m => sameT a b && sameTs l m
  | _, _ => false
def sameS : List ByteArray → List ByteArray → Bool
  | [], [] => true
  | a :: l, b :: m => eqT a b && sameS l m
  | _, _ => false
end
mutual
def Tree.sz : Tree → Nat
  | .mk _ _ _ _ ks => 1 + szs ks
def szs : List Tree → Nat
  | [] => 0
  | a :: l => a.sz + szs l
end
theorem szs_at : ∀ {ts : List Tree} {i : Nat} {t : Tree}, ts[i]? = some t → t.sz ≤ szs ts
  | [], i, t, h => by simp at h
  | a :: l, 0, t, h => by
    simp at h; subst h
    unfold szs; omega
  | a :: l, i + 1, t, h => by
    simp at h
    have := szs_at h
    unfold szs; omega
theorem sameTs_len : ∀ {ts us : List Tree}, ts.length ≠ us.length → sameTs ts us = false
  | [], [], h => absurd rfl h
  | [], _ :: _, _ => by unfold sameTs; rfl
  | _ :: _, [], _ => by unfold sameTs; rfl
  | a :: l, b :: m, h => by
    unfold sameTs
    rw [sameTs_len (by simpa using h), Bool.and_false]
theorem sameS_len : ∀ {ts us : List ByteArray}, ts.length ≠ us.length → sameS ts us = false
  | [], [], h => absurd rfl h
  | [], _ :: _, _ => by unfold sameS; rfl
  | _ :: _, [], _ => by unfold sameS; rfl
  | a :: l, b :: m, h => by
    unfold sameS
    rw [sameS_len (by simpa using h), Bool.and_false]
theorem sameTs_step {ts us : List Tree} {i : Nat} {t u : Tree} (h : ts[i]? = some t) (k : us[i]? = some u) : sameTs (ts.drop i) (us.drop i) = (sameT t u && sameTs (ts.drop (i + 1)) (us.drop (i + 1))) := by
  have e1 : ts.drop i = t :: ts.drop (i + 1) := by
    obtain ⟨hl, rfl⟩ := List.getElem?_eq_some_iff.1 h
    exact List.drop_eq_getElem_cons hl
  have e2 : us.drop i = u :: us.drop (i + 1) := by
    obtain ⟨hl, rfl⟩ := List.getElem?_eq_some_iff.1 k
    exact List.drop_eq_getElem_cons hl
  rw [e1, e2]
  conv => lhs; unfold sameTs
theorem sameS_step {ts us : List ByteArray} {i : Nat} {t u : ByteArray} (h : ts[i]? = some t) (k : us[i]? = some u) : sameS (ts.drop i) (us.drop i) = (eqT t u && sameS (ts.drop (i + 1)) (us.drop (i + 1))) := by
  have e1 : ts.drop i = t :: ts.drop (i + 1) := by
    obtain ⟨hl, rfl⟩ := List.getElem?_eq_some_iff.1 h
    exact List.drop_eq_getElem_cons hl
  have e2 : us.drop i = u :: us.drop (i + 1) := by
    obtain ⟨hl, rfl⟩ := List.getElem?_eq_some_iff.1 k
    exact List.drop_eq_getElem_cons hl
  rw [e1, e2]
  conv => lhs; unfold sameS

theorem Row.n {S : Nat → Prop} {w : World} {e size n : Nat} {s : Sl} {xs : List Value} (h : Row S w e size s n xs) : s.n = n := by
  rcases h.1.2 with ⟨h1, h2⟩ | ⟨g, cap, cur, h1, -⟩
  · unfold Sl.v at h1
    simp at h1
    omega
  · unfold Sl.v at h1
    simp at h1
    exact h1.2.1
/-- The cells of a list that has some. -/
theorem Row.at {S : Nat → Prop} {w : World} {e size n : Nat} {s : Sl} {xs : List Value} (h : Row S w e size s n xs) (hn : 0 < n) : ∃ g c, s = ⟨some ⟨g, 0, none⟩, n, c⟩ ∧ n ≤ c ∧ ∀ j v, xs[j]? = some v → w.cell? ⟨g, j, none⟩ = some v := by
  have hc := fun g => World.ownsRow.cells h.1 (g := g)
  rcases h.1.2 with ⟨h1, h2⟩ | ⟨g, cap, cur, h1, h2, h3, h4, -⟩
  · omega
  · refine ⟨g, cap, ?_, h4, fun j v hj => ?_⟩
    · cases s
      unfold Sl.v at h1
      simp at h1
      obtain ⟨rfl, rfl, rfl⟩ := h1
      rfl
    · have := hc g (by rw [h1]; rfl) j v hj
      have e : (⟨g, 0, none⟩ : Addr).add j = ⟨g, j, none⟩ := by unfold Addr.add; split <;> simp_all
      rwa [e] at this
theorem ncells_at : ∀ {xs : List Nd} {i : Nat} {x : Nd} {j : Nat} {v : Value}, xs[i]? = some x → (ncs x).toList[j]? = some v → (ncells xs)[i * 5 + j]? = some v
  | [], i, x, j, v, h, _ => by simp at h
  | a :: l, 0, x, j, v, h, k => by
    simp at h; subst h
    have e : ncells (a :: l) = (ncs a).toList ++ ncells l := rfl
    rw [e, List.getElem?_append_left (by have := (List.getElem?_eq_some_iff.1 k).1; omega), Nat.zero_mul, Nat.zero_add]
    exact k
  | a :: l, i + 1, x, j, v, h, k => by
    simp at h
    have e : ncells (a :: l) = (ncs a).toList ++ ncells l := rfl
    rw [e, List.getElem?_append_right (by rw [ncs_list]; omega), ncs_list, show (i + 1) * 5 + j - 5 = i * 5 + j from by omega]
    exact ncells_at h k
theorem Reps.at {S : Nat → Prop} {w : World} : ∀ {ts : List Tree} {xs : List Nd} {i : Nat} {t : Tree}, Reps S w ts xs → ts[i]? = some t → ∃ x, xs[i]? = some x ∧ Rep S w t x
  | [], _, i, t, _, h => by simp at h
  | t1 :: ts, [], i, t, h, _ => by unfold Reps at h; exact h.elim
  | t1 :: ts, x1 :: xs, 0, t, h, k => by
    unfold Reps at h
    simp at k; subst k
    exact ⟨x1, rfl, h.1⟩
  | t1 :: ts, x1 :: xs, i + 1, t, h, k => by
    unfold Reps at h
    simp at k
    obtain ⟨x, h3, h4⟩ := Reps.at h.2 k
    exact ⟨x, h3, h4⟩
theorem run_ldNm {w : World} {b o : Nat} {t : Nd} (h : w.rangeAt b o (ncs t).toList) : (Ld 27 (.pointer (some ⟨b, o, none⟩))).run Tryz.prog w = .ok (.agg (ncs t)) w := by
  have := run_loadAt_mid (P := Tryz.prog) w b o 27 (ncs t).toList _ h Tryz.underlying27 rfl sizeN
  simpa [Ld] using this
theorem Rep.below {S : Nat → Prop} {w w' : World} {T : Tree} {N : Nd} (h : Rep S w T N) (hb : Below w.heap.size w w') : Rep S w' T N := Rep.keep (fun b hb' hS => ⟨hS, hb.block b hb'⟩) _ _ h
theorem Reps.below {S : Nat → Prop} {w w' : World} {T : List Tree} {N : List Nd} (h : Reps S w T N) (hb : Below w.heap.size w w') : Reps S w' T N := Reps.keep (fun b hb' hS => ⟨hS, hb.block b hb'⟩) _ _ h
theorem Row.below {S : Nat → Prop} {w w' : World} {e size n : Nat} {s : Sl} {xs : List Value} (h : Row S w e size s n xs) (hb : Below w.heap.size w w') : Row S w' e size s n xs := h.keep (fun b hb' hS => ⟨hS, hb.block b hb'⟩)

attribute [local go_sem ↓] ldK stK alK bdK bsK ldN stN alN bdN bsN
attribute [local irreducible] kcs ncs ncells
attribute [local go_sem] run_alN run_stNg run_ldNg run_bdN0

structure XI (w wr : World) (ns ms : List ByteArray) (i : Nat) (R : Bool) : Prop where
  bel : Below w.heap.size w wr
  le : i ≤ ns.length
  eq : R = sameS (ns.drop i) (ms.drop i)
set_option maxRecDepth 100000 in
set_option maxHeartbeats 4000000 in
theorem texts_any {S S' : Nat → Prop} {w : World} {s s2 : Sl} {ns ms : List ByteArray} (h : Row S w 9 1 s ns.length (ns.map Value.string)) (h2 : Row S' w 9 1 s2 ms.length (ms.map Value.string)) (hl : ns.length ≤ 200000) :
    Calls Tryz.prog 18 #[.slice s.a s.n s.c, .slice s2.a s2.n s2.c] w (PostR w (.bool (sameS ns ms))) := by
  have e1 := h.n
  have e2 := h2.n
  rw [e1, e2]
  by_cases hlen : ns.length = ms.length
  · have hq : ((ns.length : Int) != (ms.length : Int)) = false := by rw [hlen]; simp
    have hst : XI w w ns ms 0 (sameS ns ms) := ⟨Below.refl _ _, Nat.zero_le _, rfl⟩
    have HST := Lib.hid hst
    have HLEN := Lib.hid hlen
    obtain ⟨R, hR⟩ : ∃ R, sameS ns ms = R := ⟨_, rfl⟩
    rw [hR] at HST ⊢
    have H1 := Lib.hid h
    have H2 := Lib.hid h2
    obtain ⟨m, hm⟩ : ∃ m, ns.length = m := ⟨_, rfl⟩
    obtain ⟨m2, hm2⟩ : ∃ m2, ms.length = m2 := ⟨_, rfl⟩
    rw [hm, hm2] at hq
    rw [hm, hm2]
    have hmi : (m : Int) ≤ 200000 := by omega
    have HM := Lib.hid hm
    clear hst hR h h2 hlen e1 e2 hm hm2
    go_enter Tryz.func18, Tryz.ntmps18
    go_wp2
    go_loopw [5] (fun v wr => ∃ i : Nat, v = .int .i64 (i : Int) ∧ XI w wr ns ms i R) (fun v _ => m - (intOf v).toNat)
    case atStart => exact ⟨0, rfl, HST.out⟩
    case round =>
      obtain ⟨i, rfl, hI⟩ := hrel
      have hle := hI.le
      have hM := HM.out
      rw [hM] at hle
      by_cases hlt : i < m
      · have hii : (i : Int) < (m : Int) := by omega
        obtain ⟨x, hx⟩ : ∃ x, ns[i]? = some x := ⟨_, List.getElem?_eq_getElem (by omega)⟩
        obtain ⟨y, hy⟩ : ∃ y, ms[i]? = some y := ⟨_, List.getElem?_eq_getElem (by have := HLEN.out; omega)⟩
        obtain ⟨g1, cp1, q1, -, z1⟩ := (H1.out.below hI.bel).at (by omega)
        obtain ⟨g2, cp2, q2, -, z2⟩ := (H2.out.below hI.bel).at (by have := HLEN.out; omega)
        have k1 : wr.cell? ⟨g1, i, none⟩ = some (.string x) := z1 i _ (by simp [hx])
        have k2 : wr.cell? ⟨g2, i, none⟩ = some (.string y) := z2 i _ (by simp [hy])
        have he := hI.eq
        rw [sameS_step hx hy] at he
        subst q1 q2
        have k1d : wr.drew.cell? ⟨g1, i, none⟩ = some (.string x) := k1
        have k2d : wr.drew.cell? ⟨g2, i, none⟩ = some (.string y) := k2
        have hxy : (x.toList == y.toList) = eqT x y := by unfold eqT; rw [ByteArray.toList_eq, ByteArray.toList_eq]
        have him2 : (i : Int) < (m2 : Int) := by
          have h1 := hq
          simp at h1
          omega
        have HI := Lib.hid hI
        have HE := Lib.hid he
        cases hb : eqT x y with
        | true =>
          rw [hb] at hxy
          rw [hb, Bool.true_and] at he
          have HE := Lib.hid he
          clear hI he z1 z2 hx hy hb
          go_wp2
          go_region
          all_goals go_wp2
          all_goals (
            go_roundw
            case rel => exact ⟨i + 1, by go_num, ⟨HI.out.bel.drew, by have := HM.out; omega, HE.out⟩⟩
            case measure => simp [intOf]; omega)
        | false =>
          rw [hb] at hxy
          rw [hb, Bool.false_and] at he
          have HE := Lib.hid he
          clear hI he z1 z2 hx hy hb
          go_wp2
          go_region
          all_goals go_wp2
          all_goals go_ret
          all_goals exact ⟨by rw [HE.out]; rfl, HI.out.bel.drew⟩
      · have he := hI.eq
        rw [List.drop_eq_nil_of_le (by omega), List.drop_eq_nil_of_le (by have := HLEN.out; omega)] at he
        unfold sameS at he
        have HI := Lib.hid hI
        have HE := Lib.hid he
        clear hI he
        go_wp2
        go_ret
        exact ⟨by rw [HE.out]; rfl, HI.out.bel⟩
  · have hq : ((ns.length : Int) != (ms.length : Int)) = true := by simp; omega
    rw [sameS_len hlen]
    clear h h2 e1 e2 hlen
    go_enter Tryz.func18, Tryz.ntmps18
    go_wp2
    go_ret
    exact ⟨rfl, Below.refl _ _⟩

structure YI (w wr : World) (ns ms : List Tree) (i : Nat) (R : Bool) : Prop where
  bel : Below w.heap.size w wr
  le : i ≤ ns.length
  eq : R = sameTs (ns.drop i) (ms.drop i)
def SameC (t u : Tree) : Prop := ∀ {S S' : Nat → Prop} {N M : Nd} {w : World}, Rep S w t N → Rep S' w u M → Calls Tryz.prog 11 #[.agg (ncs N), .agg (ncs M)] w (PostR w (.bool (sameT t u)))
theorem PostR.mono {w w' : World} {v : Value} {e : Ending} (h : PostR w v e w') : e = .returned v ∧ Below w.heap.size w w' := h
set_option maxRecDepth 100000 in
set_option maxHeartbeats 4000000 in
theorem nodes_any {S S' : Nat → Prop} {w : World} {s s2 : Sl} {ns ms : List Tree} {xs ys : List Nd} (h : Row S w 27 5 s ns.length (ncells xs)) (hr : Reps S w ns xs) (h2 : Row S' w 27 5 s2 ms.length (ncells ys)) (hr2 : Reps S' w ms ys) (hl : ns.length ≤ 200000)
    (ih : ∀ (i : Nat) (t u : Tree), ns[i]? = some t → ms[i]? = some u → SameC t u) :
    Calls Tryz.prog 19 #[.slice s.a s.n s.c, .slice s2.a s2.n s2.c] w (PostR w (.bool (sameTs ns ms))) := by
  have e1 := h.n
  have e2 := h2.n
  rw [e1, e2]
  by_cases hlen : ns.length = ms.length
  · have hq : ((ns.length : Int) != (ms.length : Int)) = false := by rw [hlen]; simp
    have hst : YI w w ns ms 0 (sameTs ns ms) := ⟨Below.refl _ _, Nat.zero_le _, rfl⟩
    have HST := Lib.hid hst
    have HLEN := Lib.hid hlen
    obtain ⟨R, hR⟩ : ∃ R, sameTs ns ms = R := ⟨_, rfl⟩
    rw [hR] at HST ⊢
    have H1 := Lib.hid h
    have H2 := Lib.hid h2
    have HR1 := Lib.hid hr
    have HR2 := Lib.hid hr2
    have HIH := Lib.hid ih
    obtain ⟨m, hm⟩ : ∃ m, ns.length = m := ⟨_, rfl⟩
    obtain ⟨m2, hm2⟩ : ∃ m2, ms.length = m2 := ⟨_, rfl⟩
    rw [hm, hm2] at hq
    rw [hm, hm2]
    have hmi : (m : Int) ≤ 200000 := by omega
    have HM := Lib.hid hm
    clear hst hR h h2 hr hr2 hlen e1 e2 hm hm2 ih
    go_enter Tryz.func19, Tryz.ntmps19
    go_wp2
    go_loopw [5] (fun v wr => ∃ i : Nat, v = .int .i64 (i : Int) ∧ YI w wr ns ms i R) (fun v _ => m - (intOf v).toNat)
    case atStart => exact ⟨0, rfl, HST.out⟩
    case round =>
      obtain ⟨i, rfl, hI⟩ := hrel
      have hle := hI.le
      have hM := HM.out
      rw [hM] at hle
      by_cases hlt : i < m
      · have hii : (i : Int) < (m : Int) := by omega
        obtain ⟨t, ht⟩ : ∃ t, ns[i]? = some t := ⟨_, List.getElem?_eq_getElem (by omega)⟩
        obtain ⟨u, hu⟩ : ∃ u, ms[i]? = some u := ⟨_, List.getElem?_eq_getElem (by have := HLEN.out; omega)⟩
        obtain ⟨g1, cp1, q1, -, z1⟩ := (H1.out.below hI.bel).at (by omega)
        obtain ⟨g2, cp2, q2, -, z2⟩ := (H2.out.below hI.bel).at (by have := HLEN.out; omega)
        obtain ⟨x, hx, rx⟩ := (HR1.out.below hI.bel).at ht
        obtain ⟨y, hy, ry⟩ := (HR2.out.below hI.bel).at hu
        have l1 := run_ldNm (w := wr.drew) (b := g1) (o := i * 5) (t := x) (fun j v hj => z1 _ _ (ncells_at hx hj))
        have l2 := run_ldNm (w := wr.drew) (b := g2) (o := i * 5) (t := y) (fun j v hj => z2 _ _ (ncells_at hy hj))
        have cc := HIH.out i t u ht hu (Rep.keep (w := wr) (w' := wr.drew) (fun b hb hS => ⟨hS, rfl⟩) _ _ rx) (Rep.keep (w := wr) (w' := wr.drew) (fun b hb hS => ⟨hS, rfl⟩) _ _ ry)
        have he := hI.eq
        rw [sameTs_step ht hu] at he
        subst q1 q2
        have him2 : (i : Int) < (m2 : Int) := by
          have h1 := hq
          simp at h1
          omega
        have HI := Lib.hid hI
        have HBW := Lib.hid hI.bel
        cases hb : sameT t u with
        | true =>
          rw [hb] at cc
          rw [hb, Bool.true_and] at he
          have HE := Lib.hid he
          clear hI he z1 z2 hx hy hb rx ry ht hu
          go_wp2
          go_region_with (go_at_call 11; (with_reducible refine cc.mono ?_); intro e w2 hp; obtain ⟨rfl, hb2⟩ := hp; have HB2 := Lib.hid (HBW.out.trans (((Below.refl wr.heap.size wr).drew.trans hb2).mono HBW.out.size)); clear hb2)
          all_goals go_wp2
          all_goals (
            go_roundw
            case rel => exact ⟨i + 1, by go_num, ⟨HB2.out, by have := HM.out; omega, HE.out⟩⟩
            case measure => simp [intOf]; omega)
        | false =>
          rw [hb] at cc
          rw [hb, Bool.false_and] at he
          have HE := Lib.hid he
          clear hI he z1 z2 hx hy hb rx ry ht hu
          go_wp2
          go_region_with (go_at_call 11; (with_reducible refine cc.mono ?_); intro e w2 hp; obtain ⟨rfl, hb2⟩ := hp; have HB2 := Lib.hid (HBW.out.trans (((Below.refl wr.heap.size wr).drew.trans hb2).mono HBW.out.size)); clear hb2)
          all_goals go_wp2
          all_goals go_ret
          all_goals exact ⟨by rw [HE.out]; rfl, HB2.out⟩
      · have he := hI.eq
        rw [List.drop_eq_nil_of_le (by omega), List.drop_eq_nil_of_le (by have := HLEN.out; omega)] at he
        unfold sameTs at he
        have HI := Lib.hid hI
        have HE := Lib.hid he
        clear hI he
        go_wp2
        go_ret
        exact ⟨by rw [HE.out]; rfl, HI.out.bel⟩
  · have hq : ((ns.length : Int) != (ms.length : Int)) = true := by simp; omega
    rw [sameTs_len hlen]
    clear h h2 e1 e2 hlen ih hr hr2
    go_enter Tryz.func19, Tryz.ntmps19
    go_wp2
    go_ret
    exact ⟨rfl, Below.refl _ _⟩

/-! Lists in a tree are no longer than memory may be. -/
mutual
def Slim : Tree → Prop
  | .mk _ _ _ ns ks => ns.length ≤ 200000 ∧ ks.length ≤ 200000 ∧ Slims ks
def Slims : List Tree → Prop
  | [] => True
  | t :: ts => Slim t ∧ Slims ts
end
theorem Slims.at : ∀ {ts : List Tree} {i : Nat} {t : Tree}, Slims ts → ts[i]? = some t → Slim t
  | [], i, t, _, h => by simp at h
  | a :: l, 0, t, hs, h => by
    simp at h; subst h
    unfold Slims at hs
    exact hs.1
  | a :: l, i + 1, t, hs, h => by
    simp at h
    unfold Slims at hs
    exact Slims.at hs.2 h
set_option maxRecDepth 100000 in
set_option maxHeartbeats 4000000 in
theorem same_step {t u : Tree} (hsl : Slim t) (ih : ∀ (i : Nat) (a b : Tree), t.kids[i]? = some a → u.kids[i]? = some b → SameC a b) : SameC t u := by
  intro S S' N M w h h2
  obtain ⟨k, n, x, ns, ks⟩ := t
  obtain ⟨k', n', x', ns', ks'⟩ := u
  have hB : Below w.heap.size w ((w.alloc (.cells (ncs N) 27)).alloc (.cells (ncs M) 27)) := bl_alloc bel1
  have q1 := h.below hB
  have q2 := h2.below hB
  unfold Rep at q1 q2
  unfold Slim at hsl
  obtain ⟨rfl, rfl, rfl, a4, xs, a5, a6⟩ := q1
  obtain ⟨rfl, rfl, rfl, b4, ys, b5, b6⟩ := q2
  have bN := (Blk.new w (ncs N) 27).old (.cells (ncs M) 27)
  have bM := blk_newg (w := w.alloc (.cells (ncs N) 27)) (g := w.heap.size + 1) (cs := ncs M) (t := 27) (by simp)
  have n0 := (bN.cell 0).trans (ncs_0 N)
  have n1 := (bN.cell 1).trans (ncs_1 N)
  have n2 := (bN.cell 2).trans (ncs_2 N)
  have n3 := (bN.cell 3).trans (ncs_3 N)
  have n4 := (bN.cell 4).trans (ncs_4 N)
  have m0 := (bM.cell 0).trans (ncs_0 M)
  have m1 := (bM.cell 1).trans (ncs_1 M)
  have m2 := (bM.cell 2).trans (ncs_2 M)
  have m3 := (bM.cell 3).trans (ncs_3 M)
  have m4 := (bM.cell 4).trans (ncs_4 M)
  have ct := texts_any a4 b4 hsl.1
  have hxx : (N.text.toList == M.text.toList) = eqT N.text M.text := by unfold eqT; rw [ByteArray.toList_eq, ByteArray.toList_eq]
  have HBN := Lib.hid bN
  have HBM := Lib.hid bM
  have HA5 := Lib.hid a5
  have HA6 := Lib.hid a6
  have HB5 := Lib.hid b5
  have HB6 := Lib.hid b6
  have HIH := Lib.hid ih
  have HSL := Lib.hid hsl
  have HB := Lib.hid hB
  unfold sameT
  clear h h2 bN bM a4 a5 a6 b4 b5 b6 ih hsl hB
  cases c0 : N.kind == M.kind with
  | false =>
    go_enter Tryz.func11, Tryz.ntmps11
    go_wp2
    go_ret
    exact ⟨by simp, HB.out⟩
  | true =>
    cases c1 : N.num == M.num with
    | false =>
      go_enter Tryz.func11, Tryz.ntmps11
      go_wp2
      go_ret
      exact ⟨by simp, HB.out⟩
    | true =>
      cases c2 : eqT N.text M.text with
      | false =>
        rw [c2] at hxx
        go_enter Tryz.func11, Tryz.ntmps11
        go_wp2
        go_ret
        exact ⟨by simp, HB.out⟩
      | true =>
        rw [c2] at hxx
        cases c3 : sameS ns ns' with
        | false =>
          rw [c3] at ct
          go_enter Tryz.func11, Tryz.ntmps11
          go_wp2_with (go_at_call 18; (with_reducible refine ct.mono ?_); intro e w2 hp; obtain ⟨rfl, hb⟩ := hp; have HB2 := Lib.hid (HB.out.trans (hb.mono HB.out.size)); clear hb)
          go_ret
          exact ⟨by simp, HB2.out⟩
        | true =>
          rw [c3] at ct
          go_enter Tryz.func11, Tryz.ntmps11
          go_wp2_with (first | (go_at_call 18; (with_reducible refine ct.mono ?_); intro e w2 hp; obtain ⟨rfl, hb⟩ := hp; have u4 := ((HBN.out.call hb).cell 4).trans (ncs_4 N); have v4 := ((HBM.out.call hb).cell 4).trans (ncs_4 M); have cn := nodes_any (HA5.out.below hb) (HA6.out.below hb) (HB5.out.below hb) (HB6.out.below hb) HSL.out.2.1 HIH.out; have HB2 := Lib.hid (HB.out.trans (hb.mono HB.out.size)); clear hb) | (go_at_call 19; (with_reducible refine cn.mono ?_); intro e w3 hp; obtain ⟨rfl, hb⟩ := hp; have HB3 := Lib.hid (HB2.out.trans (hb.mono HB2.out.size)); clear hb))
          go_ret
          exact ⟨by simp, HB3.out⟩
theorem same_any : ∀ (k : Nat) {t u : Tree}, t.sz ≤ k → Slim t → SameC t u
  | 0, t, u, h, _ => by
    obtain ⟨a, b, c, d, e⟩ := t
    unfold Tree.sz at h
    omega
  | k + 1, t, u, h, hs => same_step hs fun i a b ha hb => by
    obtain ⟨p, q, r, s, ks⟩ := t
    unfold Slim at hs
    unfold Tree.sz at h
    exact same_any k (by have := szs_at ha; show a.sz ≤ k; have h2 : a.sz ≤ szs ks := this; omega) (hs.2.2.at ha)
end Go.Proofs.YtocebhaaamnfiaaGreatDoor.Pa

/-
  Parse of bytes; num; alive.
-/
namespace Go.Proofs.YtocebhaaamnfiaaGreatDoor.Pa
open Go Go.RowKit Go.Proofs.YtocebhaaamnfiaaGreatDoor.Lx Go.Proofs.YtocebhaaamnfiaaGreatDoor.Uni
set_option linter.unusedVariables false
set_option linter.unusedSimpArgs false

theorem bnext {w w1 w2 : World} (h1 : Below w.heap.size w w1) (h2 : Below w1.heap.size w1 w2) : Below w.heap.size w w2 := h1.trans (h2.mono h1.size)
/-- Parse of bytes that lie in memory. -/
theorem parse_bytes (b cap : Nat) (s : ByteArray) (w : World) (hX : Gp w) (hm : s.size ≤ 9223372036854775807) (hB : ∀ i, i < s.size → w.cell? ⟨b, i, none⟩ = some (.int .u8 (s.data.toList.getD i 0).toNat)) :
    Calls Tryz.prog 9 #[.slice (some ⟨b, 0, none⟩) s.size cap] w (ParsePost s w) := by
  refine parse_any _ _ _ s w hX (toks_any _ _ s _ (hX.fa.below bel1) (by have := hX.sz; simp; omega) ?_ hm)
  exact Lib.run_convert_whole (P := Tryz.prog) _ 22 5 9 Tryz.underlying22 Tryz.underlying5 Tryz.underlying9 _ 0 s (fun i hi => by
    rw [Nat.zero_add]
    have h := hB i hi
    rw [World.cell?_alloc_past _ _ _ (World.block_lt_of_cell? w _ h), h]
    rw [List.getD_eq_getElem?_getD, List.getElem?_eq_getElem (by rw [lsz]; exact hi)]
    rfl) cap
/-- Parse of a string that has been converted. -/
theorem parse_str (s : ByteArray) (w : World) (hX : Gp w) (hm : s.size ≤ 9223372036854775807) :
    Calls Tryz.prog 9 #[.slice (some ⟨w.heap.size, 0, none⟩) s.size (grownCap w s.size 0 5)] (Lib.bytesWorld w 5 s) fun e w' => ∃ N, e = .returned (.tuple #[.agg (ncs N), .int .i64 (parseF s).2.1, .int .i64 (parseF s).2.2]) ∧ Rep (w.heap.size ≤ ·) w' (parseF s).1 N ∧ Below w.heap.size w w' := by
  refine (parse_bytes _ _ s _ (hX.below (bw_below w s)) hm (fun i hi => Lib.bytesWorld_cell w _ s i hi)).mono ?_
  rintro e w' ⟨N, h1, h2, h3⟩
  rw [Lib.bytesWorld_size] at h2 h3
  exact ⟨N, h1, Rep.keep (fun b hb hS => ⟨by have hS' : w.heap.size + 1 ≤ b := hS; omega, rfl⟩) _ _ h2, (bw_below w s).trans (h3.mono (by omega))⟩
theorem num_any (n : Int) (w : World) : Calls Tryz.prog 10 #[.int .i64 n] w fun e w' => e = .returned (.int .i64 n) ∧ w = w' := by
  go_enter Tryz.func10, Tryz.ntmps10
  go_wp2
  go_ret
  exact ⟨rfl, rfl⟩
/-- The one kid of a node. -/
theorem Rep.kid1 {S : Nat → Prop} {w : World} {k n : Int} {t : ByteArray} {ns : List ByteArray} {T : Tree} {N : Nd} (h : Rep S w (.mk k n t ns [T]) N) : ∃ g c x, N.kids = ⟨some ⟨g, 0, none⟩, 1, c⟩ ∧ 1 ≤ c ∧ Rep S w T x ∧ w.cell? ⟨g, 0, none⟩ = some (.int .i64 x.kind) ∧ w.cell? ⟨g, 2, none⟩ = some (.string x.text) ∧ w.cell? ⟨g, 4, none⟩ = some (.slice x.kids.a x.kids.n x.kids.c) := by
  obtain ⟨xs, h1, h2⟩ := h.ks
  obtain ⟨g, c, e, hc, hz⟩ := h1.at (by simp [Tree.kids])
  obtain ⟨x, hx, hr⟩ := h2.at (i := 0) (t := T) rfl
  have e1 : N.kids = ⟨some ⟨g, 0, none⟩, 1, c⟩ := e
  refine ⟨g, c, x, e1, hc, hr, ?_, ?_, ?_⟩
  · exact hz 0 _ (ncells_at hx (j := 0) (by simpa using ncs_0 x))
  · exact hz 2 _ (ncells_at hx (j := 2) (by simpa using ncs_2 x))
  · exact hz 4 _ (ncells_at hx (j := 4) (by simpa using ncs_4 x))
theorem Rep.text {S : Nat → Prop} {w : World} {T : Tree} {N : Nd} (h : Rep S w T N) : N.text = T.text := by
  cases T
  unfold Rep at h
  exact h.2.2.1

def exS : ByteArray := ⟨#[97, 59]⟩
def exT : Tree := node 44 [node 33 [.mk 8 0 ⟨#[97]⟩ [] []]]
theorem ex_parse : parseF exS = (exT, 0, 0) := by kernel_rfl
abbrev exC : Array Value := #[.int .u8 97, .int .u8 59]
attribute [local go_sem ↓] ldK stK alK bdK bsK ldN stN alN bdN bsN
attribute [local irreducible] kcs ncs ncells
attribute [local go_sem] run_alN run_stNg run_ldNg run_bdN0
set_option maxRecDepth 100000 in
set_option maxHeartbeats 4000000 in
theorem alive_any (w : World) (hX : Gp w) : Calls Tryz.prog 8 #[] w fun e w' => e = .returned (.bool true) ∧ Below w.heap.size w w' := by
  have hb : Below w.heap.size w (w.alloc (.cells exC 5 (2, 3))) := bel1
  have ht := parse_bytes w.heap.size 2 exS (w.alloc (.cells exC 5 (2, 3))) (hX.below hb) (by decide) (fun i hi => by
    have hi2 : i < 2 := hi
    have hg : (w.alloc (.cells exC 5 (2, 3))).heap[w.heap.size]? = some (.cells exC 5 (2, 3)) := heap_alloc_new w _
    rcases (by omega : i = 0 ∨ i = 1) with rfl | rfl
    · simp only [World.cell?, hg]; rfl
    · simp only [World.cell?, hg]; rfl)
  unfold ParsePost at ht
  rw [ex_parse, show exS.size = 2 from rfl] at ht
  have hk := Lib.run_convert_bytes_const (P := Tryz.prog) w 22 5 exC 2 2 Tryz.underlying22 Tryz.underlying5
  have hk2 : exC.size = 2 := rfl
  rw [hk2] at hk
  have HB := Lib.hid hb
  clear hb hX hk2
  go_enter Tryz.func8, Tryz.ntmps8
  go_wp2_with (go_at_call 9; (with_reducible refine ht.mono ?_); rintro e w1 ⟨N, rfl, hr, hb1⟩; refine Hid.out ?_)
  refine Lib.hid ?_
  have k0 : N.kind = 44 := hr.kind
  obtain ⟨g1, p1, x1, e1, q1, r1, z1, -, z3⟩ := hr.kid1
  have k1 : x1.kind = 33 := r1.kind
  obtain ⟨g2, p2, x2, e2, q2, r2, -, y2, -⟩ := r1.kid1
  have k2 : x2.text = ⟨#[97]⟩ := r2.text
  rw [e2] at z3
  rw [k1] at z1
  rw [k2] at y2
  have B1 := Blk.new w1 (ncs N) 27
  have b0 := (B1.cell 0).trans (ncs_0 N)
  have b4 := (B1.cell 4).trans (ncs_4 N)
  rw [k0] at b0
  rw [e1] at b4
  have g1l := World.block_lt_of_cell? w1 _ z1
  have g2l := World.block_lt_of_cell? w1 _ y2
  have z1' : (w1.alloc (.cells (ncs N) 27)).cell? ⟨g1, 0, none⟩ = some (.int .i64 33) := by rw [World.cell?_alloc_past _ _ _ g1l]; exact z1
  have z3' : (w1.alloc (.cells (ncs N) 27)).cell? ⟨g1, 4, none⟩ = some (.slice (some ⟨g2, 0, none⟩) 1 p2) := by rw [World.cell?_alloc_past _ _ _ g1l]; exact z3
  have y2' : (w1.alloc (.cells (ncs N) 27)).cell? ⟨g2, 2, none⟩ = some (.string ⟨#[97]⟩) := by rw [World.cell?_alloc_past _ _ _ g2l]; exact y2
  have HB1 := Lib.hid hb1
  clear hr r1 r2 e1 e2 k0 k1 k2 B1 z1 z3 y2 hb1 ht
  go_wp2_with (go_at_call 10; (with_reducible refine (num_any _ _).mono ?_); rintro e w2 ⟨rfl, rfl⟩)
  go_ret
  exact ⟨rfl, HB.out.trans ((HB1.out.trans (bel1.mono HB1.out.size)).mono (by simp))⟩
end Go.Proofs.YtocebhaaamnfiaaGreatDoor.Pa
