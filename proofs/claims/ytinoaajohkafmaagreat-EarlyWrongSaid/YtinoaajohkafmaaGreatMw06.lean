/-
  Texts of this seat in build order: PrEx, PrKid, EyNm, EyDup.
-/
import Derived.Test.YtinoaajohkafmaaGreatMw05
import Derived.Test.YtinoaajohkafmaaGreatMw03
import Derived.Maps.OwnSet
import Derived.Maps.AppendAt
import Derived.Deep.LoopGhost
import Derived.Deep.RegionLaw
/-
  The reference's expression, kind by kind.
-/
namespace Go.Proofs.YtinoaajohkafmaaGreat.Pr
open Go Go.RowKit Go.Proofs.YtinoaajohkafmaaGreat.Pa Go.Proofs.YtinoaajohkafmaaGreat.Uni
open Go.Proofs.YtinoaajohkafmaaGreat.Lx
set_option linter.unusedVariables false
set_option linter.unusedSimpArgs false
mutual
def Str : Tree → Prop
  | .mk k n t ns ks => t.size ≤ 1048576 ∧ (∀ x ∈ ns, x.size ≤ 1048576) ∧ Strs ks
def Strs : List Tree → Prop
  | [] => True
  | t :: ts => Str t ∧ Strs ts
end
theorem Str.of {k n : Int} {t : ByteArray} {ns : List ByteArray} {ks : List Tree} (h : Str (.mk k n t ns ks)) : t.size ≤ 1048576 ∧ (∀ x ∈ ns, x.size ≤ 1048576) ∧ Strs ks := by unfold Str at h; exact h
theorem Strs.at : ∀ {ts : List Tree} {i : Nat} {t : Tree}, Strs ts → ts[i]? = some t → Str t
  | [], i, t, _, h => by simp at h
  | a :: l, 0, t, hs, h => by
    simp at h; subst h
    unfold Strs at hs
    exact hs.1
  | a :: l, i + 1, t, hs, h => by
    simp at h
    unfold Strs at hs
    exact Strs.at hs.2 h
end Go.Proofs.YtinoaajohkafmaaGreat.Pr

/-
  A node's kids, in memory.
-/
namespace Go.Proofs.YtinoaajohkafmaaGreat.Pr
open Go Go.RowKit Go.Proofs.YtinoaajohkafmaaGreat.Pa Go.Proofs.YtinoaajohkafmaaGreat.Uni
open Go.Proofs.YtinoaajohkafmaaGreat.Lx
set_option linter.unusedVariables false
set_option linter.unusedSimpArgs false
theorem nd_start {k n : Int} {tx : ByteArray} {ns : List ByteArray} {ks : List Tree} {N : Nd} {w : World} (hr : Rd w (.mk k n tx ns ks) N) :
    Blk (w.alloc (.cells (ncs N) 25)) w.heap.size (ncs N) 25 ∧
    (w.alloc (.cells (ncs N) 25)).cell? ⟨w.heap.size, 0, none⟩ = some (.int .i64 N.kind) ∧
    (w.alloc (.cells (ncs N) 25)).cell? ⟨w.heap.size, 1, none⟩ = some (.int .i64 N.num) ∧
    (w.alloc (.cells (ncs N) 25)).cell? ⟨w.heap.size, 2, none⟩ = some (.string N.text) ∧
    (w.alloc (.cells (ncs N) 25)).cell? ⟨w.heap.size, 3, none⟩ = some (.slice N.names.a N.names.n N.names.c) ∧
    (w.alloc (.cells (ncs N) 25)).cell? ⟨w.heap.size, 4, none⟩ = some (.slice N.kids.a N.kids.n N.kids.c) ∧
    Hid (Below w.heap.size w (w.alloc (.cells (ncs N) 25))) ∧
    N.kind = k ∧ N.num = n ∧ N.text = tx ∧ N.names.n = ns.length ∧ N.kids.n = ks.length := by
  have bN := Blk.new w (ncs N) 25
  unfold Rd at hr
  obtain ⟨h1, h2, h3, h4, xs, h5, h6⟩ := hr
  exact ⟨bN, (bN.cell 0).trans (ncs_0 N), (bN.cell 1).trans (ncs_1 N), (bN.cell 2).trans (ncs_2 N), (bN.cell 3).trans (ncs_3 N), (bN.cell 4).trans (ncs_4 N), Lib.hid bel1, h1, h2, h3, h4.1, by rw [h5.1, Rds.len h6]⟩
structure KidAt (w : World) (b o : Nat) (x : Nd) : Prop where
  lt : b < w.heap.size
  at_ : NdAt w b o x
theorem KidAt.ld {w W : World} {b o : Nat} {x : Nd} (h : KidAt w b o x) (hb : Below w.heap.size w W) : (Ld 25 (.pointer (some ⟨b, o, none⟩))).run Tryz.prog W = .ok (.agg (ncs x)) W := (h.at_.kept (kept_below hb) h.lt).ld
theorem KidAt.kind {w W : World} {b o : Nat} {x : Nd} (h : KidAt w b o x) (hb : Below w.heap.size w W) : W.cell? ⟨b, o, none⟩ = some (.int .i64 x.kind) := (h.at_.kept (kept_below hb) h.lt) 0 _ rfl
theorem KidAt.num {w W : World} {b o : Nat} {x : Nd} (h : KidAt w b o x) (hb : Below w.heap.size w W) : W.cell? ⟨b, o + 1, none⟩ = some (.int .i64 x.num) := (h.at_.kept (kept_below hb) h.lt) 1 _ rfl
theorem KidAt.text {w W : World} {b o : Nat} {x : Nd} (h : KidAt w b o x) (hb : Below w.heap.size w W) : W.cell? ⟨b, o + 2, none⟩ = some (.string x.text) := (h.at_.kept (kept_below hb) h.lt) 2 _ rfl
theorem KidAt.names {w W : World} {b o : Nat} {x : Nd} (h : KidAt w b o x) (hb : Below w.heap.size w W) : W.cell? ⟨b, o + 3, none⟩ = some (.slice x.names.a x.names.n x.names.c) := (h.at_.kept (kept_below hb) h.lt) 3 _ rfl
theorem KidAt.kids {w W : World} {b o : Nat} {x : Nd} (h : KidAt w b o x) (hb : Below w.heap.size w W) : W.cell? ⟨b, o + 4, none⟩ = some (.slice x.kids.a x.kids.n x.kids.c) := (h.at_.kept (kept_below hb) h.lt) 4 _ rfl
theorem rd_text {w : World} {t : Tree} {x : Nd} (h : Rd w t x) : x.text = t.text := by
  cases t
  unfold Rd at h
  exact h.2.2.1
theorem rd_kind {w : World} {t : Tree} {x : Nd} (h : Rd w t x) : x.kind = t.kind := by
  cases t
  unfold Rd at h
  exact h.1
theorem rd_num {w : World} {t : Tree} {x : Nd} (h : Rd w t x) : x.num = t.num := by
  cases t
  unfold Rd at h
  exact h.2.1
theorem rd_names {w : World} {t : Tree} {x : Nd} (h : Rd w t x) : x.names.n = t.names.length := by
  cases t
  unfold Rd at h
  exact h.2.2.2.1.1
end Go.Proofs.YtinoaajohkafmaaGreat.Pr

/-
  Lists of names of a call's own; sets of names; the program's hasTwice, the reference's has.
-/
namespace Go.Proofs.YtinoaajohkafmaaGreat.Ey
open Go Go.RowKit Go.Maps Go.Proofs.YtinoaajohkafmaaGreat.Pa Go.Proofs.YtinoaajohkafmaaGreat.Pr
open Go.Proofs.YtinoaajohkafmaaGreat.Lx
set_option linter.unusedVariables false
set_option linter.unusedSimpArgs false
def Nm (B : Nat) (w : World) (v : Value) (l : List ByteArray) : Prop := w.ownsRow B 9 1 v l.length (l.map Value.string)
theorem Nm.shape {B : Nat} {w : World} {v : Value} {l : List ByteArray} (h : Nm B w v l) : ∃ a c, v = .slice a l.length c := by
  rcases h.2 with ⟨rfl, h1⟩ | ⟨g, cap, cur, rfl, _⟩
  · exact ⟨none, 0, by rw [h1]⟩
  · exact ⟨_, _, rfl⟩
theorem Nm.txs {B : Nat} {w : World} {a : Option Addr} {c : Nat} {l : List ByteArray} (h : Nm B w (.slice a l.length c) l) : Txs w ⟨a, l.length, c⟩ l := by
  have h' := h
  unfold Nm at h'
  rcases h.2 with ⟨h0, h1⟩ | ⟨g, cap, cur, h1, h2, h3, h4, h5, -⟩
  · simp only [Value.slice.injEq] at h0
    obtain ⟨rfl, -, rfl⟩ := h0
    exact ⟨rfl, by omega, Nat.zero_le _, fun j x hx => by have := (List.getElem?_eq_some_iff.1 hx).1; omega⟩
  · simp only [Value.slice.injEq] at h1
    obtain ⟨rfl, -, rfl⟩ := h1
    refine ⟨rfl, h4, h5, fun j x hx => ⟨g, 0, rfl, (Array.getElem?_eq_some_iff.1 h3).1, ?_⟩⟩
    have hj := (List.getElem?_eq_some_iff.1 hx).1
    rw [Nat.zero_add, h'.cellAt j (by omega), List.getElem?_map, hx]
    rfl
theorem infoN : (Tryz.prog.info? 9).map (fun i => (i.zero, i.size, i.bytes)) = some (some (.string ⟨#[]⟩), 1, 16) := by kernel_rfl
theorem own_succ {W : World} {base : Nat} {e : TypeId} {size : Nat} {v : Value} {k : Nat} {xs : List Value} (h : W.ownsRow base e size v (k + 1) xs) : ∃ g cap, v = .slice (some ⟨g, 0, none⟩) (k + 1) cap := by
  rcases h.2 with ⟨_, h0⟩ | ⟨g, cap, cur, rfl, _⟩
  · omega
  · exact ⟨g, cap, rfl⟩
theorem nm_app {B : Nat} {w : World} {v : Value} {l : List ByteArray} (h : Nm B w v l) (hB : B ≤ w.heap.size) (hl : l.length ≤ 1000000) (s : ByteArray) :
    ∃ g c w', (Builtin.append_ #[22, 22] 22 #[v, .slice (some ⟨w.heap.size, 0, none⟩) 1 1]).run Tryz.prog (w.alloc (.cells #[.string s] 9)) = .ok (.slice (some ⟨g, 0, none⟩) (l.length + 1) c) w' ∧ Nm B w' (.slice (some ⟨g, 0, none⟩) (l.length + 1) c) (l ++ [s]) ∧ Below B w w' := by
  obtain ⟨i, hi, hz0, hz1, hz2⟩ := info_parts infoN
  have h' : (w.alloc (.cells #[.string s] 9)).ownsRow B 9 1 v l.length (l.map Value.string) := World.ownsRow.alloc h _
  obtain ⟨v', w', hrun, hown, hg, _, hat⟩ := run_append_own_at (P := Tryz.prog) (w.alloc (.cells #[.string s] 9)) B 22 22 9 i (.string ⟨#[]⟩) 1 16 Tryz.underlying22 hi hz0 hz1 hz2 rfl (by decide) v l.length _ h' ⟨w.heap.size, 0, none⟩ 1 1 [.string s] rfl (cell_one_new w _ _) (by simp [Value.oneCell']) (by unfold maxLen; omega) (by omega) (by simp; omega)
  obtain ⟨g, c, rfl⟩ := own_succ hown
  refine ⟨g, c, w', hrun, ?_, (((Below.refl B w).alloc hB _).grown hg (by simp; omega) (fun k hk => (World.ownsRow.lt h k hk).1))⟩
  unfold Nm
  simpa using hown
theorem run_app_none {P : Program} {w : World} (base : Nat) {t ty e : TypeId} {i : TypeInfo} {size : Nat} (ht : P.underlying t = some (.slice e)) (hi : P.info? e = some i) (v : Value) (n : Nat) (xs : List Value) (hown : w.ownsRow base e size v n xs) (c : Nat) :
    (Builtin.append_ #[t, t] ty #[v, .slice none 0 c]).run P w = .ok v w := by
  rcases hown.2 with ⟨rfl, rfl⟩ | ⟨g, cap, cur, rfl, _, _, hnc, _⟩
  · simp [Builtin.append_, run_underlying ht, sizeOf, typeInfo, hi, Builtin.lenOf, Builtin.firstCells]
  · simp [Builtin.append_, run_underlying ht, sizeOf, typeInfo, hi, Builtin.lenOf, Builtin.firstCells, hnc, storeCells]
theorem nm_src {B : Nat} {w : World} {v : Value} {l : List ByteArray} (h : Nm B w v l) (hB : B ≤ w.heap.size) (hl : l.length ≤ 1000000) {s : Sl} {ns : List ByteArray} (hs : Txs w s ns) (hn : ns.length ≤ 1000000) :
    ∃ v' w', (Builtin.append_ #[22, 22] 22 #[v, .slice s.a s.n s.c]).run Tryz.prog w = .ok v' w' ∧ Nm B w' v' (l ++ ns) ∧ Below B w w' := by
  obtain ⟨i, hi, hz0, hz1, hz2⟩ := info_parts infoN
  obtain ⟨a, n, c⟩ := s
  obtain ⟨h1, h2, h3, h4⟩ := hs
  simp only at h1 h2 h3 h4
  subst h1
  cases a with
  | none =>
    have hns : ns = [] := by
      cases ns with
      | nil => rfl
      | cons x r => obtain ⟨b, o, e, _⟩ := h4 0 x rfl; cases e
    subst hns
    exact ⟨v, w, run_app_none (w := w) B Tryz.underlying22 hi v l.length _ h c, by rw [List.append_nil]; exact h, Below.refl _ _⟩
  | some ad =>
    obtain ⟨v', w', hrun, hown, hg, _, hat⟩ := run_append_own_at (P := Tryz.prog) w B 22 22 9 i (.string ⟨#[]⟩) 1 16 Tryz.underlying22 hi hz0 hz1 hz2 rfl (by decide) v l.length _ h ad ns.length c (ns.map Value.string) (by simp) (fun j u hu => by
      rw [List.getElem?_map] at hu
      obtain ⟨x, hx, rfl⟩ := Option.map_eq_some_iff.1 hu
      obtain ⟨b, o, e, hb, hc⟩ := h4 j x hx
      cases e
      have e2 : (⟨b, o, none⟩ : Addr).add j = ⟨b, o + j, none⟩ := by unfold Addr.add; split <;> simp_all
      rw [e2]
      exact hc) (by simp [Value.oneCell']) (by unfold maxLen; omega) (by omega) hB
    refine ⟨v', w', hrun, ?_, (Below.refl B w).grown hg hB (fun k hk => (World.ownsRow.lt h k hk).1)⟩
    unfold Nm
    simpa using hown
def Fine (s : ByteArray) : Prop := s.size ≤ 1048576
def klit (s : ByteArray) : Lit := .string s.data.toList
theorem skeyed : Keyed Tryz.prog 9 := string_keyed Tryz.underlying9
theorem key_of {s : ByteArray} (h : Fine s) : keyOf Tryz.prog 9 (.string s) = some (klit s) := by
  have h : s.size ≤ maxLen := by unfold Fine at h; unfold maxLen; omega
  simp [keyOf, klit, mapKey, Tryz.underlying9, h]
theorem klit_inj {s t : ByteArray} (h : klit s = klit t) : s = t := by
  unfold klit at h
  cases s; cases t
  simp at h
  simp [h]
theorem key_lit {k : ByteArray} (hk : Fine k) : WideAt.IsKeyLit (klit k) := skeyed.key (key_of hk)
def SetIs (w : World) (m n : Nat) (l : List ByteArray) : Prop := ∃ D, w.ownsMap (H := Unit) Tryz.prog 9 unitElem m n D ∧ ∀ k, Fine k → Maps.has D (klit k) = hasB l k
theorem SetIs.made (w : World) : SetIs (w.alloc (.map #[] 0)) w.heap.size 0 [] := ⟨_, World.ownsMap_made _ _ _ _, fun k _ => rfl⟩
theorem SetIs.old {w : World} {m n : Nat} {l : List ByteArray} (h : SetIs w m n l) (o : Obj) : SetIs (w.alloc o) m n l := by
  obtain ⟨D, h1, h2⟩ := h
  exact ⟨D, h1.alloc o, h2⟩
theorem zeroU (w : World) : (zeroValue 85).run Tryz.prog w = .ok (.agg #[]) w := by kernel_rfl
theorem SetIs.look {w : World} {m n : Nat} {l : List ByteArray} (h : SetIs w m n l) {s : ByteArray} (hs : Fine s) : (Instr.lookup 84 (.map (some m)) (.string s) true).run Tryz.prog w = .ok (.tuple #[.agg #[], .bool (hasB l s)]) w := by
  obtain ⟨D, hd, hf⟩ := h
  obtain ⟨v, ps, hrun, hv⟩ := hd.look_ok (t := 84) (e := 85) skeyed Tryz.underlying84 (zeroU w) unitElem_mk (key_of hs)
  rw [(unitElem_inv hv).1, hf s hs] at hrun
  exact hrun
theorem SetIs.store {w : World} {m n : Nat} {l : List ByteArray} (h : SetIs w m n l) (hn : n ≤ 1000000) {s : ByteArray} (hs : Fine s) : ∃ w', (Instr.mapUpdate 84 (.map (some m)) (.string s) (.agg #[])).run Tryz.prog w = .ok () w' ∧ SetIs w' m (n + 1) (l ++ [s]) ∧ w.mapTurned w' m := by
  obtain ⟨D, hd, hf⟩ := h
  obtain ⟨w', h1, h2, h3⟩ := hd.store (t := 84) (e := 85) skeyed Tryz.underlying84 (by unfold maxLen; omega) (key_of hs) unitElem_mk
  refine ⟨w', h1, ⟨_, h2, fun k hk => ?_⟩, h3⟩
  rw [hasB_snoc]
  by_cases hks : k = s
  · subst hks
    rw [has_put_same hd.isMap (key_lit hk)]
    simp
  · rw [has_put_other (fun e => hks (klit_inj e)), hf k hk]
    have : ¬ s = k := fun e => hks e.symm
    simp [this]
end Go.Proofs.YtinoaajohkafmaaGreat.Ey

/-
  The program's hasTwice; the reference's has.
-/
namespace Go.Proofs.YtinoaajohkafmaaGreat.Ey
open Go Go.RowKit Go.Maps Go.Proofs.YtinoaajohkafmaaGreat.Pa Go.Proofs.YtinoaajohkafmaaGreat.Pr
open Go.Proofs.YtinoaajohkafmaaGreat.Lx
set_option linter.unusedVariables false
set_option linter.unusedSimpArgs false
theorem ne_list {a b : ByteArray} (h : ¬ a = b) : (a.toList == b.toList) = false := by
  refine beq_eq_false_iff_ne.2 fun e => h (Go.WideShapes.bytes_inj ?_)
  rwa [ByteArray.toList_eq, ByteArray.toList_eq] at e
theorem hasB_step {l : List ByteArray} {k : Nat} {a : ByteArray} (h : l[k]? = some a) (s : ByteArray) : hasB (l.drop k) s = (decide (a = s) || hasB (l.drop (k + 1)) s) := by
  obtain ⟨hl, rfl⟩ := List.getElem?_eq_some_iff.1 h
  rw [List.drop_eq_getElem_cons hl]
  rfl
theorem meas_w {n k : Nat} {z : Int} (hz : wrap64 z = (k : Int) + 1) (h : k < n) : n - (intOf (.int .i64 (wrap64 z))).toNat < n - (intOf (.int .i64 (k : Int))).toNat := by
  rw [hz]
  show n - ((k : Int) + 1).toNat < n - ((k : Int)).toNat
  omega
set_option maxRecDepth 100000 in
set_option maxHeartbeats 2000000 in
theorem has_names {a : Option Addr} {c : Nat} {l : List ByteArray} {w : World} (h : Txs w ⟨a, l.length, c⟩ l) (hl : l.length ≤ 2000000) (s : ByteArray) : Calls Tryz.prog 53 #[.slice a l.length c, .string s] w fun e w' => e = .returned (.bool (hasB l s)) ∧ w' = w := by
  obtain ⟨n, hn⟩ : ∃ n, l.length = n := ⟨_, rfl⟩
  obtain ⟨R, hR⟩ : ∃ R, hasB l s = R := ⟨_, rfl⟩
  rw [hR]
  have HR : Hid (hasB (l.drop 0) s = R) := Lib.hid hR
  have H := Lib.hid h
  rw [hn] at hl ⊢
  have HNN := Lib.hid hn
  have HL := Lib.hid hl
  clear h hn hR hl
  go_enter Tryz.func53, Tryz.ntmps53
  go_wp2
  go_loopw [5] (fun v wr => wr = w ∧ ∃ k : Nat, k ≤ n ∧ v = .int .i64 k ∧ hasB (l.drop k) s = R) (fun v _ => n - (intOf v).toNat)
  case atStart => exact ⟨rfl, 0, Nat.zero_le _, rfl, HR.out⟩
  case round =>
    obtain ⟨rfl, k, hk, rfl, hR⟩ := hrel
    by_cases hlt : k < n
    · obtain ⟨x, hx⟩ : ∃ x, l[k]? = some x := ⟨l[k]'(by have := HNN.out; omega), List.getElem?_eq_getElem _⟩
      obtain ⟨b, o, e1, hb, hc⟩ := H.out.2.2.2 k x hx
      simp only at e1
      subst e1
      rw [hasB_step hx] at hR
      have t1 : (k : Int) < n := by omega
      have t2 : decide ((n : Int) ≤ k) = false := by simp; omega
      have hw : wrap64 ((k : Int) + 1) = k + 1 := by unfold wrap64; have := HL.out; omega
      have HLT := Lib.hid hlt
      by_cases hnm : x = s
      · rw [decide_eq_true hnm, Bool.true_or] at hR
        subst hR
        have hbb : (x.toList == s.toList) = true := by rw [hnm]; simp
        clear hx hk hw hnm hb
        go_wp2
        go_ret
        exact ⟨rfl, rfl⟩
      · rw [decide_eq_false hnm, Bool.false_or] at hR
        have hbb := ne_list hnm
        have HR2 := Lib.hid hR
        clear hx hk hnm hR hb
        go_wp2
        go_roundw
        · exact ⟨trivial, k + 1, HLT.out, by congr 1, HR2.out⟩
        · exact meas_w hw HLT.out
    · obtain rfl : k = n := by omega
      have e : l.drop k = [] := List.drop_eq_nil_of_le (by have := HNN.out; omega)
      rw [e] at hR
      replace hR : false = R := hR
      subst hR
      have t2 : decide ((k : Int) < k) = false := by simp
      clear hk hlt e
      go_wp2
      go_ret
      exact ⟨rfl, rfl⟩
theorem dupF_step {l : List ByteArray} {k : Nat} {a : ByteArray} (h : l[k]? = some a) : dupF (l.take k) (l.drop k) = (hasB (l.take k) a || dupF (l.take (k + 1)) (l.drop (k + 1))) := by
  obtain ⟨hl, rfl⟩ := List.getElem?_eq_some_iff.1 h
  rw [List.drop_eq_getElem_cons hl, dupF, List.take_succ_eq_append_getElem hl]
structure TwI (w : World) (l : List ByteArray) (R : Bool) (k : Nat) (wr : World) : Prop where
  set : SetIs wr w.heap.size k (l.take k)
  bel : Below w.heap.size w wr
  eq : dupF (l.take k) (l.drop k) = R
theorem turned_bel {B : Nat} {a w w' : World} {m : Nat} (h : Below B a w) (k : w.mapTurned w' m) (hm : B ≤ m) (hB : B ≤ w.heap.size) : Below B a w' := h.grown k.grown hB (fun j hj => by cases hj; exact hm)
def stU (p v : Value) : Sem Unit := Instr.storeAt 85 p v
def alU : Sem Value := Instr.alloc 85 true (.tuple #[])
theorem stU_eq (p v : Value) : Instr.storeAt 85 p v = stU p v := (rfl)
theorem alU_eq : Instr.alloc 85 true (.tuple #[]) = alU := (rfl)
theorem run_alU (w : World) : alU.run Tryz.prog w = .ok (.pointer (some ⟨w.heap.size, 0, none⟩)) (w.alloc (.cells #[] 85)) := by kernel_rfl
theorem run_stU (w : World) : (stU (.pointer (some ⟨w.heap.size, 0, none⟩)) (.agg #[])).run Tryz.prog (w.alloc (.cells #[] 85)) = .ok () (w.alloc (.cells #[] 85)) := by
  have h := run_storeVar_row (P := Tryz.prog) (w.alloc (.cells #[] 85)) w.heap.size 85 85 #[] #[] (Blk.new w _ _) (by kernel_rfl) rfl (by simp)
  unfold stU
  simp only [Instr.storeAt, Instr.sureAddr, Sem.run_bind, Sem.run_pure, Result.andThen_ok, h, setRow_new]
theorem run_bdU (w : World) : (Instr.build 85 #[]).run Tryz.prog w = .ok (.agg #[]) w := run_build w _ _ _ (by kernel_rfl)
attribute [local go_sem ↓] stU_eq alU_eq
attribute [local go_sem] run_alU run_stU run_bdU
set_option maxRecDepth 100000 in
set_option maxHeartbeats 2000000 in
theorem twice_any {B : Nat} {a : Option Addr} {c : Nat} {l : List ByteArray} {w : World} (h : Nm B w (.slice a l.length c) l) (hl : l.length ≤ 1000000) (hf : ∀ x ∈ l, Fine x) : Calls Tryz.prog 27 #[.slice a l.length c] w (PostR w (.bool (dupF [] l))) := by
  have ht := h.txs
  obtain ⟨n, hn⟩ : ∃ n, l.length = n := ⟨_, rfl⟩
  obtain ⟨R, hR⟩ : ∃ R, dupF [] l = R := ⟨_, rfl⟩
  rw [hR]
  obtain ⟨W1, hW1⟩ : ∃ W1, w.alloc (.map #[] 0) = W1 := ⟨_, rfl⟩
  have hst : TwI w l R 0 W1 := by
    rw [← hW1]
    exact ⟨SetIs.made w, (Below.refl _ w).alloc (Nat.le_refl _) _, hR⟩
  have HST := Lib.hid hst
  have HT := Lib.hid ht
  rw [hn] at hl ⊢
  have HNN := Lib.hid hn
  have HL := Lib.hid hl
  have HF := Lib.hid hf
  have hmk : (Instr.makeMap 84 none).run Tryz.prog w = .ok (.map (some w.heap.size)) W1 := by rw [← hW1]; exact run_makeMap _ w
  clear h ht hn hR hl hst hf hW1
  go_enter Tryz.func27, Tryz.ntmps27
  go_wp2
  go_loopw [11] (fun v wr => ∃ k : Nat, k ≤ n ∧ v = .int .i64 k ∧ TwI w l R k wr) (fun v _ => n - (intOf v).toNat)
  case atStart => exact ⟨0, Nat.zero_le _, rfl, HST.out⟩
  case round =>
    obtain ⟨k, hk, rfl, hI⟩ := hrel
    by_cases hlt : k < n
    · obtain ⟨x, hx⟩ : ∃ x, l[k]? = some x := ⟨l[k]'(by have := HNN.out; omega), List.getElem?_eq_getElem _⟩
      obtain ⟨b, o, e1, hb, hc⟩ := HT.out.2.2.2 k x hx
      simp only at e1
      subst e1
      have hfx := HF.out x (List.mem_of_getElem? hx)
      have hc' : wr.cell? ⟨b, o + k, none⟩ = some (.string x) := by rw [hI.bel.cell (p := ⟨b, o + k, none⟩) hb]; exact hc
      have hR := hI.eq
      rw [dupF_step hx] at hR
      have t1 : (k : Int) < n := by omega
      have t2 : decide ((n : Int) ≤ k) = false := by simp; omega
      have hw : wrap64 ((k : Int) + 1) = k + 1 := by unfold wrap64; have := HL.out; omega
      have hlk := hI.set.look hfx
      have HLT := Lib.hid hlt
      have s0 := hI.bel.size
      cases hh : hasB (l.take k) x with
      | true =>
        rw [hh, Bool.true_or] at hR
        subst hR
        rw [hh] at hlk
        have HE := Lib.hid (hI.bel.alloc s0 (.cells #[] 85))
        clear hx hk hw hb hI hfx hh hc s0
        go_wp2
        go_ret
        exact ⟨rfl, HE.out⟩
      | false =>
        rw [hh, Bool.false_or] at hR
        rw [hh] at hlk
        have h1 := hI.set.old (.cells #[] 85)
        have b1 := hI.bel.alloc s0 (.cells #[] 85)
        obtain ⟨W3, hst3, hs3, ht3⟩ := h1.store (by have := HL.out; omega) hfx
        have e3 : l.take k ++ [x] = l.take (k + 1) := by
          obtain ⟨hl1, rfl⟩ := List.getElem?_eq_some_iff.1 hx
          exact (List.take_succ_eq_append_getElem hl1).symm
        rw [e3] at hs3
        have HE : Hid (TwI w l R (k + 1) W3) := Lib.hid ⟨hs3, turned_bel b1 ht3 (Nat.le_refl _) (by simp; omega), hR⟩
        clear hx hk hb hI hfx hh hc s0 h1 b1 hs3 ht3 e3 hR
        go_wp2
        go_roundw
        · exact ⟨k + 1, HLT.out, by congr 1, HE.out⟩
        · exact meas_w hw HLT.out
    · obtain rfl : k = n := by omega
      have hR := hI.eq
      have e : l.drop k = [] := List.drop_eq_nil_of_le (by have := HNN.out; omega)
      rw [e] at hR
      replace hR : false = R := hR
      subst hR
      have t2 : decide ((k : Int) < k) = false := by simp
      have HE := Lib.hid hI.bel
      clear hk hlt e hI
      go_wp2
      go_ret
      exact ⟨rfl, HE.out⟩
end Go.Proofs.YtinoaajohkafmaaGreat.Ey
