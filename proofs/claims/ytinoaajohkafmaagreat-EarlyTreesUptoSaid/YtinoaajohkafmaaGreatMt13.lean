/-
  Texts of this seat in build order: EyRef, EyMis, ShelfP.
-/
import Derived.Test.YtinoaajohkafmaaGreatMt12
import Derived.Deep.RegionWith
import Derived.Laws.ResultCell
import Derived.Test.YtinoaajohkafmaaGreatProg
import Derived.Shelf.Strings.Prefix
import Derived.Shelf.Strings.Repeat
/-
  The reference's declares and twice.
-/
namespace Go.Proofs.YtinoaajohkafmaaGreat.Ey
open Go Go.RowKit Go.Maps Go.Proofs.YtinoaajohkafmaaGreat.Pa Go.Proofs.YtinoaajohkafmaaGreat.Pr
open Go.Proofs.YtinoaajohkafmaaGreat.Lx
set_option linter.unusedVariables false
set_option linter.unusedSimpArgs false
attribute [local go_sem ↓] ldK stK alK bdK bsK ldN stN alN bdN bsN
attribute [local irreducible] kcs ncs ncells
theorem declares_any {w : World} {t : Tree} {N : Nd} (hr : Rd w t N) : Calls Tryz.prog 32 #[.agg (ncs N)] w (PostR w (.bool (declB t.kind))) := by
  obtain ⟨k, n, tx, ns, ks⟩ := t
  obtain ⟨bN, n0, n1, n2, n3, n4, HB, e1, e2, e3, e4, e5⟩ := nd_start hr
  show Calls _ _ _ _ (PostR w (.bool (declB k)))
  rw [e1] at n0
  clear hr n1 n2 n3 n4 e1 e2 e3 e4 e5 bN
  by_cases h30 : k = 30
  · subst h30
    go_enter Tryz.func32, Tryz.ntmps32
    go_wp2
    go_ret
    exact ⟨rfl, HB.out⟩
  by_cases h31 : k = 31
  · subst h31
    clear h30
    go_enter Tryz.func32, Tryz.ntmps32
    go_wp2
    go_ret
    exact ⟨rfl, HB.out⟩
  by_cases h32 : k = 32
  · subst h32
    clear h30 h31
    go_enter Tryz.func32, Tryz.ntmps32
    go_wp2
    go_ret
    exact ⟨rfl, HB.out⟩
  have f0 : (k == 30) = false := by simpa using h30
  have f1 : (k == 31) = false := by simpa using h31
  have f2 : (k == 32) = false := by simpa using h32
  have e : declB k = false := by unfold declB; simp; omega
  rw [e]
  clear h30 h31 h32 e
  go_enter Tryz.func32, Tryz.ntmps32
  go_wp2
  go_ret
  exact ⟨rfl, HB.out⟩
theorem kid_at {w : World} {s : Sl} {xs : List Nd} {ks : List Tree} (hk : Lst w s xs) (hr : Rds w ks xs) {i : Nat} {t : Tree} (hi : ks[i]? = some t) : ∃ b o x, s.a = some ⟨b, o, none⟩ ∧ s.n = ks.length ∧ TAt w b (o + i * 5) t x := by
  obtain ⟨x, hx, rx⟩ := hr.at hi
  obtain ⟨b, o, q1, q2, q3⟩ := hk.2.2.2 i x hx
  exact ⟨b, o, x, q1, by rw [hk.1, Rds.len hr], ⟨⟨q2, q3⟩, rx⟩⟩
theorem txs_take {w : World} {a : Option Addr} {n c : Nat} {l : List ByteArray} (h : Txs w ⟨a, n, c⟩ l) {i : Nat} (hi : i ≤ l.length) : Txs w ⟨a, (l.take i).length, c⟩ (l.take i) := by
  obtain ⟨h1, h2, h3, h4⟩ := h
  simp only at h1 h2 h3 h4
  refine ⟨rfl, by simp only [List.length_take]; omega, h3, fun j x hx => ?_⟩
  have hj : j < i := by have := (List.getElem?_eq_some_iff.1 hx).1; simp at this; omega
  rw [List.getElem?_take, if_pos hj] at hx
  exact h4 j x hx
set_option maxRecDepth 100000 in
set_option maxHeartbeats 4000000 in
theorem rtwice_any {w : World} {s sn : Sl} {xs : List Nd} {ks : List Tree} {ns : List ByteArray} (hk : Lst w s xs) (hr : Rds w ks xs) (hn : Txs w sn ns) (hnl : ns.length ≤ 100000) (hkl : ks.length ≤ 100000) (hf : Fun1 ks) : Calls Tryz.prog 31 #[.slice s.a s.n s.c, .slice sn.a sn.n sn.c] w (PostR w (.bool (dupF [] (ns ++ declN ks)))) := by
  have hsn : s.n = ks.length := by rw [hk.1, Rds.len hr]
  obtain ⟨v2, W2, hrun2, hnm2, hb2⟩ := nm_src (B := w.heap.size) (w := w) (v := .slice none 0 0) (l := []) (World.ownsRow_nil _ _ _ _) (Nat.le_refl _) (Nat.zero_le _) hn (by omega)
  have hst : DcI w ns ks 0 v2 W2 := ⟨by simpa [declN] using hnm2, hb2⟩
  obtain ⟨m, hm⟩ : ∃ m, ks.length = m := ⟨_, rfl⟩
  rw [hsn, hm]
  obtain ⟨sa, sc, hsa, hsc⟩ : ∃ sa sc, s.a = sa ∧ s.c = sc := ⟨_, _, rfl, rfl⟩
  rw [hsa, hsc]
  have HSA := Lib.hid hsa
  have HLst := Lib.hid hk
  have HRds := Lib.hid hr
  have HM := Lib.hid hm
  have HST := Lib.hid hst
  have HF := Lib.hid hf
  have HK := Lib.hid hkl
  have HN := Lib.hid hnl
  clear hk hr hn hnm2 hb2 hst hf hsn hm hkl hnl hsa hsc
  go_enter Tryz.func31, Tryz.ntmps31
  go_wp2_with (at_builtin; refine wpList_app_run rfl (.const (.slice none 0 0)) (.tmp 8) 22 rfl rfl _ _ _ rfl rfl hrun2 ?_)
  go_loopw [5, 6] (fun v i wr => ∃ j : Nat, j ≤ m ∧ i = .int .i64 j ∧ DcI w ns ks j v wr) (fun _ i _ => m - (intOf i).toNat)
  case atStart => exact ⟨0, Nat.zero_le _, rfl, HST.out⟩
  case round =>
    obtain ⟨j, hj, rfl, hI⟩ := hrel
    by_cases hlt : j < m
    · obtain ⟨t, ht⟩ : ∃ t, ks[j]? = some t := ⟨ks[j]'(by have := HM.out; omega), List.getElem?_eq_getElem _⟩
      obtain ⟨b2, o2, x, r1, r2, r5⟩ := kid_at HLst.out HRds.out ht
      rw [HSA.out] at r1
      have z0 : _ := r5.k.kind hI.bel
      rw [rd_kind r5.r] at z0
      have t1 : (j : Int) < m := by omega
      have t2 : decide ((m : Int) ≤ j) = false := by simp; omega
      have hw : wrap64 ((j : Int) + 1) = j + 1 := by unfold wrap64; have := HM.out; have := HK.out; omega
      have HLT := Lib.hid hlt
      have hds := declN_step ht
      have hll : (ns ++ declN (ks.take j)).length ≤ 1000000 := by
        have := declN_len (ks.take j)
        have := HN.out; have := HK.out
        rw [List.length_append]
        have h3 : (ks.take j).length ≤ ks.length := by simp; omega
        omega
      have s0 := hI.bel.size
      by_cases h30 : t.kind = 30 ∨ t.kind = 31
      · have hd1 : decl1 t = [t.text] := by unfold decl1; rw [if_pos h30]
        have z2 := r5.k.text hI.bel
        rw [rd_text r5.r] at z2
        obtain ⟨g, c, W5, hrun, hn5, hb5⟩ := nm_app hI.own s0 hll t.text
        have HE : Hid (DcI w ns ks (j + 1) (.slice (some ⟨g, 0, none⟩) ((ns ++ declN (ks.take j)).length + 1) c) W5) := Lib.hid ⟨by rw [hds, hd1, ← List.append_assoc]; exact hn5, hI.bel.trans hb5⟩
        obtain ⟨L, hL⟩ : ∃ L, (ns ++ declN (ks.take j)).length = L := ⟨_, rfl⟩
        rw [hL] at hrun HE
        obtain ⟨K, hK⟩ : ∃ K, t.kind = K := ⟨_, rfl⟩
        rw [hK] at z0 h30
        subst r1
        clear hI r5 r2 hds hll s0 hd1 hn5 hb5 ht hj hL hK
        rcases h30 with rfl | rfl
        · go_wp2_with (at_builtin; refine wpList_app_run rfl (.tmp 24) (.tmp 30) 22 rfl rfl _ _ _ rfl rfl hrun ?_)
          go_roundw
          · exact ⟨j + 1, HLT.out, by congr 1, HE.out⟩
          · exact meas_w hw HLT.out
        · go_wp2_with (at_builtin; refine wpList_app_run rfl (.tmp 24) (.tmp 30) 22 rfl rfl _ _ _ rfl rfl hrun ?_)
          go_roundw
          · exact ⟨j + 1, HLT.out, by congr 1, HE.out⟩
          · exact meas_w hw HLT.out
      · by_cases h32 : t.kind = 32
        · have hd1 : decl1 t = [headT t.kids] := by unfold decl1; rw [if_neg h30, if_pos h32]
          obtain ⟨k', n', tx', ns', ks'⟩ := t
          have hne := HF.out _ (List.mem_of_getElem? ht) h32
          obtain ⟨u, us, rfl⟩ : ∃ u us, ks' = u :: us := by
            cases ks' with
            | nil => exact absurd rfl hne
            | cons u us => exact ⟨u, us, rfl⟩
          obtain ⟨b3, o3, y, p1, p2, p3, p4, p5⟩ := r5.kid (i := 0) (t := u) rfl
          have y4 : _ := r5.k.kids hI.bel
          rw [p1, p2] at y4
          have y2 := p5.k.text hI.bel
          rw [rd_text p5.r, Nat.zero_mul, Nat.add_zero] at y2
          have hht : headT (Tree.mk k' n' tx' ns' (u :: us)).kids = u.text := rfl
          rw [hht] at hd1
          obtain ⟨g, c, W5, hrun, hn5, hb5⟩ := nm_app hI.own s0 hll u.text
          have HE : Hid (DcI w ns ks (j + 1) (.slice (some ⟨g, 0, none⟩) ((ns ++ declN (ks.take j)).length + 1) c) W5) := Lib.hid ⟨by rw [hds, hd1, ← List.append_assoc]; exact hn5, hI.bel.trans hb5⟩
          obtain ⟨L, hL⟩ : ∃ L, (ns ++ declN (ks.take j)).length = L := ⟨_, rfl⟩
          rw [hL] at hrun HE
          obtain ⟨M2, hM2⟩ : ∃ M2 : Nat, (u :: us).length = M2 + 1 := ⟨us.length, rfl⟩
          rw [hM2] at y4
          rw [h32] at z0
          have e0 : decide ((M2 : Int) + 1 ≤ 0) = false := by simp; try omega
          subst r1
          clear hI r5 r2 hds hll s0 hd1 hn5 hb5 ht hj hL h30 h32 p1 p2 p3 p4 p5 hht hne hM2
          go_wp2_with (at_builtin; refine wpList_app_run rfl (.tmp 34) (.tmp 43) 22 rfl rfl _ _ _ rfl rfl hrun ?_)
          go_roundw
          · exact ⟨j + 1, HLT.out, by congr 1, HE.out⟩
          · exact meas_w hw HLT.out
        · have hd1 : decl1 t = [] := by unfold decl1; rw [if_neg h30, if_neg h32]
          have hI2 : DcI w ns ks (j + 1) _ wr := ⟨by rw [hds, hd1, List.append_nil]; exact hI.own, hI.bel⟩
          have HE := Lib.hid hI2
          obtain ⟨K, hK⟩ : ∃ K, t.kind = K := ⟨_, rfl⟩
          rw [hK] at z0 h30 h32
          have f0 : (K == 30) = false := by simp; omega
          have f1 : (K == 31) = false := by simp; omega
          have f2 : (K == 32) = false := by simp; omega
          subst r1
          clear hI hI2 r5 r2 hds hll s0 hd1 ht hj hK h30 h32
          go_wp2
          go_roundw
          · exact ⟨j + 1, HLT.out, by congr 1, HE.out⟩
          · exact meas_w hw HLT.out
    · obtain rfl : j = m := by omega
      have e : ks.take j = ks := List.take_of_length_le (by have := HM.out; omega)
      have hown := hI.own
      rw [e] at hown
      obtain ⟨a, c, rfl⟩ := hown.shape
      have t2 : decide ((j : Int) < j) = false := by simp
      have htx := hown.txs
      have hll : (ns ++ declN ks).length ≤ 1000000 := by have := declN_len ks; have := HN.out; have := HK.out; rw [List.length_append]; omega
      obtain ⟨R, hR⟩ : ∃ R, dupF [] (ns ++ declN ks) = R := ⟨_, rfl⟩
      have HRR := Lib.hid hR
      obtain ⟨l, hl⟩ : ∃ l, ns ++ declN ks = l := ⟨_, rfl⟩
      rw [hl] at htx hll hR ⊢
      obtain ⟨n, hn⟩ : ∃ n, l.length = n := ⟨_, rfl⟩
      have HE := Lib.hid hI.bel
      have HT := Lib.hid htx
      have HR : Hid (dupF (l.take 0) (l.drop 0) = R) := Lib.hid hR
      have HNN := Lib.hid hn
      have HL := Lib.hid hll
      obtain ⟨wq, hwq⟩ : ∃ u, u = wr := ⟨_, rfl⟩
      subst hwq
      rw [hn]
      clear hj hlt e hI hown htx hll hl hR hn
      go_wp2
      go_loopw [7] (fun i wr => Below wq.heap.size wq wr ∧ ∃ k : Nat, k ≤ n ∧ i = .int .i64 k ∧ dupF (l.take k) (l.drop k) = R) (fun i _ => n - (intOf i).toNat)
      case atStart => exact ⟨Below.refl _ _, 0, Nat.zero_le _, rfl, HR.out⟩
      case round =>
        obtain ⟨hb, k, hk, rfl, hR⟩ := hrel
        have htr := HT.out.kept (kept_below hb)
        by_cases hlt : k < n
        · obtain ⟨x, hx⟩ : ∃ x, l[k]? = some x := ⟨l[k]'(by have := HNN.out; omega), List.getElem?_eq_getElem _⟩
          obtain ⟨b, o, e1, hbl, hc⟩ := htr.2.2.2 k x hx
          simp only at e1
          subst e1
          rw [dupF_step hx] at hR
          have htk := txs_take htr (i := k) (by have := HNN.out; omega)
          have hlk : (l.take k).length = k := by have := HNN.out; simp; omega
          have hkc : k ≤ c := by have h1 := htr.2.1; have h2 := HNN.out; simp only at h1; omega
          have hch := has_names (w := wr.drew) htk (by rw [hlk]; have := HL.out; have := HNN.out; omega) x
          rw [hlk] at hch
          have t1 : (k : Int) < n := by omega
          have t2 : decide ((n : Int) ≤ k) = false := by simp; omega
          have t3 : (k : Int) ≤ c := by omega
          have hw : wrap64 ((k : Int) + 1) = k + 1 := by unfold wrap64; have := HL.out; have := HNN.out; omega
          have HLT := Lib.hid hlt
          have HB := Lib.hid hb.drew
          cases hh : hasB (l.take k) x with
          | true =>
            rw [hh, Bool.true_or] at hR
            subst hR
            rw [hh] at hch
            clear hx hk hw hb htr hbl htk hlk hh
            go_wp2
            go_region_with (go_at_call 53; (with_reducible refine hch.mono ?_); rintro e w2 ⟨rfl, hw2⟩; subst w2)
            all_goals go_wp2
            all_goals go_ret
            all_goals exact ⟨by rw [HRR.out]; rfl, HE.out.trans (HB.out.mono HE.out.size)⟩
          | false =>
            rw [hh, Bool.false_or] at hR
            rw [hh] at hch
            have HR2 := Lib.hid hR
            clear hx hk hb htr hbl htk hlk hh hR
            go_wp2
            go_region_with (go_at_call 53; (with_reducible refine hch.mono ?_); rintro e w2 ⟨rfl, hw2⟩; subst w2)
            all_goals go_wp2
            all_goals go_roundw
            all_goals first | exact ⟨HB.out, k + 1, HLT.out, by congr 1, HR2.out⟩ | exact meas_w hw HLT.out
        · obtain rfl : k = n := by omega
          have e : l.drop k = [] := List.drop_eq_nil_of_le (by have := HNN.out; omega)
          rw [e] at hR
          replace hR : false = R := hR
          subst hR
          have t2 : decide ((k : Int) < k) = false := by simp
          have HB := Lib.hid hb
          clear hk hlt e hb htr
          go_wp2
          go_ret
          exact ⟨by rw [HRR.out]; rfl, HE.out.trans (HB.out.mono HE.out.size)⟩
end Go.Proofs.YtinoaajohkafmaaGreat.Ey

/-
  The program's spots: isMisplaced, inside.
-/
namespace Go.Proofs.YtinoaajohkafmaaGreat.Ey
open Go Go.RowKit Go.Maps Go.Proofs.YtinoaajohkafmaaGreat.Pa Go.Proofs.YtinoaajohkafmaaGreat.Pr
open Go.Proofs.YtinoaajohkafmaaGreat.Lx
set_option linter.unusedVariables false
set_option linter.unusedSimpArgs false
attribute [local irreducible] kcs ncs ncells
def qcs (f l b : Bool) : Array Value := #[.bool f, .bool l, .bool b]
def scs2 (a o : Nat) (f l b : Bool) : Array Value := #[.pointer (some ⟨a, o, none⟩), .bool f, .bool l, .bool b]
theorem mis_any {w : World} {b o : Nat} {t : Tree} {N : Nd} (hT : TAt w b o t N) (f l h : Bool) : Calls Tryz.prog 14 #[.agg (scs2 b o f l h)] w (PostR w (.bool (misB t.kind f l h))) := by
  have hb1 : Below w.heap.size w (w.alloc (.cells (scs2 b o f l h) 44)) := (Below.refl _ w).alloc (Nat.le_refl _) _
  have c0 := hT.k.kind hb1
  rw [rd_kind hT.r] at c0
  obtain ⟨K, hK⟩ : ∃ K, t.kind = K := ⟨_, rfl⟩
  rw [hK] at c0 ⊢
  have HB := Lib.hid hb1
  unfold scs2 at c0
  clear hT hb1 hK
  unfold scs2 at HB
  by_cases h36 : K = 36
  · subst h36
    have e : misB 36 f l h = !f := rfl
    rw [e]
    unfold scs2
    go_enter Tryz.func14, Tryz.ntmps14
    go_wp2
    go_ret
    exact ⟨rfl, HB.out⟩
  have f36 : (K == 36) = false := by simpa using h36
  by_cases h41 : K = 41
  · subst h41
    have e : misB 41 f l h = !l := rfl
    rw [e]
    unfold scs2
    clear h36
    go_enter Tryz.func14, Tryz.ntmps14
    go_wp2
    go_ret
    exact ⟨rfl, HB.out⟩
  have f41 : (K == 41) = false := by simpa using h41
  by_cases h42 : K = 42
  · subst h42
    have e : misB 42 f l h = !l := rfl
    rw [e]
    unfold scs2
    clear h36 h41
    go_enter Tryz.func14, Tryz.ntmps14
    go_wp2
    go_ret
    exact ⟨rfl, HB.out⟩
  have f42 : (K == 42) = false := by simpa using h42
  by_cases h30 : K = 30 ∨ K = 31 ∨ K = 32
  · have e : misB K f l h = h := by unfold misB; rw [if_neg h36, if_neg (by omega), if_pos h30]
    rw [e]
    unfold scs2
    clear h36 h41 h42 e
    rcases h30 with rfl | rfl | rfl
    all_goals
      go_enter Tryz.func14, Tryz.ntmps14
      go_wp2
      go_ret
      exact ⟨rfl, HB.out⟩
  · have e : misB K f l h = false := by unfold misB; rw [if_neg h36, if_neg (by omega), if_neg h30]
    rw [e]
    have f30 : (K == 30) = false := by simp; omega
    have f31 : (K == 31) = false := by simp; omega
    have f32 : (K == 32) = false := by simp; omega
    unfold scs2
    clear h36 h41 h42 e h30
    go_enter Tryz.func14, Tryz.ntmps14
    go_wp2
    go_ret
    exact ⟨rfl, HB.out⟩
theorem sizeQ : (Tryz.prog.info? 42).map (·.size) = some 3 := by kernel_rfl
theorem res_Q {fn : Func} {p : Tmp} (h : fn.results = #[.cell p 42]) (tmps : Array Value) (w : World) (g : Nat) (x y z : Bool) (hp : tmps.getD p undef = .pointer (some ⟨g, 0, none⟩)) {T : TypeId} (hr : Blk w g #[.bool x, .bool y, .bool z] T) : (results fn tmps).run Tryz.prog w = .ok (.agg #[.bool x, .bool y, .bool z]) w :=
  results_cell_row h tmps w g T #[.bool x, .bool y, .bool z] (0, 0) _ hp hr Tryz.underlying42 rfl (by exact sizeQ)
theorem blk_mid (w : World) (A : Obj) (cs : Array Value) (t : TypeId) (Q : Obj) : Blk (((w.alloc A).alloc (.cells cs t)).alloc Q) (w.heap.size + 1) cs t := by
  have h := Blk.new (w.alloc A) cs t
  have k : (w.alloc A).heap.size = w.heap.size + 1 := by simp
  rw [k] at h
  exact h.old _
theorem ins_any {w : World} {b o : Nat} {t : Tree} {N : Nd} (hT : TAt w b o t N) (f l h : Bool) : Calls Tryz.prog 16 #[.agg (scs2 b o f l h)] w (PostR w (.agg (qcs (insf t.kind f) (insl t.kind l) (insb t.kind)))) := by
  have c0 := fun W (hb : Below w.heap.size w W) => hT.k.kind hb
  obtain ⟨K, hK⟩ : ∃ K, t.kind = K := ⟨_, rfl⟩
  rw [rd_kind hT.r, hK] at c0
  rw [hK]
  have hbel : ∀ A Z Q : Obj, Below w.heap.size w (((w.alloc A).alloc Z).alloc Q) := fun A Z Q => (((Below.refl _ w).alloc (Nat.le_refl _) A).alloc (by simp) Z).alloc (by simp; omega) Q
  have c1 := c0 _ (hbel (.cells #[.pointer (some ⟨b, o, none⟩), .bool f, .bool l, .bool h] 44) (.cells #[.bool false, .bool false, .bool false] 42) (.cells #[.bool f, .bool l, .bool false] 42))
  have HB := Lib.hid hbel
  clear c0 hT hK hbel
  by_cases h14 : K = 14
  · subst h14
    unfold scs2 qcs
    go_enter Tryz.func16, Tryz.ntmps16
    go_wp2
    refine bodyPost_ret (res_Q rfl _ _ (w.heap.size + 1) true false false rfl (blk_mid _ _ _ _ _)) rfl ?_
    exact ⟨rfl, HB.out _ _ _⟩
  by_cases h35 : K = 35
  · subst h35
    clear h14
    unfold scs2 qcs
    go_enter Tryz.func16, Tryz.ntmps16
    go_wp2
    refine bodyPost_ret (res_Q rfl _ _ (w.heap.size + 1) f true true rfl (blk_mid _ _ _ _ _)) rfl ?_
    exact ⟨rfl, HB.out _ _ _⟩
  by_cases h34 : K = 34
  · subst h34
    clear h14 h35
    unfold scs2 qcs
    go_enter Tryz.func16, Tryz.ntmps16
    go_wp2
    refine bodyPost_ret (res_Q rfl _ _ (w.heap.size + 1) f l true rfl (blk_mid _ _ _ _ _)) rfl ?_
    exact ⟨rfl, HB.out _ _ _⟩
  have f14 : (K == 14) = false := by simpa using h14
  have f35 : (K == 35) = false := by simpa using h35
  have f34 : (K == 34) = false := by simpa using h34
  have e1 : insf K f = f := by unfold insf; rw [if_neg h14]
  have e2 : insl K l = l := by unfold insl; rw [if_neg h14, if_neg h35]
  have e3 : insb K = false := by unfold insb; simp; omega
  rw [e1, e2, e3]
  clear h14 h35 h34 e1 e2 e3
  unfold scs2 qcs
  go_enter Tryz.func16, Tryz.ntmps16
  go_wp2
  refine bodyPost_ret (res_Q rfl _ _ (w.heap.size + 1) f l false rfl (blk_mid _ _ _ _ _)) rfl ?_
  exact ⟨rfl, HB.out _ _ _⟩
end Go.Proofs.YtinoaajohkafmaaGreat.Ey

/-
  Contracts of library functions at this program: each is one application of a theorem of the library.
-/
namespace Go.Proofs
open Go.Shelf
def Tryz.lays102_ren : Go.Shelf.Ren := ⟨fun | 102 => 110 | 209 => 118 | 207 => 126 | n => n, fun | 9 => 9 | 4 => 4 | 3 => 3 | n => n, fun | n => n⟩
theorem Tryz.lays102 : Go.Proofs.Lays.n102 Tryz.prog Tryz.lays102_ren := {
  mixed := by kernel_rfl
  f102 := Tryz.func110.trans (congrArg some (by kernel_rfl))
  f207 := Tryz.func126.trans (congrArg some (by kernel_rfl))
  f209 := Tryz.func118.trans (congrArg some (by kernel_rfl))
  t3 := Tryz.underlying3
  a3 := Tryz.isAgg3
  z3 := Tryz.sizeOf3
  v3 := Tryz.zeroValue3
  t4 := Tryz.underlying4
  a4 := Tryz.isAgg4
  z4 := Tryz.sizeOf4
  v4 := Tryz.zeroValue4
  t9 := Tryz.underlying9
  a9 := Tryz.isAgg9
  z9 := Tryz.sizeOf9
  v9 := Tryz.zeroValue9 }
open Go.RowKit Go.Lib in
theorem Tryz.strings_TrimSuffix (s p : ByteArray) (w : World) (hs : s.size ≤ 9223372036854775807) :
    Calls Tryz.prog 110 #[.string s, .string p] w fun e w' => e = .returned (.string ⟨(Lib.trimSuffix s.data.toList p.data.toList).toArray⟩) ∧ w' = w := Any.strings_TrimSuffix Tryz.lays102 s p w hs
def Tryz.lays105_ren : Go.Shelf.Ren := ⟨fun | 105 => 111 | 212 => 119 | 99 => 114 | 165 => 120 | 166 => 121 | 170 => 122 | 169 => 123 | 263 => 127 | 264 => 128 | 206 => 125 | 240 => 129 | 241 => 130 | 276 => 134 | 277 => 135 | n => n, fun | 9 => 9 | 3 => 3 | 4 => 4 | 20 => 20 | 0 => 0 | 46 => 94 | 109 => 119 | 5 => 5 | 72 => 123 | 76 => 126 | 51 => 129 | 146 => 130 | 53 => 132 | 148 => 133 | 70 => 121 | 37 => 33 | 75 => 125 | 127 => 135 | 164 => 138 | 80 => 100 | n => n, fun | n => n⟩
theorem Tryz.lays105 : Go.Proofs.Lays.n105 Tryz.prog Tryz.lays105_ren := {
  mixed := by kernel_rfl
  f99 := Tryz.func114.trans (congrArg some (by kernel_rfl))
  f105 := Tryz.func111.trans (congrArg some (by kernel_rfl))
  f165 := Tryz.func120.trans (congrArg some (by kernel_rfl))
  f166 := Tryz.func121.trans (congrArg some (by kernel_rfl))
  f169 := Tryz.func123.trans (congrArg some (by kernel_rfl))
  f170 := Tryz.func122.trans (congrArg some (by kernel_rfl))
  f206 := Tryz.func125.trans (congrArg some (by kernel_rfl))
  f212 := Tryz.func119.trans (congrArg some (by kernel_rfl))
  f240 := Tryz.func129.trans (congrArg some (by kernel_rfl))
  f241 := Tryz.func130.trans (congrArg some (by kernel_rfl))
  f263 := Tryz.func127.trans (congrArg some (by kernel_rfl))
  f264 := Tryz.func128.trans (congrArg some (by kernel_rfl))
  f276 := Tryz.func134.trans (congrArg some (by kernel_rfl))
  f277 := Tryz.func135.trans (congrArg some (by kernel_rfl))
  t0 := Tryz.underlying0
  a0 := Tryz.isAgg0
  z0 := Tryz.sizeOf0
  v0 := Tryz.zeroValue0
  t3 := Tryz.underlying3
  a3 := Tryz.isAgg3
  z3 := Tryz.sizeOf3
  v3 := Tryz.zeroValue3
  t4 := Tryz.underlying4
  a4 := Tryz.isAgg4
  z4 := Tryz.sizeOf4
  v4 := Tryz.zeroValue4
  t5 := Tryz.underlying5
  a5 := Tryz.isAgg5
  z5 := Tryz.sizeOf5
  v5 := Tryz.zeroValue5
  t9 := Tryz.underlying9
  a9 := Tryz.isAgg9
  z9 := Tryz.sizeOf9
  v9 := Tryz.zeroValue9
  t20 := Tryz.underlying20
  a20 := Tryz.isAgg20
  z20 := Tryz.sizeOf20
  v20 := Tryz.zeroValue20
  t37 := Tryz.underlying33
  a37 := Tryz.isAgg33
  z37 := Tryz.sizeOf33
  v37 := Tryz.zeroValue33
  t46 := Tryz.underlying94
  a46 := Tryz.isAgg94
  z46 := Tryz.sizeOf94
  v46 := Tryz.zeroValue94
  t51 := Tryz.underlying129
  a51 := Tryz.isAgg129
  z51 := Tryz.sizeOf129
  v51 := Tryz.zeroValue129
  t53 := Tryz.underlying132
  a53 := Tryz.isAgg132
  z53 := Tryz.sizeOf132
  v53 := Tryz.zeroValue132
  t70 := Tryz.underlying121
  a70 := Tryz.isAgg121
  z70 := Tryz.sizeOf121
  v70 := Tryz.zeroValue121
  t72 := Tryz.underlying123
  a72 := Tryz.isAgg123
  z72 := Tryz.sizeOf123
  v72 := Tryz.zeroValue123
  t75 := Tryz.underlying125
  a75 := Tryz.isAgg125
  z75 := Tryz.sizeOf125
  v75 := Tryz.zeroValue125
  t76 := Tryz.underlying126
  a76 := Tryz.isAgg126
  z76 := Tryz.sizeOf126
  v76 := Tryz.zeroValue126
  t109 := Tryz.underlying119
  a109 := Tryz.isAgg119
  z109 := Tryz.sizeOf119
  v109 := Tryz.zeroValue119
  t127 := Tryz.underlying135
  a127 := Tryz.isAgg135
  z127 := Tryz.sizeOf135
  v127 := Tryz.zeroValue135
  t146 := Tryz.underlying130
  a146 := Tryz.isAgg130
  z146 := Tryz.sizeOf130
  v146 := Tryz.zeroValue130
  t148 := Tryz.underlying133
  a148 := Tryz.isAgg133
  z148 := Tryz.sizeOf133
  v148 := Tryz.zeroValue133
  t164 := Tryz.underlying138
  a164 := Tryz.isAgg138
  z164 := Tryz.sizeOf138
  v164 := Tryz.zeroValue138 }
theorem Tryz.Builder_Extra_105 : Builder.Extra Tryz.prog Tryz.lays105_ren := {
  sizeBuilder := by kernel_rfl
  liesBuilder := by kernel_rfl
  t5 := Tryz.underlying5
  a5 := Tryz.isAgg5
  z5 := Tryz.sizeOf5
  v5 := Tryz.zeroValue5
  infoByte := by kernel_rfl
  cellsByte := by kernel_rfl
  sizeByte := by kernel_rfl
  neB5 := by decide }
open Go.RowKit Go.Lib in
theorem Tryz.strings_Repeat (s : ByteArray) (c : Nat) (w : World) (hc : c ≤ 9223372036854775807) (hlen : s.size * c ≤ 140737488355328) :
    Calls Tryz.prog 111 #[.string s, .int .i64 c] w fun e w' => e = .returned (.string ⟨(Lib.repeatL s.data.toList c).toArray⟩) ∧ Below w.heap.size w w' := Any.strings_Repeat Tryz.lays105 Tryz.Builder_Extra_105 s c w hc hlen
end Go.Proofs
