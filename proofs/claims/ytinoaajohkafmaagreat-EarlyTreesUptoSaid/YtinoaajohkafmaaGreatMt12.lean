/-
  Texts of this seat in build order: PgSpot3, EyDecl.
-/
import Derived.Test.YtinoaajohkafmaaGreatMt11
import Derived.Deep.LoopGhost
import Derived.Test.YtinoaajohkafmaaGreatMt10
/-
  The printer's spots: names, else.
-/
namespace Go.Proofs.YtinoaajohkafmaaGreat.Pr
open Go Go.RowKit Go.Proofs.YtinoaajohkafmaaGreat.Pa Go.Proofs.YtinoaajohkafmaaGreat.Uni
open Go.Proofs.YtinoaajohkafmaaGreat.Lx
set_option linter.unusedVariables false
set_option linter.unusedSimpArgs false
attribute [local go_sem ↓] ldK stK alK bdK bsK ldN stN alN bdN bsN ldS stS alS bdS
attribute [local irreducible] kcs ncs ncells scs
attribute [local go_sem] run_alN run_stNg run_ldNg run_bdN0
theorem rd_kidsP {w : World} {t : Tree} {x : Nd} (h : Rd w t x) : x.kids.n = t.kids.length := by
  cases t
  unfold Rd at h
  obtain ⟨-, -, -, -, xs, h5, h6⟩ := h
  rw [h5.1, Rds.len h6]
  rfl
structure TAt (w : World) (b o : Nat) (t : Tree) (N : Nd) : Prop where
  k : KidAt w b o N
  r : Rd w t N
theorem TAt.below {w w' : World} {b o : Nat} {t : Tree} {N : Nd} (h : TAt w b o t N) (hb : Below w.heap.size w w') : TAt w' b o t N := ⟨⟨kept_lt (kept_below hb) h.k.lt, h.k.at_.kept (kept_below hb) h.k.lt⟩, h.r.below hb⟩
theorem TAt.kids {w : World} {b o : Nat} {k n : Int} {tx : ByteArray} {ns : List ByteArray} {ks : List Tree} {N : Nd} (h : TAt w b o (.mk k n tx ns ks) N) : N.kids.n = ks.length := rd_kidsP h.r
theorem TAt.kid {w : World} {b o : Nat} {k n : Int} {tx : ByteArray} {ns : List ByteArray} {ks : List Tree} {N : Nd} (h : TAt w b o (.mk k n tx ns ks) N) {i : Nat} {t : Tree} (hi : ks[i]? = some t) : ∃ b2 o2 x, N.kids.a = some ⟨b2, o2, none⟩ ∧ N.kids.n = ks.length ∧ ks.length ≤ N.kids.c ∧ N.kids.c ≤ maxLen ∧ TAt w b2 (o2 + i * 5) t x := by
  have hr := h.r
  unfold Rd at hr
  obtain ⟨h1, h2, h3, h4, xs, h5, h6⟩ := hr
  obtain ⟨x, hx, rx⟩ := h6.at hi
  obtain ⟨b2, o2, q1, q2, q3⟩ := h5.2.2.2 i x hx
  refine ⟨b2, o2, x, q1, by rw [h5.1, Rds.len h6], by rw [← Rds.len h6]; exact h5.2.1, h5.2.2.1, ⟨⟨q2, q3⟩, rx⟩⟩
theorem open_b (k n : Int) (tx : ByteArray) (ns : List ByteArray) (ks : List Tree) : openT (.mk k n tx ns ks) = if k = 34 ∧ ks.length = 3 then (match ks[2]? with | some z => openT z | none => false) else if k = 35 ∧ ks.length = 2 then (match ks[1]? with | some z => openT z | none => false) else decide (k = 34) := by
  rcases ks with _ | ⟨a, _ | ⟨b, _ | ⟨c, _ | ⟨d, ks⟩⟩⟩⟩
  · simp [openT]
  · simp [openT]
  · by_cases h : k = 34 <;> by_cases h2 : k = 35 <;> simp [openT, h, h2]
  · by_cases h : k = 34 <;> by_cases h2 : k = 35 <;> simp [openT, h, h2]
  · simp [openT]
theorem sz_kid {k n : Int} {tx : ByteArray} {ns : List ByteArray} {ks : List Tree} {i : Nat} {t : Tree} (h : ks[i]? = some t) : t.sz < (Tree.mk k n tx ns ks).sz := by
  have := szs_at h
  show t.sz < 1 + szs ks
  omega
set_option maxRecDepth 100000 in
set_option maxHeartbeats 4000000 in
theorem lacks_any {w : World} {b o : Nat} {t : Tree} {N : Nd} (h : TAt w b o t N) : Calls Tryz.prog 49 #[.pointer (some ⟨b, o, none⟩)] w (PostR w (.bool (openT t))) := by
  obtain ⟨R, hR⟩ : ∃ R, openT t = R := ⟨_, rfl⟩
  rw [hR]
  have H0 : Hid (∃ b' o' t' N', (Value.pointer (some ⟨b, o, none⟩)) = .pointer (some ⟨b', o', none⟩) ∧ t.sz = t'.sz ∧ TAt w b' o' t' N' ∧ openT t' = R) := Lib.hid ⟨b, o, t, N, rfl, rfl, h, hR⟩
  obtain ⟨S0, hS0⟩ : ∃ S0, t.sz = S0 := ⟨_, rfl⟩
  rw [hS0] at H0
  clear h hR hS0
  go_enter Tryz.func49, Tryz.ntmps49
  go_wp2
  go_loopg [0] S0 (fun g v wr => wr = w ∧ ∃ b' o' t' N', v = .pointer (some ⟨b', o', none⟩) ∧ g = t'.sz ∧ TAt w b' o' t' N' ∧ openT t' = R)
  case atStart => exact ⟨rfl, H0.out⟩
  case round =>
    obtain ⟨rfl, b', o', t', N', rfl, hg, hT, hR⟩ := hrel
    obtain ⟨k, n, tx, ns, ks⟩ := t'
    have n0 := hT.k.kind (Below.refl _ _)
    have n4 := hT.k.kids (Below.refl _ _)
    have e1 : N'.kind = k := rd_kind hT.r
    have e5 := hT.kids
    rw [e1] at n0
    obtain ⟨m, hm⟩ : ∃ m, N'.kids.n = m := ⟨_, rfl⟩
    rw [hm] at n4 e5
    rw [open_b] at hR
    have HT := Lib.hid hT
    have HG := Lib.hid hg
    by_cases h34 : k = 34
    · subst h34
      by_cases hl : ks.length = 3
      · rw [if_pos ⟨rfl, hl⟩] at hR
        obtain ⟨z, hz⟩ : ∃ z, ks[2]? = some z := ⟨_, List.getElem?_eq_getElem (by omega)⟩
        rw [hz] at hR
        obtain ⟨b2, o2, x, q1, q2, q3, q4, q5⟩ := hT.kid hz
        rw [q1] at n4
        rw [hl] at e5
        subst e5
        have hc : 3 ≤ N'.kids.c := by omega
        obtain ⟨c, hcc⟩ : ∃ c, N'.kids.c = c := ⟨_, rfl⟩
        rw [hcc] at n4 hc
        have HR : Hid (openT z = R) := Lib.hid hR
        have HQ := Lib.hid q5
        have HS := Lib.hid (sz_kid (k := 34) (n := n) (tx := tx) (ns := ns) hz)
        clear hT hg hm e1 hz q1 q2 q3 q4 q5 hR hl hcc
        go_wp2
        go_roundg z.sz
        case measure => have := HG.out; have := HS.out; omega
        case rel => exact ⟨rfl, b2, _, z, x, rfl, rfl, HQ.out, HR.out⟩
      · rw [if_neg (fun h => hl h.2), if_neg (by intro h; exact absurd h.1 (by decide))] at hR
        have f3 : ((m : Int) == 3) = false := by simp; omega
        have HR := Lib.hid hR
        clear hT hg hm e1 e5 hl hR
        go_wp2
        go_ret
        exact ⟨by rw [← HR.out]; rfl, Below.refl _ _⟩
    · have f34 : (k == 34) = false := by simpa using h34
      rw [if_neg (fun h => h34 h.1)] at hR
      by_cases h35 : k = 35
      · subst h35
        by_cases hl : ks.length = 2
        · rw [if_pos ⟨rfl, hl⟩] at hR
          obtain ⟨z, hz⟩ : ∃ z, ks[1]? = some z := ⟨_, List.getElem?_eq_getElem (by omega)⟩
          rw [hz] at hR
          obtain ⟨b2, o2, x, q1, q2, q3, q4, q5⟩ := hT.kid hz
          rw [q1] at n4
          rw [hl] at e5
          subst e5
          have hc : 2 ≤ N'.kids.c := by omega
          obtain ⟨c, hcc⟩ : ∃ c, N'.kids.c = c := ⟨_, rfl⟩
          rw [hcc] at n4 hc
          have HR : Hid (openT z = R) := Lib.hid hR
          have HQ := Lib.hid q5
          have HS := Lib.hid (sz_kid (k := 35) (n := n) (tx := tx) (ns := ns) hz)
          clear hT hg hm e1 hz q1 q2 q3 q4 q5 hR hl hcc h34 f34
          go_wp2
          go_roundg z.sz
          case measure => have := HG.out; have := HS.out; omega
          case rel => exact ⟨rfl, b2, _, z, x, rfl, rfl, HQ.out, HR.out⟩
        · rw [if_neg (fun h => hl h.2)] at hR
          have f3 : ((m : Int) == 2) = false := by simp; omega
          have HR := Lib.hid hR
          clear hT hg hm e1 e5 hl hR h34 f34
          go_wp2
          go_ret
          exact ⟨by rw [← HR.out]; rfl, Below.refl _ _⟩
      · rw [if_neg (fun h => h35 h.1), decide_eq_false h34] at hR
        have f35 : (k == 35) = false := by simpa using h35
        have HR := Lib.hid hR
        clear hT hg hm e1 e5 hR h34 h35
        go_wp2
        go_ret
        exact ⟨by rw [← HR.out]; rfl, Below.refl _ _⟩
set_option maxRecDepth 100000 in
set_option maxHeartbeats 4000000 in
theorem else_any {w : World} {b o : Nat} {p : Int} {N : Nd} {k n : Int} {tx : ByteArray} {ns : List ByteArray} {ks : List Tree} (h : TAt w b o (.mk k n tx ns ks) N) : Calls Tryz.prog 25 #[.agg (scs b o p)] w (PostR w (.bool (elseB k ks))) := by
  have hk := h.k
  have hkk : N.kind = k := rd_kind h.r
  obtain ⟨bN, s0, s1, n0, n1, n2, n3, n4, HB⟩ := sp_start p hk
  have HBN := Lib.hid bN
  have HK := Lib.hid hk
  rw [hkk] at n0
  have e5 := h.kids
  obtain ⟨m, hm⟩ : ∃ m, N.kids.n = m := ⟨_, rfl⟩
  rw [hm] at n4 e5
  unfold elseB
  by_cases h34 : k = 34
  · subst h34
    rw [if_pos rfl]
    by_cases hl : ks.length = 3
    · obtain ⟨y, hy⟩ : ∃ y, ks[1]? = some y := ⟨_, List.getElem?_eq_getElem (by omega)⟩
      have hel : elseL ks = !openT y := by
        rcases ks with _ | ⟨a, _ | ⟨b, _ | ⟨c, _ | ⟨d, ks⟩⟩⟩⟩
        · simp at hl
        · simp at hl
        · simp at hl
        · simp at hy; subst hy; rfl
        · simp at hl
      rw [hel]
      obtain ⟨b2, o2, x, q1, q2, q3, q4, q5⟩ := h.kid hy
      rw [q1] at n4
      rw [hl] at e5
      subst e5
      have hc : 3 ≤ N.kids.c := by omega
      obtain ⟨c, hcc⟩ : ∃ c, N.kids.c = c := ⟨_, rfl⟩
      rw [hcc] at n4 hc
      have cl := lacks_any (q5.below HB.out)
      obtain ⟨q, hq⟩ : ∃ q, openT y = q := ⟨_, rfl⟩
      rw [hq] at cl ⊢
      clear h hk hkk bN hm hl hy hel q1 q2 q3 q4 q5 hcc hq
      cases q <;> (
        go_enter Tryz.func25, Tryz.ntmps25
        go_wp2_with (go_at_call 49; (with_reducible refine cl.mono ?_); intro e w2 hp; obtain ⟨rfl, hb⟩ := hp; have HB := Lib.hid (HB.out.trans (hb.mono HB.out.size)); clear hb)
        go_ret
        exact ⟨rfl, HB.out⟩)
    · have hel : elseL ks = true := by
        rcases ks with _ | ⟨a, _ | ⟨b, _ | ⟨c, _ | ⟨d, ks⟩⟩⟩⟩
        · rfl
        · rfl
        · rfl
        · simp at hl
        · rfl
      rw [hel]
      have f3 : ((m : Int) != 3) = true := by simp; omega
      clear h hk hkk bN hm hl hel e5
      go_enter Tryz.func25, Tryz.ntmps25
      go_wp2
      go_ret
      exact ⟨rfl, HB.out⟩
  · rw [if_neg h34]
    have f34 : (k != 34) = true := by simpa using h34
    clear h hk hkk bN hm h34 e5
    go_enter Tryz.func25, Tryz.ntmps25
    go_wp2
    go_ret
    exact ⟨rfl, HB.out⟩
theorem all_stepP {ns : List ByteArray} {i : Nat} {t : ByteArray} (h : ns[i]? = some t) : (ns.drop i).all varB = (varB t && (ns.drop (i + 1)).all varB) := by
  obtain ⟨hl, rfl⟩ := List.getElem?_eq_some_iff.1 h
  rw [List.drop_eq_getElem_cons hl]
  rfl
set_option maxRecDepth 100000 in
set_option maxHeartbeats 4000000 in
theorem names_none {w : World} {b o : Nat} {p : Int} {N : Nd} {k n : Int} {tx : ByteArray} {ns : List ByteArray} {ks : List Tree} (h : TAt w b o (.mk k n tx ns ks) N) (hc : k ≠ 14 ∨ p = 71) : Calls Tryz.prog 23 #[.agg (scs b o p)] w (PostR w (.bool ns.isEmpty)) := by
  have hk := h.k
  have hkk : N.kind = k := rd_kind h.r
  obtain ⟨bN, s0, s1, n0, n1, n2, n3, n4, HB⟩ := sp_start p hk
  have HBN := Lib.hid bN
  have HK := Lib.hid hk
  rw [hkk] at n0
  have e4 : N.names.n = ns.length := rd_names h.r
  obtain ⟨m, hm⟩ : ∃ m, N.names.n = m := ⟨_, rfl⟩
  rw [hm] at n3 e4
  obtain ⟨q, hq⟩ : ∃ q, ns.isEmpty = q := ⟨_, rfl⟩
  have fq : ((m : Int) == 0) = q := by rw [← hq, e4]; cases ns with | nil => rfl | cons a l => simp; omega
  rw [hq]
  by_cases h14 : k = 14
  · have hp : p = 71 := by rcases hc with hc | hc; exact absurd h14 hc; exact hc
    subst h14 hp
    clear h hk hkk bN hm hc hq e4
    go_enter Tryz.func23, Tryz.ntmps23
    go_wp2
    go_ret
    exact ⟨rfl, HB.out⟩
  · have f14 : (k != 14) = true := by simpa using h14
    clear h hk hkk bN hm hc hq e4 h14
    go_enter Tryz.func23, Tryz.ntmps23
    go_wp2
    go_ret
    exact ⟨rfl, HB.out⟩
set_option maxRecDepth 100000 in
set_option maxHeartbeats 4000000 in
theorem names_set {w : World} {b o : Nat} {N : Nd} {n : Int} {tx : ByteArray} {ns : List ByteArray} {ks : List Tree} (h : TAt w b o (.mk 14 n tx ns ks) N) (hc : ns.length ≠ 1) : Calls Tryz.prog 23 #[.agg (scs b o 72)] w (PostR w (.bool false)) := by
  have hk := h.k
  have hkk : N.kind = 14 := rd_kind h.r
  obtain ⟨bN, s0, s1, n0, n1, n2, n3, n4, HB⟩ := sp_start 72 hk
  have HBN := Lib.hid bN
  have HK := Lib.hid hk
  rw [hkk] at n0
  have e4 : N.names.n = ns.length := rd_names h.r
  obtain ⟨m, hm⟩ : ∃ m, N.names.n = m := ⟨_, rfl⟩
  rw [hm] at n3 e4
  have fq : ((m : Int) != 1) = true := by simp; omega
  clear h hk hkk bN hm hc e4
  go_enter Tryz.func23, Tryz.ntmps23
  go_wp2
  go_ret
  exact ⟨rfl, HB.out⟩
set_option maxRecDepth 100000 in
set_option maxHeartbeats 4000000 in
theorem names_all {w : World} {b o : Nat} {p : Int} {N : Nd} {n : Int} {tx : ByteArray} {ns : List ByteArray} {ks : List Tree} (h : TAt w b o (.mk 14 n tx ns ks) N) (hs : ∀ x ∈ ns, x.size ≤ 1048576) (hp : p ≠ 71 ∧ p ≠ 72) : Calls Tryz.prog 23 #[.agg (scs b o p)] w (PostR w (.bool (ns.all varB))) := by
  have hk := h.k
  have hkk : N.kind = 14 := rd_kind h.r
  obtain ⟨bN, s0, s1, n0, n1, n2, n3, n4, HB⟩ := sp_start p hk
  have HBN := Lib.hid bN
  have HK := Lib.hid hk
  rw [hkk] at n0
  have e4 : N.names.n = ns.length := rd_names h.r
  have hr := h.r
  unfold Rd at hr
  obtain ⟨-, -, -, hl, -⟩ := hr
  have hmx : ns.length ≤ 9223372036854775807 := by have h1 := hl.2.1; have h2 := hl.2.2.1; unfold maxLen at h2; omega
  obtain ⟨m, hm⟩ : ∃ m, ns.length = m := ⟨_, rfl⟩
  rw [hm] at hmx e4
  have hmi : (m : Int) ≤ 9223372036854775807 := by omega
  obtain ⟨a3, c3, hk3⟩ : ∃ a c, N.names = ⟨a, m, c⟩ := ⟨_, _, by rw [← e4]⟩
  rw [hk3] at n3
  simp only at n3
  obtain ⟨R, hR⟩ : ∃ R, ns.all varB = R := ⟨_, rfl⟩
  have hR0 : R = (ns.drop 0).all varB := hR.symm
  rw [hR]
  have fp1 : (p == 71) = false := by simp; omega
  have fp2 : (p == 72) = false := by simp; omega
  have HR0 := Lib.hid hR0
  have HL := Lib.hid hl
  have HS := Lib.hid hs
  have HM := Lib.hid hm
  have HK3 := Lib.hid hk3
  clear h hk hkk bN hl hs hm hk3 hR hR0 hmx e4 hp
  go_enter Tryz.func23, Tryz.ntmps23
  go_wp2
  go_loopw [37] (fun u wr => ∃ (i : Nat), u = .int .i64 (i : Int) ∧ i ≤ m ∧ Below w.heap.size w wr ∧ Hid (R = (ns.drop i).all varB)) (fun u _ => m - (intOf u).toNat)
  case atStart => exact ⟨0, rfl, Nat.zero_le _, HB.out, HR0⟩
  case round =>
    obtain ⟨i, rfl, hle, hI, hE⟩ := hrel
    by_cases hlt : i < m
    · have hii : (i : Int) < (m : Int) := by omega
      obtain ⟨t, ht⟩ : ∃ t, ns[i]? = some t := ⟨_, List.getElem?_eq_getElem (by have := HM.out; omega)⟩
      obtain ⟨bb, oo, hq, hlt2, hnd⟩ := HL.out.2.2.2 i t ht
      rw [HK3.out] at hq
      simp only at hq
      subst hq
      have l1 := kept_cell (kept_below hI) hlt2 hnd
      have cc := fun W => isVar_any t W (HS.out t (List.mem_of_getElem? ht))
      have he := hE.out
      rw [all_stepP ht] at he
      have HI := Lib.hid hI
      obtain ⟨r, hr⟩ : ∃ r, varB t = r := ⟨_, rfl⟩
      rw [hr] at cc he
      clear ht hnd hr hlt2 hE
      cases r with
      | true =>
        rw [Bool.true_and] at he
        have HE := Lib.hid he
        clear hI he
        go_wp2_with (go_at_call 43; (with_reducible refine (cc _).mono ?_); intro e w2 hp; obtain ⟨rfl, hb⟩ := hp; have HI2 := Lib.hid (HI.out.trans (hb.mono HI.out.size)); clear hb)
        go_roundw
        case rel => exact ⟨i + 1, by go_num, by omega, HI2.out, HE⟩
        case measure => simp [intOf]; omega
      | false =>
        rw [Bool.false_and] at he
        have HE := Lib.hid he
        clear hI he
        go_wp2_with (go_at_call 43; (with_reducible refine (cc _).mono ?_); intro e w2 hp; obtain ⟨rfl, hb⟩ := hp; have HI2 := Lib.hid (HI.out.trans (hb.mono HI.out.size)); clear hb)
        go_ret
        exact ⟨by rw [HE.out]; rfl, HI2.out⟩
    · have he := hE.out
      rw [List.drop_eq_nil_of_le (by have := HM.out; omega)] at he
      have HE : Hid (R = true) := Lib.hid he
      have HI := Lib.hid hI
      clear hI he hE
      go_wp2
      go_ret
      exact ⟨by rw [HE.out]; rfl, HI.out⟩
set_option maxRecDepth 100000 in
set_option maxHeartbeats 4000000 in
theorem names_one {w : World} {b o : Nat} {N : Nd} {n : Int} {tx : ByteArray} {ns : List ByteArray} {ks : List Tree} (h : TAt w b o (.mk 14 n tx ns ks) N) (hs : ∀ x ∈ ns, x.size ≤ 1048576) (hp : ns.length = 1) : Calls Tryz.prog 23 #[.agg (scs b o 72)] w (PostR w (.bool (ns.all varB))) := by
  have hk := h.k
  have hkk : N.kind = 14 := rd_kind h.r
  obtain ⟨bN, s0, s1, n0, n1, n2, n3, n4, HB⟩ := sp_start 72 hk
  have HBN := Lib.hid bN
  have HK := Lib.hid hk
  rw [hkk] at n0
  have e4 : N.names.n = ns.length := rd_names h.r
  have hr := h.r
  unfold Rd at hr
  obtain ⟨-, -, -, hl, -⟩ := hr
  have hmx : ns.length ≤ 9223372036854775807 := by have h1 := hl.2.1; have h2 := hl.2.2.1; unfold maxLen at h2; omega
  obtain ⟨m, hm⟩ : ∃ m, ns.length = m := ⟨_, rfl⟩
  rw [hm] at hmx e4
  have hmi : (m : Int) ≤ 9223372036854775807 := by omega
  obtain ⟨a3, c3, hk3⟩ : ∃ a c, N.names = ⟨a, m, c⟩ := ⟨_, _, by rw [← e4]⟩
  rw [hk3] at n3
  simp only at n3
  obtain ⟨R, hR⟩ : ∃ R, ns.all varB = R := ⟨_, rfl⟩
  have hR0 : R = (ns.drop 0).all varB := hR.symm
  rw [hR]
  have fm : ((m : Int) != 1) = false := by rw [← hm, hp]; rfl
  have HR0 := Lib.hid hR0
  have HL := Lib.hid hl
  have HS := Lib.hid hs
  have HM := Lib.hid hm
  have HK3 := Lib.hid hk3
  clear h hk hkk bN hl hs hm hk3 hR hR0 hmx e4 hp
  go_enter Tryz.func23, Tryz.ntmps23
  go_wp2
  go_loopw [37] (fun u wr => ∃ (i : Nat), u = .int .i64 (i : Int) ∧ i ≤ m ∧ Below w.heap.size w wr ∧ Hid (R = (ns.drop i).all varB)) (fun u _ => m - (intOf u).toNat)
  case atStart => exact ⟨0, rfl, Nat.zero_le _, HB.out, HR0⟩
  case round =>
    obtain ⟨i, rfl, hle, hI, hE⟩ := hrel
    by_cases hlt : i < m
    · have hii : (i : Int) < (m : Int) := by omega
      obtain ⟨t, ht⟩ : ∃ t, ns[i]? = some t := ⟨_, List.getElem?_eq_getElem (by have := HM.out; omega)⟩
      obtain ⟨bb, oo, hq, hlt2, hnd⟩ := HL.out.2.2.2 i t ht
      rw [HK3.out] at hq
      simp only at hq
      subst hq
      have l1 := kept_cell (kept_below hI) hlt2 hnd
      have cc := fun W => isVar_any t W (HS.out t (List.mem_of_getElem? ht))
      have he := hE.out
      rw [all_stepP ht] at he
      have HI := Lib.hid hI
      obtain ⟨r, hr⟩ : ∃ r, varB t = r := ⟨_, rfl⟩
      rw [hr] at cc he
      clear ht hnd hr hlt2 hE
      cases r with
      | true =>
        rw [Bool.true_and] at he
        have HE := Lib.hid he
        clear hI he
        go_wp2_with (go_at_call 43; (with_reducible refine (cc _).mono ?_); intro e w2 hp; obtain ⟨rfl, hb⟩ := hp; have HI2 := Lib.hid (HI.out.trans (hb.mono HI.out.size)); clear hb)
        go_roundw
        case rel => exact ⟨i + 1, by go_num, by omega, HI2.out, HE⟩
        case measure => simp [intOf]; omega
      | false =>
        rw [Bool.false_and] at he
        have HE := Lib.hid he
        clear hI he
        go_wp2_with (go_at_call 43; (with_reducible refine (cc _).mono ?_); intro e w2 hp; obtain ⟨rfl, hb⟩ := hp; have HI2 := Lib.hid (HI.out.trans (hb.mono HI.out.size)); clear hb)
        go_ret
        exact ⟨by rw [HE.out]; rfl, HI2.out⟩
    · have he := hE.out
      rw [List.drop_eq_nil_of_le (by have := HM.out; omega)] at he
      have HE : Hid (R = true) := Lib.hid he
      have HI := Lib.hid hI
      clear hI he hE
      go_wp2
      go_ret
      exact ⟨by rw [HE.out]; rfl, HI.out⟩
end Go.Proofs.YtinoaajohkafmaaGreat.Pr

/-
  The program's declared and declaresTwice.
-/
namespace Go.Proofs.YtinoaajohkafmaaGreat.Ey
open Go Go.RowKit Go.Maps Go.Proofs.YtinoaajohkafmaaGreat.Pa Go.Proofs.YtinoaajohkafmaaGreat.Pr
open Go.Proofs.YtinoaajohkafmaaGreat.Lx
set_option linter.unusedVariables false
set_option linter.unusedSimpArgs false
attribute [local irreducible] kcs ncs ncells
theorem wpList_app_run {P : Program} {ops : Array Oper} {rest : List Oper} {o : Oper} {a : Act} {w w' : World} {Q : Exit → Act → World → Prop} (hgd : o.guard = none) (s x : Operand) (t : TypeId) (ho : o.op = Op.call { callee := Callee.builtin Builtin.append, args := #[s, x], argTypes := #[t, t] }) (ht : o.type = t)
    (v1 v2 v' : Value) (hs : a.eval s = v1) (hx : a.eval x = v2) (hrun : (Builtin.append_ #[t, t] t #[v1, v2]).run P w = .ok v' w') (h : wpList P ops Q rest (a.put o.dst v') w') : wpList P ops Q (o :: rest) a w := by
  refine wpList_plain hgd fun K hK => ?_
  subst ht
  unfold Oper.wp
  simp [execOp, ho, resolve, invoke, builtin, hs, hx, hrun, Result.andThen]
  exact hK _ _ h
def Fun1 (ks : List Tree) : Prop := ∀ t ∈ ks, t.kind = 32 → t.kids ≠ []
theorem declN_step {ks : List Tree} {i : Nat} {t : Tree} (h : ks[i]? = some t) : declN (ks.take (i + 1)) = declN (ks.take i) ++ decl1 t := by
  obtain ⟨hl, rfl⟩ := List.getElem?_eq_some_iff.1 h
  have e := List.take_succ_eq_append_getElem hl
  unfold declN
  rw [e, List.flatMap_append]
  simp
theorem decl1_len (t : Tree) : (decl1 t).length ≤ 1 := by
  unfold decl1
  split
  · exact Nat.le_refl _
  · split
    · exact Nat.le_refl _
    · exact Nat.zero_le _
theorem declN_len (ks : List Tree) : (declN ks).length ≤ ks.length := by
  induction ks with
  | nil => exact Nat.le_refl _
  | cons t r ih =>
    have := decl1_len t
    simp only [declN, List.flatMap_cons, List.length_append, List.length_cons] at ih ⊢
    omega
theorem decl_fine {ks : List Tree} (h : Strs ks) : ∀ x ∈ declN ks, Fine x := by
  intro x hx
  obtain ⟨t, ht, hx⟩ := List.mem_flatMap.1 hx
  obtain ⟨i, hi, e⟩ := List.getElem_of_mem ht
  have hs : Str t := h.at (i := i) (by rw [List.getElem?_eq_getElem hi, e])
  obtain ⟨k, n, tx, ns, ks2⟩ := t
  have hs := hs.of
  unfold decl1 Tree.kind Tree.text Tree.kids at hx
  simp only at hx
  split at hx
  · simp at hx; subst hx; exact hs.1
  · split at hx
    · simp at hx
      subst hx
      cases ks2 with
      | nil => show (0 : Nat) ≤ 1048576; omega
      | cons t r =>
        have h2 := hs.2.2
        unfold Strs at h2
        obtain ⟨k', n', tx', ns', ks'⟩ := t
        exact h2.1.of.1
    · simp at hx
theorem nm_empty {B : Nat} (w : World) (h : B ≤ w.heap.size) : Nm B (w.alloc (.cells #[] 9)) (.slice (some ⟨w.heap.size, 0, none⟩) 0 0) [] :=
  ⟨rfl, .inr ⟨w.heap.size, 0, #[], rfl, h, heap_alloc_new w _, Nat.le_refl _, Nat.zero_le _, rfl, rfl⟩⟩
def DecP (w : World) (l : List ByteArray) (e : Ending) (w' : World) : Prop := ∃ a c, e = .returned (.slice a l.length c) ∧ Nm w.heap.size w' (.slice a l.length c) l ∧ Below w.heap.size w w'
structure DcI (w : World) (ns : List ByteArray) (ks : List Tree) (k : Nat) (v : Value) (wr : World) : Prop where
  own : Nm w.heap.size wr v (ns ++ declN (ks.take k))
  bel : Below w.heap.size w wr
set_option maxRecDepth 100000 in
set_option maxHeartbeats 4000000 in
theorem declared_any {w : World} {b o : Nat} {k n : Int} {tx : ByteArray} {ns : List ByteArray} {ks : List Tree} {N : Nd} (hT : TAt w b o (.mk k n tx ns ks) N) (hn : ns.length ≤ 100000) (hk : ks.length ≤ 100000) (hf : Fun1 ks) : Calls Tryz.prog 28 #[.pointer (some ⟨b, o, none⟩)] w (DecP w (ns ++ declN ks)) := by
  have c3 := hT.k.names (Below.refl _ w)
  have c4 := hT.k.kids (Below.refl _ w)
  have hlen := hT.kids
  have htx : Txs w N.names ns := by have := hT.r; unfold Rd at this; exact this.2.2.2.1
  have hb1 : Below w.heap.size w (w.alloc (.cells #[] 9)) := (Below.refl _ w).alloc (Nat.le_refl _) _
  have hnm := nm_empty (B := w.heap.size) w (Nat.le_refl _)
  obtain ⟨v2, W2, hrun2, hnm2, hb2⟩ := nm_src hnm hb1.size (Nat.zero_le _) (htx.kept (kept_below hb1)) (by omega)
  have hst : DcI w ns ks 0 v2 W2 := ⟨by simpa [declN] using hnm2, hb1.trans hb2⟩
  have q3 : (w.alloc (.cells #[] 9)).cell? ⟨b, o + 3, none⟩ = some (.slice N.names.a N.names.n N.names.c) := hT.k.names hb1
  have q4 : W2.cell? ⟨b, o + 4, none⟩ = some (.slice N.kids.a N.kids.n N.kids.c) := hT.k.kids (hb1.trans hb2)
  obtain ⟨m, hm⟩ : ∃ m, ks.length = m := ⟨_, rfl⟩
  rw [hlen, hm] at q4
  have HT := Lib.hid hT
  have HM := Lib.hid hm
  have HST := Lib.hid hst
  have HF := Lib.hid hf
  have HK := Lib.hid hk
  have HN := Lib.hid hn
  clear hT c3 c4 htx hb1 hnm hnm2 hb2 hst hf hlen hm hk hn
  go_enter Tryz.func28, Tryz.ntmps28
  go_wp2_with (at_builtin; refine wpList_app_run rfl (.tmp 6) (.tmp 10) 22 rfl rfl _ _ _ rfl rfl hrun2 ?_)
  go_loopw [3, 17] (fun v i wr => ∃ j : Nat, j ≤ m ∧ i = .int .i64 j ∧ DcI w ns ks j v wr) (fun _ i _ => m - (intOf i).toNat)
  case atStart => exact ⟨0, Nat.zero_le _, rfl, HST.out⟩
  case round =>
    obtain ⟨j, hj, rfl, hI⟩ := hrel
    by_cases hlt : j < m
    · obtain ⟨t, ht⟩ : ∃ t, ks[j]? = some t := ⟨ks[j]'(by have := HM.out; omega), List.getElem?_eq_getElem _⟩
      obtain ⟨b2, o2, x, r1, r2, r3, r4, r5⟩ := HT.out.kid ht
      have r5' := r5.below hI.bel
      have z4 : _ := HT.out.k.kids hI.bel
      rw [r1, HT.out.kids, HM.out] at z4
      have z0 : _ := r5.k.kind hI.bel
      rw [rd_kind r5.r] at z0
      have t1 : (j : Int) < m := by omega
      have t2 : decide ((m : Int) ≤ j) = false := by simp; omega
      have hw : wrap64 ((j : Int) + 1) = j + 1 := by unfold wrap64; have := HM.out; have := HK.out; omega
      have HLT := Lib.hid hlt
      have hds := declN_step ht
      have hll : (ns ++ declN (ks.take j)).length ≤ 1000000 := by
        have := declN_len (ks.take j)
        have := HN.out; have := HK.out
        rw [List.length_append]
        have h3 : (ks.take j).length ≤ ks.length := by simp; omega
        omega
      have s0 := hI.bel.size
      by_cases h30 : t.kind = 30 ∨ t.kind = 31
      · have hd1 : decl1 t = [t.text] := by unfold decl1; rw [if_pos h30]
        have z2 := r5.k.text hI.bel
        rw [rd_text r5.r] at z2
        obtain ⟨g, c, W5, hrun, hn5, hb5⟩ := nm_app hI.own s0 hll t.text
        have HE : Hid (DcI w ns ks (j + 1) (.slice (some ⟨g, 0, none⟩) ((ns ++ declN (ks.take j)).length + 1) c) W5) := Lib.hid ⟨by rw [hds, hd1, ← List.append_assoc]; exact hn5, hI.bel.trans hb5⟩
        obtain ⟨L, hL⟩ : ∃ L, (ns ++ declN (ks.take j)).length = L := ⟨_, rfl⟩
        rw [hL] at hrun HE
        obtain ⟨K, hK⟩ : ∃ K, t.kind = K := ⟨_, rfl⟩
        rw [hK] at z0 h30
        clear hI r5 r5' r1 r2 r3 r4 hds hll s0 hd1 hn5 hb5 ht hj hL hK
        rcases h30 with rfl | rfl
        · go_wp2_with (at_builtin; refine wpList_app_run rfl (.tmp 33) (.tmp 38) 22 rfl rfl _ _ _ rfl rfl hrun ?_)
          go_roundw
          · exact ⟨j + 1, HLT.out, by congr 1, HE.out⟩
          · exact meas_w hw HLT.out
        · go_wp2_with (at_builtin; refine wpList_app_run rfl (.tmp 33) (.tmp 38) 22 rfl rfl _ _ _ rfl rfl hrun ?_)
          go_roundw
          · exact ⟨j + 1, HLT.out, by congr 1, HE.out⟩
          · exact meas_w hw HLT.out
      · by_cases h32 : t.kind = 32
        · have hd1 : decl1 t = [headT t.kids] := by unfold decl1; rw [if_neg h30, if_pos h32]
          obtain ⟨k', n', tx', ns', ks'⟩ := t
          have hne := HF.out _ (List.mem_of_getElem? ht) h32
          obtain ⟨u, us, rfl⟩ : ∃ u us, ks' = u :: us := by
            cases ks' with
            | nil => exact absurd rfl hne
            | cons u us => exact ⟨u, us, rfl⟩
          obtain ⟨b3, o3, y, p1, p2, p3, p4, p5⟩ := r5.kid (i := 0) (t := u) rfl
          have y4 : _ := r5.k.kids hI.bel
          rw [p1, p2] at y4
          have y2 := p5.k.text hI.bel
          rw [rd_text p5.r, Nat.zero_mul, Nat.add_zero] at y2
          have hht : headT (Tree.mk k' n' tx' ns' (u :: us)).kids = u.text := rfl
          rw [hht] at hd1
          obtain ⟨g, c, W5, hrun, hn5, hb5⟩ := nm_app hI.own s0 hll u.text
          have HE : Hid (DcI w ns ks (j + 1) (.slice (some ⟨g, 0, none⟩) ((ns ++ declN (ks.take j)).length + 1) c) W5) := Lib.hid ⟨by rw [hds, hd1, ← List.append_assoc]; exact hn5, hI.bel.trans hb5⟩
          obtain ⟨L, hL⟩ : ∃ L, (ns ++ declN (ks.take j)).length = L := ⟨_, rfl⟩
          rw [hL] at hrun HE
          obtain ⟨M2, hM2⟩ : ∃ M2 : Nat, (u :: us).length = M2 + 1 := ⟨us.length, rfl⟩
          rw [hM2] at y4
          rw [h32] at z0
          have e0 : decide ((M2 : Int) + 1 ≤ 0) = false := by simp; try omega
          clear hI r5 r5' r1 r2 r3 r4 hds hll s0 hd1 hn5 hb5 ht hj hL h30 h32 p1 p2 p3 p4 p5 hht hne hM2
          go_wp2_with (at_builtin; refine wpList_app_run rfl (.tmp 42) (.tmp 50) 22 rfl rfl _ _ _ rfl rfl hrun ?_)
          go_roundw
          · exact ⟨j + 1, HLT.out, by congr 1, HE.out⟩
          · exact meas_w hw HLT.out
        · have hd1 : decl1 t = [] := by unfold decl1; rw [if_neg h30, if_neg h32]
          have hI2 : DcI w ns ks (j + 1) _ wr := ⟨by rw [hds, hd1, List.append_nil]; exact hI.own, hI.bel⟩
          have HE := Lib.hid hI2
          obtain ⟨K, hK⟩ : ∃ K, t.kind = K := ⟨_, rfl⟩
          rw [hK] at z0 h30 h32
          have f0 : (K == 30) = false := by simp; omega
          have f1 : (K == 31) = false := by simp; omega
          have f2 : (K == 32) = false := by simp; omega
          clear hI hI2 r5 r5' r1 r2 r3 r4 hds hll s0 hd1 ht hj hK h30 h32
          go_wp2
          go_roundw
          · exact ⟨j + 1, HLT.out, by congr 1, HE.out⟩
          · exact meas_w hw HLT.out
    · obtain rfl : j = m := by omega
      have e : ks.take j = ks := List.take_of_length_le (by have := HM.out; omega)
      have hown := hI.own
      rw [e] at hown
      obtain ⟨a, c, rfl⟩ := hown.shape
      have t2 : decide ((j : Int) < j) = false := by simp
      have HE : Hid (DecP w (ns ++ declN ks) (.returned (.slice a (ns ++ declN ks).length c)) wr) := Lib.hid ⟨a, c, rfl, hown, hI.bel⟩
      clear hj hlt e hI hown
      go_wp2
      go_ret
      exact HE.out
set_option maxRecDepth 100000 in
set_option maxHeartbeats 4000000 in
theorem dtwice_any {w : World} {b o : Nat} {k n : Int} {tx : ByteArray} {ns : List ByteArray} {ks : List Tree} {N : Nd} (hT : TAt w b o (.mk k n tx ns ks) N) (hs : Str (.mk k n tx ns ks)) (hn : ns.length ≤ 100000) (hk : ks.length ≤ 100000) (hf : Fun1 ks) : Calls Tryz.prog 15 #[.pointer (some ⟨b, o, none⟩)] w (PostR w (.bool (twiceB k ns ks))) := by
  have c0 := hT.k.kind (Below.refl _ w)
  rw [rd_kind hT.r] at c0
  replace c0 : w.cell? ⟨b, o, none⟩ = some (.int .i64 k) := c0
  have hd := declared_any hT hn hk hf
  have hll : (ns ++ declN ks).length ≤ 1000000 := by have := declN_len ks; rw [List.length_append]; omega
  have hfi : ∀ x ∈ ns ++ declN ks, Fine x := fun x hx => by
    rcases List.mem_append.1 hx with h | h
    · exact hs.of.2.1 x h
    · exact decl_fine hs.of.2.2 x h
  have ht := fun (a : Option Addr) (c : Nat) (W : World) (h : Nm w.heap.size W (.slice a (ns ++ declN ks).length c) (ns ++ declN ks)) => twice_any h hll hfi
  obtain ⟨L, hL⟩ : ∃ L, ns ++ declN ks = L := ⟨_, rfl⟩
  have e : twiceB k ns ks = (scopeB k && dupF [] L) := by rw [← hL]; rfl
  rw [e]
  rw [hL] at hd ht
  clear hT hs hn hk hf hll hfi hL e
  by_cases h : k = 14 ∨ k = 40 ∨ k = 44
  · have e : scopeB k = true := decide_eq_true h
    rw [e, Bool.true_and]
    clear e
    rcases h with rfl | rfl | rfl
    all_goals
      go_enter Tryz.func15, Tryz.ntmps15
      go_wp2_with (go_at_call 28; (with_reducible refine hd.mono ?_); rintro e w1 ⟨a, c, rfl, hn1, hb1⟩; refine Hid.out ?_)
      refine Lib.hid ?_
      have h2 := ht a c w1 hn1
      have HB := Lib.hid hb1
      clear hn1 hb1 ht hd
      go_wp2_with (go_at_call 27; (with_reducible refine h2.mono ?_); rintro e w2 ⟨rfl, hb2⟩)
      go_ret
      exact ⟨rfl, HB.out.trans (hb2.mono HB.out.size)⟩
  · have e : scopeB k = false := decide_eq_false h
    rw [e, Bool.false_and]
    have f0 : (k == 14) = false := by simp; omega
    have f1 : (k == 40) = false := by simp; omega
    have f2 : (k == 44) = false := by simp; omega
    clear hd ht h e
    go_enter Tryz.func15, Tryz.ntmps15
    go_wp2
    go_ret
    exact ⟨rfl, Below.refl _ _⟩
end Go.Proofs.YtinoaajohkafmaaGreat.Ey
