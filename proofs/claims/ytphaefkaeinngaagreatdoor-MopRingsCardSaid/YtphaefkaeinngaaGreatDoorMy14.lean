/-
  Texts of this seat in build order: MwHeap2, MwHeap3, MoSmall, MwAsk.
-/
import Derived.Test.YtphaefkaeinngaaGreatDoorMy13
import Derived.Test.YtphaefkaeinngaaGreatDoorMy10
import Derived.Deep.RegionWith
import Derived.Handy
/-
  What Put, Drop, Keys, Get, Set and Make leave of a world.
-/
namespace Go.Proofs.YtphaefkaeinngaaGreatDoor.Mw
open Go Go.RowKit Go.Maps Go.Proofs.YtphaefkaeinngaaGreatDoor.Keys Go.Proofs.YtphaefkaeinngaaGreatDoor.Hp Go.Proofs.YtphaefkaeinngaaGreatDoor.Mo
open Go.Proofs.YtphaefkaeinngaaGreatDoor.Des (Vl Ds zeroV zeroD dcs dcs_size dcs_one)
open Go.Proofs.YtphaefkaeinngaaGreatDoor.Arrs (En ecs)
set_option linter.unusedVariables false
set_option linter.unusedSimpArgs false
section
variable {X : Cx} {c : Nat} {M : Wm} {w w' : World} {A : Aw}
theorem put_none (hb : Nat) (room : Int) (a : Option Addr) (n c : Nat) (sy o : Int) (k : KV) (d : Ds) (w : World) (h : Blk w hb (hp room (.slice a n c) sy) 87) (ho : o < 0 ∨ (n : Int) ≤ o) :
    Calls Tryz.prog 124 #[ptr hb, .int .i64 o, .agg (kcs k), .agg (dcs d)] w fun e w' => (∃ b, e = .returned (.bool b)) ∧ Below w.heap.size w w' := by
  obtain ⟨w1, hw1⟩ : ∃ w1, (w.alloc (.cells #[.string k.1, .int .i64 k.2] 32)).alloc (.cells (dcs d) 34) = w1 := ⟨_, rfl⟩
  have b1 : Below w.heap.size w w1 := by rw [← hw1]; exact ((Below.refl _ w).alloc (Nat.le_refl _) _).alloc (by simp) _
  have hob := object_none hb room a n c sy o w1 (h.call b1) ho
  have B1 := Lib.hid b1
  clear h ho b1
  unfold kcs
  go_enter Tryz.func124, Tryz.ntmps124
  go_wp2_with (go_at_call 40; refine hob.mono ?_; rintro e wz ⟨rfl, rfl⟩)
  go_ret
  exact ⟨⟨_, rfl⟩, B1.out⟩
theorem drop_none (hb : Nat) (room : Int) (a : Option Addr) (n c : Nat) (sy o : Int) (k : KV) (w : World) (h : Blk w hb (hp room (.slice a n c) sy) 87) (ho : o < 0 ∨ (n : Int) ≤ o) :
    Calls Tryz.prog 138 #[ptr hb, .int .i64 o, .agg (kcs k)] w fun e w' => (∃ b, e = .returned (.bool b)) ∧ Below w.heap.size w w' := by
  obtain ⟨w1, hw1⟩ : ∃ w1, w.alloc (.cells #[.string k.1, .int .i64 k.2] 32) = w1 := ⟨_, rfl⟩
  have b1 : Below w.heap.size w w1 := by rw [← hw1]; exact (Below.refl _ w).alloc (Nat.le_refl _) _
  have hob := object_none hb room a n c sy o w1 (h.call b1) ho
  have B1 := Lib.hid b1
  clear h ho b1
  unfold kcs
  go_enter Tryz.func138, Tryz.ntmps138
  go_wp2_with (go_at_call 40; refine hob.mono ?_; rintro e wz ⟨rfl, rfl⟩)
  all_goals (try go_region)
  all_goals (try go_wp2)
  all_goals go_ret
  all_goals exact ⟨⟨_, rfl⟩, by first | exact B1.out | exact B1.out.drew⟩
theorem ObIs.turned {q : Oq} {x : Ob} {n : Nat} {ns : List Nd} {es : List En} (h : ObIs w q x) (ht : Turn w w' q.pb q.mb q.ns) (ho : Obj1 w' q.pb q.mb n ns) (hn : Once1 ns) (he : ns.map (·.e) = es) (hf : ∀ e ∈ es, Fine (ekey e)) (hl : es.length ≤ n) : ObIs w' { q with n := n, ns := ns } { x with es := es } := by
  refine ⟨ht.blk h.blk (h.obj.ring.notblk h.blk (by decide) (by decide)) (blk_nemap h.blk h.obj.map), h.nop, h.noa, ho, hn, he, hf, own_same h.row fun b cs _ hb => ht.same b hb.lt (h.obj.ring.notblk hb (by decide) (by decide)) (blk_nemap hb h.obj.map), hl, h.vlen⟩
theorem bl_cb {q q' : Oq} {n : Nat} (h : ∀ b ∈ q'.cb, b ∈ q.cb ∨ n ≤ b) (ha : q'.args = q.args) : ∀ b ∈ q'.bl, b ∈ q.bl ∨ n ≤ b := fun b hb => by
  rcases List.mem_append.1 hb with hb | hb
  · rw [ha] at hb
    exact .inl (List.mem_append_left _ hb)
  · exact (h b hb).imp (List.mem_append_right _) id
theorem once_key {l r : List Nd} {x : Nd} (h : Once1 (l ++ x :: r)) : (∀ y ∈ l, ekey y.e ≠ ekey x.e) ∧ ∀ y ∈ r, ekey y.e ≠ ekey x.e := by
  have hn := h.once
  simp only [List.map_append, List.map_cons, List.nodup_append, List.nodup_cons] at hn
  exact ⟨fun m hm e => hn.2.2 (ekey m.e) (List.mem_map.2 ⟨m, hm, rfl⟩) (ekey x.e) (by simp) e, fun m hm e => hn.2.1.1 (e ▸ List.mem_map.2 ⟨m, hm, rfl⟩)⟩
theorem map_other {l : List Nd} {k : KV} {f : En → En} (h : ∀ y ∈ l, ekey y.e ≠ k) : (l.map (·.e)).map (fun e => if ekey e = k then f e else e) = l.map (·.e) := by
  rw [List.map_map]
  apply List.map_congr_left
  intro y hy
  simp [h y hy]
theorem put_old {l r : List Nd} {x : Nd} (d : Ds) (h : Once1 (l ++ x :: r)) : putL ((l ++ x :: r).map (·.e)) (ekey x.e) d = (l ++ x.desc d :: r).map (·.e) := by
  unfold putL
  have hf : find ((l ++ x :: r).map (·.e)) (ekey x.e) = some x.e.d := by
    obtain ⟨l', x', r', h1, h2, h3, h4⟩ := find_look h.look
    rw [h4]
    have hx' : x' ∈ l ++ x :: r := h1 ▸ by simp
    obtain ⟨k1, k2⟩ := once_key h
    rcases List.mem_append.1 hx' with hm | hm
    · exact absurd h2 (k1 _ hm)
    · rcases List.mem_cons.1 hm with rfl | hm
      · rfl
      · exact absurd h2 (k2 _ hm)
  obtain ⟨k1, k2⟩ := once_key h
  rw [hf]
  simp only [Option.isSome_some, if_true]
  rw [List.map_append, List.map_cons, List.map_append, List.map_cons, map_other k1, map_other k2, List.map_append, List.map_cons]
  simp only [if_true]
  rfl
theorem put_new {ns : List Nd} {k : KV} (d : Ds) (h : Hp.look ns k = none) : putL (ns.map (·.e)) k d = ns.map (·.e) ++ [⟨k.1, k.2, d⟩] := by
  unfold putL
  rw [find_none h]
  rfl
theorem drop_old {l r : List Nd} {x : Nd} (h : Once1 (l ++ x :: r)) : dropL ((l ++ x :: r).map (·.e)) (ekey x.e) = (l ++ r).map (·.e) := by
  obtain ⟨k1, k2⟩ := once_key h
  have k : ∀ {l : List Nd}, (∀ y ∈ l, ekey y.e ≠ ekey x.e) → (l.map (·.e)).filter (fun e => !decide (ekey e = ekey x.e)) = l.map (·.e) := fun hl => by
    rw [List.filter_eq_self]
    intro e he
    obtain ⟨y, hy, rfl⟩ := List.mem_map.1 he
    simpa using hl y hy
  unfold dropL
  rw [List.map_append, List.map_cons, List.filter_append, List.filter_cons, k k1, k k2, List.map_append]
  simp
theorem drop_no {ns : List Nd} {k : KV} (h : Hp.look ns k = none) : dropL (ns.map (·.e)) k = ns.map (·.e) := by
  unfold dropL
  rw [List.filter_eq_self]
  intro e he
  obtain ⟨y, hy, rfl⟩ := List.mem_map.1 he
  simpa using look_none.1 h y hy
theorem setOb_same {i : Nat} {x : Ob} (h : A.objs[i]? = some x) : setOb A i x = A := by
  unfold setOb
  have e : A.objs.set i x = A.objs := by
    apply List.ext_getElem?
    intro j
    rw [List.getElem?_set]
    by_cases hj : i = j
    · subst hj
      have := (List.getElem?_eq_some_iff.1 h).1
      simp [this, h]
      exact (List.getElem?_eq_some_iff.1 h).2.symm
    · rw [if_neg hj]
  rw [Int.toNat_natCast, e]
def LeftB (X : Cx) (c : Nat) (M : Wm) (w : World) (A' : Aw) (e : Ending) (w' : World) : Prop := (∃ b, e = .returned (.bool b)) ∧ ∃ M', M'.hb = M.hb ∧ Left X c M w A' w' M'
theorem LeftB.of {M' : Wm} {A' : Aw} {b : Bool} (h : Left X c M w A' w' M') (hh : M'.hb = M.hb) : LeftB X c M w A' (.returned (.bool b)) w' := ⟨⟨b, rfl⟩, M', hh, h⟩
theorem wPut (h : WIs X (c + 1) M w A) (o : Int) (k : KV) (hk : Fine k) (d : Ds) :
    Calls Tryz.prog 124 #[ptr M.hb, .int .i64 o, .agg (kcs k), .agg (dcs d)] w (LeftB X c M w (putF A o k d)) := by
  unfold putF
  cases hx : at? A o with
  | none =>
    obtain ⟨a, cc, e⟩ := h.os_shape
    have hb := h.hblk
    rw [e] at hb
    exact (put_none M.hb _ a A.objs.length cc _ o k d w hb (at_none hx)).mono fun e w' ⟨h1, h2⟩ => ⟨h1, M, rfl, (h.less (by omega)).call h2, Nx.of_below h2⟩
  | some x =>
    obtain ⟨i, q, g, cc, rfl, hi, hq, hr, hos, hc, hlt⟩ := h.obj hx
    have hb := h.hblk
    rw [hos] at hb
    have hnum := h.num q (List.mem_of_getElem? hq)
    cases hl : Hp.look q.ns k with
    | none =>
      refine (hput M.hb g q.ob q.pb A.objs.length cc A.room A.sy _ k d w hb i hlt hc hr.blk _ fun w1 hb1 => pput_new q.pb q.mb q.n q.ns k d w1 (hr.obj.call hb1) hr.once (by omega) hk hl).mono ?_
      rintro e w' ⟨rfl, w1, hb1, nd, hnd, hsz, hob, hon, htu⟩
      have ht := below_turn hb1 htu
      have hes : (q.ns ++ [nd]).map (·.e) = putL x.es k d := by
        rw [← hr.es, put_new d hl, List.map_append]
        congr 1
        show [nd.e] = _
        rw [hnd]
      have hlen := hr.len
      refine LeftB.of (h.turn (q' := { q with n := q.n + 1, ns := q.ns ++ [nd] }) hq hi ht.fr (fun b hb hn => ht.same b hb (fun hm => hn (by simp [Oq.cb, hm])) (fun e => hn (by simp [Oq.cb, e]))) (hr.turned ht hob hon hes ?_ ?_) rfl ?_ (by show q.n + 1 + _ + c ≤ _; omega) (by omega) (fun hp => h.nopx hp x (List.mem_of_getElem? hi))) rfl
      · rw [← hr.es, put_new d hl]
        intro e he
        rcases List.mem_append.1 he with he | he
        · rw [hr.es] at he; exact hr.fine e he
        · rw [List.mem_singleton.1 he]; exact hk
      · rw [← hr.es, put_new d hl, List.length_append, hr.es]
        simp
        omega
      · refine bl_cb (fun b hbm => ?_) rfl
        simp only [Oq.cb, blks, List.map_append, List.map_cons, List.map_nil, List.mem_cons, List.mem_append, List.not_mem_nil, or_false] at hbm ⊢
        rcases hbm with h1 | h1 | h1 | h1 | h1
        · exact .inl (.inl h1)
        · exact .inl (.inr (.inl h1))
        · exact .inl (.inr (.inr (.inl h1)))
        · exact .inl (.inr (.inr (.inr h1)))
        · right
          have := hb1.size
          omega
    | some b =>
      obtain ⟨l, nd, r, hns, rfl, rfl, hf⟩ := find_look hl
      have hobj := hr.obj
      have hon1 := hr.once
      rw [hns] at hobj hon1
      refine (hput M.hb g q.ob q.pb A.objs.length cc A.room A.sy _ (ekey nd.e) d w hb i hlt hc hr.blk _ fun w1 hb1 => pput_old q.pb q.mb q.n l r nd d w1 (hobj.call hb1) hon1 hk).mono ?_
      rintro e w' ⟨rfl, w1, hb1, hob, hon, htu⟩
      have ht := below_turn hb1 htu
      rw [← hns] at ht
      have hes : (l ++ nd.desc d :: r).map (·.e) = putL x.es (ekey nd.e) d := by
        rw [← hr.es, hns, put_old d hon1]
      have hlen := hr.len
      have hln : (putL x.es (ekey nd.e) d).length = x.es.length := by rw [← hes, ← hr.es, hns]; simp
      refine LeftB.of (h.turn (q' := { q with n := q.n, ns := l ++ nd.desc d :: r }) hq hi ht.fr (fun b hb hn => ht.same b hb (fun hm => hn (by simp [Oq.cb, hm])) (fun e => hn (by simp [Oq.cb, e]))) (hr.turned ht hob hon hes ?_ (by omega)) rfl ?_ (by show q.n + _ + c ≤ _; omega) (by omega) (fun hp => h.nopx hp x (List.mem_of_getElem? hi))) rfl
      · rw [← hes]
        intro e he
        obtain ⟨y, hy, rfl⟩ := List.mem_map.1 he
        have hfy : ∀ y ∈ q.ns, Fine (ekey y.e) := fun y hy => hr.fine y.e (by rw [← hr.es]; exact List.mem_map.2 ⟨y, hy, rfl⟩)
        rw [hns] at hfy
        rcases List.mem_append.1 hy with hy | hy
        · exact hfy y (by simp [hy])
        · rcases List.mem_cons.1 hy with rfl | hy
          · exact hk
          · exact hfy y (by simp [hy])
      · refine bl_cb (fun b hbm => ?_) rfl
        left
        simp only [Oq.cb] at hbm ⊢
        rw [blks_desc, ← hns] at hbm
        exact hbm
theorem wDrop (h : WIs X c M w A) (o : Int) (k : KV) (hk : Fine k) :
    Calls Tryz.prog 138 #[ptr M.hb, .int .i64 o, .agg (kcs k)] w (LeftB X c M w (dropF A o k)) := by
  unfold dropF
  cases hx : at? A o with
  | none =>
    obtain ⟨a, cc, e⟩ := h.os_shape
    have hb := h.hblk
    rw [e] at hb
    exact (drop_none M.hb _ a A.objs.length cc _ o k w hb (at_none hx)).mono fun e w' ⟨h1, h2⟩ => ⟨h1, M, rfl, h.call h2, Nx.of_below h2⟩
  | some x =>
    obtain ⟨i, q, g, cc, rfl, hi, hq, hr, hos, hc, hlt⟩ := h.obj hx
    have hb := h.hblk
    rw [hos] at hb
    have hnum := h.num q (List.mem_of_getElem? hq)
    cases hl : Hp.look q.ns k with
    | none =>
      refine (hdrop M.hb g q.ob q.pb A.objs.length cc A.room A.sy _ k false w hb i hlt hc hr.blk _ fun w1 hb1 => pdrop_none q.pb q.mb q.n q.ns k w1 (hr.obj.call hb1) hk hl).mono ?_
      rintro e w' ⟨rfl, w1, hb1, hb2⟩
      have hb3 := hb1.trans (hb2.mono hb1.size)
      refine ⟨⟨_, rfl⟩, M, rfl, ?_⟩
      show Left X c M w (setOb A i { x with es := dropL x.es k }) w' M
      have e1 : ({ x with es := dropL x.es k } : Ob) = x := by
        rw [← hr.es, drop_no hl, hr.es]
      rw [e1, setOb_same hi]
      exact ⟨h.call hb3, Nx.of_below hb3⟩
    | some b =>
      obtain ⟨l, nd, r, hns, rfl, rfl, hf⟩ := find_look hl
      have hobj := hr.obj
      have hon1 := hr.once
      rw [hns] at hobj hon1
      refine (hdrop M.hb g q.ob q.pb A.objs.length cc A.room A.sy _ (ekey nd.e) true w hb i hlt hc hr.blk _ fun w1 hb1 => pdrop_some q.pb q.mb q.n l r nd w1 (hobj.call hb1) hon1 hk).mono ?_
      rintro e w' ⟨rfl, w1, hb1, hob, hon, htu⟩
      have ht := below_turn hb1 htu
      rw [← hns] at ht
      have hes : (l ++ r).map (·.e) = dropL x.es (ekey nd.e) := by rw [← hr.es, hns, drop_old hon1]
      have hlen := hr.len
      have hln : (dropL x.es (ekey nd.e)).length ≤ x.es.length := List.length_filter_le _ _
      refine LeftB.of (h.turn (q' := { q with n := q.n, ns := l ++ r }) hq hi ht.fr (fun b hb hn => ht.same b hb (fun hm => hn (by simp [Oq.cb, hm])) (fun e => hn (by simp [Oq.cb, e]))) (hr.turned ht hob hon hes ?_ (by omega)) rfl ?_ (by show q.n + _ + c ≤ _; omega) (by omega) (fun hp => h.nopx hp x (List.mem_of_getElem? hi))) rfl
      · intro e he
        exact hr.fine e ((List.mem_filter.1 he).1)
      · refine bl_cb (fun b hbm => ?_) rfl
        left
        simp only [Oq.cb, blks, List.map_append, List.mem_cons, List.mem_append] at hbm ⊢
        rw [hns]
        simp only [List.map_append, List.map_cons, List.mem_append, List.mem_cons]
        rcases hbm with h1 | h1 | h1 | h1 | h1
        · exact .inl h1
        · exact .inr (.inl h1)
        · exact .inr (.inr (.inl h1))
        · exact .inr (.inr (.inr (.inl h1)))
        · exact .inr (.inr (.inr (.inr (.inr h1))))
end
end Go.Proofs.YtphaefkaeinngaaGreatDoor.Mw

/-
  What Keys, Get, Set and Make leave of a world.
-/
namespace Go.Proofs.YtphaefkaeinngaaGreatDoor.Mw
open Go Go.RowKit Go.Maps Go.Proofs.YtphaefkaeinngaaGreatDoor.Keys Go.Proofs.YtphaefkaeinngaaGreatDoor.Hp Go.Proofs.YtphaefkaeinngaaGreatDoor.Mo
open Go.Proofs.YtphaefkaeinngaaGreatDoor.Des (Vl Ds zeroV zeroD dcs dcs_size dcs_one)
open Go.Proofs.YtphaefkaeinngaaGreatDoor.Arrs (En ecs)
set_option linter.unusedVariables false
set_option linter.unusedSimpArgs false
section
variable {X : Cx} {c : Nat} {M : Wm} {w w' : World} {A : Aw}
theorem ordF_len (l : List KV) : (ordF l).length ≤ 3 * l.length := by
  have h := once_length l
  have h1 : (idxs (once l)).length ≤ (once l).length := List.length_filterMap_le _ _
  have h2 : (names (once l)).length ≤ (once l).length := List.length_filter_le _ _
  have h3 : (syms (once l)).length ≤ (once l).length := List.length_filter_le _ _
  unfold ordF
  simp only [List.length_append, List.length_map, List.length_mergeSort]
  omega
theorem keys_none (hb : Nat) (room : Int) (a : Option Addr) (n c : Nat) (sy o : Int) (w : World) (h : Blk w hb (hp room (.slice a n c) sy) 87) (ho : o < 0 ∨ (n : Int) ≤ o) :
    Calls Tryz.prog 102 #[ptr hb, .int .i64 o] w fun e w' => e = .returned nilS ∧ Below w.heap.size w w' := by
  have hob := object_none hb room a n c sy o w h ho
  clear h ho
  go_enter Tryz.func102, Tryz.ntmps102
  go_wp2_with (go_at_call 40; refine hob.mono ?_; rintro e wz ⟨rfl, rfl⟩)
  go_ret
  exact ⟨rfl, Below.refl _ _⟩
theorem ks_own {B : List Nat} {b0 : Nat} {v : Value} {ks : List KV} (h : w.ownsRow b0 32 2 v ks.length (cellsK ks)) (hn : ∀ b, b0 ≤ b → b ∉ B) (hl : ks.length ≤ 10000000) : KsOut B w v ks := by
  rcases h.2 with ⟨rfl, h0⟩ | ⟨g, cap, cur, rfl, hg, hb, hle, hcap, hsz, htk⟩
  · exact ⟨none, 0, by rw [h0], hl, .inl (List.eq_nil_of_length_eq_zero h0)⟩
  · refine ⟨_, cap, rfl, hl, .inr ⟨g, 0, cur, rfl, hb, hn g hg, fun j u hj => ?_⟩⟩
    have hlt := (List.getElem?_eq_some_iff.1 hj).1
    rw [h.1] at hlt
    rw [Nat.zero_add, h.cellAt j hlt]
    exact hj
theorem vs_own {B : List Nat} {b0 : Nat} {v : Value} {vs : List Vl} (h : w.ownsRow b0 30 3 v vs.length (cellsV vs)) (hn : ∀ b, b0 ≤ b → b ∉ B) : VsOut B w v vs := by
  rcases h.2 with ⟨rfl, h0⟩ | ⟨g, cap, cur, rfl, hg, hb, hle, hcap, hsz, htk⟩
  · exact ⟨none, 0, by rw [h0], .inl (List.eq_nil_of_length_eq_zero h0)⟩
  · refine ⟨_, cap, rfl, .inr ⟨g, 0, rfl, (Array.getElem?_eq_some_iff.1 hb).1, hn g hg, fun j u hj => ?_⟩⟩
    have hlt := (List.getElem?_eq_some_iff.1 hj).1
    rw [h.1] at hlt
    rw [Nat.zero_add, h.cellAt j hlt]
    exact hj
def KeysPost (B : List Nat) (w : World) (ks : List KV) (e : Ending) (w' : World) : Prop := ∃ kv, e = .returned kv ∧ KsOut B w' kv ks ∧ Below w.heap.size w w'
theorem wKeys (h : WIs X c M w A) (o : Int) : Calls Tryz.prog 102 #[ptr M.hb, .int .i64 o] w (KeysPost (M.bl X.wb) w (keysF A o)) := by
  unfold keysF
  cases hx : at? A o with
  | none =>
    obtain ⟨a, cc, e⟩ := h.os_shape
    have hb := h.hblk
    rw [e] at hb
    exact (keys_none M.hb _ a A.objs.length cc _ o w hb (at_none hx)).mono fun e w' ⟨h1, h2⟩ => ⟨_, h1, KsOut.nil _ _, h2⟩
  | some x =>
    obtain ⟨i, q, g, cc, rfl, hi, hq, hr, hos, hc, hlt⟩ := h.obj hx
    have hb := h.hblk
    rw [hos] at hb
    have hnum := h.num q (List.mem_of_getElem? hq)
    have hlen := hr.len
    have hl2 : q.ns.length = x.es.length := by rw [← hr.es]; simp
    refine (hkeys_any M.hb g q.ob q.pb A.objs.length cc A.room A.sy _ w hb i hlt hc hr.blk q.mb q.n q.ns (x.es.map ekey) (by rw [← hr.es]; simp) hr.obj (by omega) (by omega) (fun k hk => ?_) h.lwAt).mono ?_
    · obtain ⟨e, he, rfl⟩ := List.mem_map.1 hk
      exact hr.fine e he
    · rintro e w' ⟨v, rfl, hrow, hbel⟩
      exact ⟨v, rfl, ks_own hrow (fun b hb => h.new hb) (Nat.le_trans (ordF_len _) (by simp only [List.length_map]; omega)), hbel⟩
def GetP (B : List Nat) (w : World) (x : Ob) (e : Ending) (w' : World) : Prop := ∃ a cc s, e = .returned (.tuple #[.agg (tcs { x.th with props := .slice a x.es.length cc, args := s }), .bool true]) ∧ Hp.EsAt w'.heap.size a x.es w' ∧ VsOut B w' s x.vs ∧ Below w.heap.size w w'
theorem wGet (h : WIs X c M w A) {o : Int} {x : Ob} (hx : at? A o = some x) : Calls Tryz.prog 17 #[ptr M.hb, .int .i64 o] w (GetP (M.bl X.wb) w x) := by
  obtain ⟨i, q, g, cc, rfl, hi, hq, hr, hos, hc, hlt⟩ := h.obj hx
  have hb := h.hblk
  rw [hos] at hb
  have hnum := h.num q (List.mem_of_getElem? hq)
  have hlen := hr.len
  have hvl := hr.vlen
  obtain ⟨aa, ac, hargs⟩ := Hp.own_shape hr.row
  have hrow := hr.row
  rw [hargs] at hrow
  have hvs := vsAt_own hrow
  have hob : ∀ w, Obj1 w q.pb q.mb q.n q.ns → Obj1 w q.pb q.mb q.n q.ns := fun _ h => h
  have hat : ObjAt w 0 q.ob q.pb q.mb q.n { x.th with args := q.args } x.es x.vs q.ns := ⟨hr.blk, hr.nop, ⟨aa, _, ac, hargs⟩, hr.obj, hr.es, hr.row, fun _ _ => Nat.zero_le _, Nat.zero_le _, Nat.zero_le _, fun l x r e _ => hr.once.none x (by rw [e]; simp)⟩
  refine (get_some M.hb g q.ob q.pb q.mb q.n A.objs.length cc i 0 A.room A.sy _ x.es x.vs q.ns w hb hlt hc hat (by omega) (by omega) aa x.vs.length ac hargs fun w1 hb1 => clone_any aa _ ac x.vs w1 rfl (by omega) ((hvs.below hb1).mono hb1.size)).mono ?_
  rintro e w' ⟨a, c1, a', c', rfl, h1, h2, h3⟩
  exact ⟨a, c1, _, rfl, esAt_own h1, vs_own h2 fun b hb => h.new hb, h3⟩
theorem once_chain {ns : List Nd} (h : Chain ns) (hn : (ns.map fun n => ekey n.e).Nodup) : Once1 ns := by
  refine ⟨fun n hm => ?_, hn⟩
  obtain ⟨l, r, rfl⟩ := List.append_of_mem hm
  refine h l n r rfl fun y hy e => ?_
  simp only [List.map_append, List.map_cons, List.nodup_append, List.nodup_cons] at hn
  exact hn.2.1.1 (List.mem_map.2 ⟨y, hy, e⟩)
theorem row_obj {w : World} {b pb mb n : Nat} {ns : List Nd} {cs ds : Array Value} (h : Obj1 w pb mb n ns) (hb : Blk w b cs 107) : Obj1 (w.setRow b ds) pb mb n ns :=
  ⟨h.ring.same fun k hk => setRow_other w b k ds fun e => h.ring.notblk hb (by decide) (by decide) (e ▸ hk), h.map.same (setRow_other w b mb ds fun e => blk_nemap hb h.map e.symm)⟩
structure Give (w : World) (th : Th) (es : List En) (vs : List Vl) : Prop where
  props : ∃ pa pc, th.props = .slice pa es.length pc ∧ Hp.EsAt w.heap.size pa es w
  args : ∃ aa ac, th.args = .slice aa vs.length ac ∧ VsAt w.heap.size aa vs w
  fine : ∀ e ∈ es, Fine (ekey e)
  few : es.length ≤ 900000
  vfew : vs.length ≤ 100000
theorem Give.call {th : Th} {es : List En} {vs : List Vl} (h : Give w th es vs) (hb : Below w.heap.size w w') : Give w' th es vs := by
  obtain ⟨⟨pa, pc, h1, h2⟩, ⟨aa, ac, h3, h4⟩, h5, h6, h7⟩ := h
  exact ⟨⟨pa, pc, h1, (h2.below hb).mono hb.size⟩, ⟨aa, ac, h3, (h4.below hb).mono hb.size⟩, h5, h6, h7⟩
theorem Give.store {th : Th} {es : List En} {vs : List Vl} (h : Give w th es vs) : Calls Tryz.prog 28 #[.agg (tcs th)] w (StorePost w th es vs) := by
  obtain ⟨⟨pa, pc, h1, h2⟩, ⟨aa, ac, h3, h4⟩, h5, h6, h7⟩ := h
  exact store_any th pa es.length pc aa vs.length ac es vs w h1 h3 (fun w2 hb => collect_any pa pc es w2 (by omega) ((h2.below hb).mono hb.size) h5) fun w2 hb => clone_any aa _ ac vs w2 rfl (by omega) ((h4.below hb).mono hb.size)
def bare (t : Th) : Th := { t with props := nilS, args := nilS }
theorem wSet (h : WIs X c M w A) {o : Int} {x : Ob} (hx : at? A o = some x) {th : Th} {es : List En} {vs : List Vl} (hg : Give w th es vs) (hn : (es.map ekey).Nodup) (hc : es.length + 8 * A.fuel.toNat + c ≤ 900000) (hk : X.px = false → th.kind ≠ 4) :
    Calls Tryz.prog 133 #[ptr M.hb, .int .i64 o, .agg (tcs th)] w (LeftB X c M w (setOb A o ⟨bare th, es, vs⟩)) := by
  obtain ⟨i, q, g, cc, rfl, hi, hq, hr, hos, hcl, hlt⟩ := h.obj hx
  have hb := h.hblk
  rw [hos] at hb
  refine (set_some M.hb g q.ob q.pb A.objs.length cc i A.room A.sy th _ es vs w hb hlt hcl hr.blk fun w1 hb1 => (hg.call hb1).store).mono ?_
  rintro e w' ⟨rfl, w1, o2, pb, mb, ns, a, m, cp, hb1, hat, rfl⟩
  have hblk1 := hr.blk.call hb1
  have hq' : ObIs (w1.setRow q.ob (ocs { th with props := nilS, args := .slice a m cp } pb)) ⟨q.ob, pb, mb, es.length, ns, .slice a m cp⟩ ⟨bare th, es, vs⟩ := by
    refine ⟨hblk1.row _, rfl, rfl, row_obj hat.obj hblk1, once_chain hat.chain ?_, hat.es, hg.fine, (own_row hat.row hblk1 (by decide)).mono (Nat.zero_le _), Nat.le_refl _, hg.vfew⟩
    rw [← hat.es, List.map_map] at hn
    exact hn
  refine LeftB.of (h.turn hq hi (w' := w1.setRow q.ob _) (q' := ⟨q.ob, pb, mb, es.length, ns, .slice a m cp⟩) ⟨hb1.os, hb1.tape, hb1.output, by rw [size_setRow]; exact hb1.size⟩ (fun b hbl hn => (setRow_other w1 q.ob b _ fun e => hn (by rw [e]; simp [Oq.cb])).trans (hb1.block b hbl)) hq' rfl (fun b hm => ?_) (by show es.length + _ + c ≤ _; omega) (Nat.le_refl _) hk) rfl
  rcases List.mem_append.1 hm with hm | hm
  · right
    rcases hat.row.2 with ⟨h1, -⟩ | ⟨g2, cap, cur, h1, hg2, -, -⟩
    · rw [show (Value.slice a m cp) = _ from h1] at hm; simp [obl, Value.ownBlock] at hm
    · rw [show (Value.slice a m cp) = _ from h1] at hm; simp [obl, Value.ownBlock] at hm; omega
  · rcases List.mem_cons.1 hm with rfl | hm
    · exact .inl (List.mem_append_right _ (by simp [Oq.cb]))
    · right
      rcases List.mem_cons.1 hm with rfl | hm
      · exact hat.lowm
      · exact hat.low b hm
def MakeP (X : Cx) (c : Nat) (M : Wm) (w : World) (A : Aw) (x : Ob) (e : Ending) (w' : World) : Prop :=
  if (A.objs.length : Int) < A.room then e = .returned (.tuple #[.int .i64 A.objs.length, .bool true]) ∧ ∃ M', M'.hb = M.hb ∧ Left X c M w (makeF x.th x.es x.vs A) w' M' else e = .returned (.tuple #[.int .i64 0, .bool false]) ∧ Below w.heap.size w w'
theorem wMake (h : WIs X (c + 1) M w A) {th : Th} {es : List En} {vs : List Vl} (hg : Give w th es vs) (hn : (es.map ekey).Nodup) (hc : es.length + 8 * A.fuel.toNat + c ≤ 900000) (hk : X.px = false → th.kind ≠ 4) :
    Calls Tryz.prog 14 #[ptr M.hb, .agg (tcs th)] w (MakeP X c M w A ⟨bare th, es, vs⟩) := by
  obtain ⟨a, cc, hos⟩ := h.os_shape
  have hb := h.hblk
  rw [hos] at hb
  have hfew := h.few
  unfold MakeP
  by_cases hr : (A.objs.length : Int) < A.room
  · simp only [if_pos hr]
    have horow := h.orow
    rw [hos] at horow
    refine (make_any 0 M.hb A.room a A.objs.length cc A.sy _ th es vs w hb (Nat.zero_le _) horow (by omega) hr fun w1 hb1 => (hg.call hb1).store).mono ?_
    rintro e w' ⟨rfl, g, c1, h1, ob, pb, mb, ns, a2, m2, c2, h2, hat, h4, h5, h6⟩
    refine ⟨rfl, { M with os := .slice (some ⟨g, 0, none⟩) (A.objs.length + 1) c1, qs := M.qs ++ [⟨ob, pb, mb, es.length, ns, .slice a2 m2 c2⟩] }, rfl, h.grow (q' := ⟨ob, pb, mb, es.length, ns, .slice a2 m2 c2⟩) (x' := ⟨bare th, es, vs⟩) ⟨h4.os, h4.tape, h4.output, h4.size⟩ (fun b hb1 hb2 hb3 => h5 b hb1 hb2 (by rw [← hos]; exact hb3)) h1 h2 (fun b hm => ?_) ?_ (fun b hm => ?_) (by show es.length + _ + c ≤ _; omega) hk⟩
    · simp only [obl, Value.ownBlock, Option.toList_some, List.mem_singleton] at hm
      rw [hm, hos]
      exact h6
    · refine ⟨hat.blk, rfl, rfl, hat.obj, once_chain hat.chain ?_, hat.es, hg.fine, hat.row.mono (Nat.zero_le _), Nat.le_refl _, hg.vfew⟩
      rw [← hat.es, List.map_map] at hn
      exact hn
    · rcases List.mem_append.1 hm with hm | hm
      · rcases hat.row.2 with ⟨h1, -⟩ | ⟨g2, cap, cur, h1, hg2, -, -⟩
        · rw [show (Value.slice a2 m2 c2) = _ from h1] at hm; simp [obl, Value.ownBlock] at hm
        · rw [show (Value.slice a2 m2 c2) = _ from h1] at hm; simp [obl, Value.ownBlock] at hm; omega
      · rcases List.mem_cons.1 hm with rfl | hm
        · exact hat.lowo
        · rcases List.mem_cons.1 hm with rfl | hm
          · exact hat.lowm
          · exact hat.low b hm
  · simp only [if_neg hr]
    exact make_full M.hb A.room a A.objs.length cc A.sy th w hb (by omega)
end
end Go.Proofs.YtphaefkaeinngaaGreatDoor.Mw

/-
  Small functions of the worlds.
-/
namespace Go.Proofs.YtphaefkaeinngaaGreatDoor.Mo
open Go Go.RowKit Go.Maps Go.Shelf Go.Proofs.YtphaefkaeinngaaGreatDoor.Keys Go.Proofs.YtphaefkaeinngaaGreatDoor.Hp
open Go.Proofs.YtphaefkaeinngaaGreatDoor.Des (Vl Ds zeroV zeroD dcs dcs_size dcs_one)
open Go.Proofs.YtphaefkaeinngaaGreatDoor.Arrs (En ecs ecs_0 ecs_1 ecs_10 ecs_size ecs_list ecs_one ecs_one')
set_option linter.unusedVariables false
set_option linter.unusedSimpArgs false
attribute [local go_sem ↓] ldR stR alR bxR bdR bdD bdE ldD stD alD
attribute [local irreducible] rcs dcs ecs
set_option maxRecDepth 10000
attribute [local go_sem] run_bx run_alR run_stRg run_bdR0 run_bdR1 run_bdR2 run_bdData run_bdEn run_alD run_stDg rcs_0
theorem null_any (w : World) : Calls Tryz.prog 55 #[] w fun e w' => e = .returned (.agg (vcs ⟨1, 0, ⟨#[]⟩⟩)) ∧ Below w.heap.size w w' := by
  go_enter Tryz.func55, Tryz.ntmps55
  go_wp2
  refine bodyPost_ret (res_V rfl _ _ _ ⟨1, 0, ⟨#[]⟩⟩ rfl (Blk.new _ _ _)) rfl ?_
  exact ⟨rfl, (Below.refl _ w).alloc (Nat.le_refl _) _⟩
theorem objv_any (n : Int) (w : World) : Calls Tryz.prog 69 #[.int .i64 n] w fun e w' => e = .returned (.agg (vcs ⟨6, n, ⟨#[]⟩⟩)) ∧ Below w.heap.size w w' := by
  go_enter Tryz.func69, Tryz.ntmps69
  go_wp2
  refine bodyPost_ret (res_V rfl _ _ _ ⟨6, n, ⟨#[]⟩⟩ rfl (Blk.new _ _ _)) rfl ?_
  exact ⟨rfl, (Below.refl _ w).alloc (Nat.le_refl _) _⟩
theorem isM_any (n : Int) (w : World) : Calls Tryz.prog 33 #[.int .i64 n] w fun e w' => e = .returned (.bool (decide (1 ≤ n) && decide (n ≤ 13))) ∧ w' = w := by
  by_cases h : 1 ≤ n
  · have h1 : decide (1 ≤ n) = true := by simpa using h
    rw [h1]
    go_enter Tryz.func33, Tryz.ntmps33
    go_wp2
    go_ret
    exact ⟨by simp, rfl⟩
  · have h1 : decide (1 ≤ n) = false := by simpa using h
    rw [h1]
    clear h
    go_enter Tryz.func33, Tryz.ntmps33
    go_wp2
    go_ret
    exact ⟨by simp, rfl⟩
theorem abrupt_any (r : Rp) (b : Bool) (hb : (r.flow != 0) = b) (w : World) : Calls Tryz.prog 36 #[.agg (rcs r)] w fun e w' => e = .returned (.bool b) ∧ Below w.heap.size w w' := by
  have c0 : (w.alloc (.cells (rcs r) 57)).cell? ⟨w.heap.size, 0, none⟩ = some (.int .i64 r.flow) := ((Blk.new w (rcs r) 57).cell 0).trans (rcs_0 r)
  go_enter Tryz.func36, Tryz.ntmps36
  go_wp2
  go_ret
  exact ⟨rfl, (Below.refl _ w).alloc (Nat.le_refl _) _⟩
theorem data_any (v : Vl) (a b c : Bool) (w : World) : Calls Tryz.prog 56 #[.agg #[.int .i64 v.k, .int .i64 v.n, .string v.s], .bool a, .bool b, .bool c] w fun e w' => e = .returned (.agg (dcs (dataD v a b c))) ∧ Below w.heap.size w w' := by
  go_enter Tryz.func56, Tryz.ntmps56
  go_wp2
  refine bodyPost_ret (res_D rfl _ _ (w.heap.size + 1) (dataD v a b c) rfl (blk_newg (by simp))) rfl ?_
  exact ⟨rfl, ((Below.refl _ w).alloc (Nat.le_refl _) _).alloc (by simp) _⟩
theorem store_world (wb hb : Nat) (cl : Value) (f d p q : Int) (lg : Value) (w : World) (h : Blk w wb (wcs hb cl f d p q lg) 48) : Calls Tryz.prog 52 #[ptr wb] w fun e w' => e = .returned (ptr hb) ∧ w' = w := by
  have c0 : w.cell? ⟨wb, 0, none⟩ = some (ptr hb) := (h.cell 0).trans rfl
  go_enter Tryz.func52, Tryz.ntmps52
  go_wp2
  go_ret
  exact ⟨rfl, rfl⟩
end Go.Proofs.YtphaefkaeinngaaGreatDoor.Mo

/-
  What is asked and seen, read and built in memory; small functions of the worlds.
-/
namespace Go.Proofs.YtphaefkaeinngaaGreatDoor.Mw
open Go Go.RowKit Go.Maps Go.Shelf Go.Proofs.YtphaefkaeinngaaGreatDoor.Keys Go.Proofs.YtphaefkaeinngaaGreatDoor.Hp Go.Proofs.YtphaefkaeinngaaGreatDoor.Mo
open Go.Proofs.YtphaefkaeinngaaGreatDoor.Des (Vl Ds zeroV zeroD dcs dcs_size dcs_one accF rigF appF eqV)
open Go.Proofs.YtphaefkaeinngaaGreatDoor.Arrs (En ecs)
set_option linter.unusedVariables false
set_option linter.unusedSimpArgs false
theorem ldA (v : Value) : Instr.loadAt 52 v = Ld 52 v := (rfl)
theorem stA (p v : Value) : Instr.storeAt 52 p v = St 52 p v := (rfl)
theorem bxA (v : Value) : Instr.box 52 v = Bx 52 v := (rfl)
theorem bdA (ps : Array (Nat × Value)) : Instr.build 52 ps = Bd 52 ps := (rfl)
theorem ldKy (v : Value) : Instr.loadAt 32 v = Ld 32 v := (rfl)
theorem bxKy (v : Value) : Instr.box 32 v = Bx 32 v := (rfl)
theorem bdKy (ps : Array (Nat × Value)) : Instr.build 32 ps = Bd 32 ps := (rfl)
theorem sizeA : (Tryz.prog.info? 52).map (·.size) = some 27 := by kernel_rfl
theorem sizeK : (Tryz.prog.info? 32).map (·.size) = some 2 := by kernel_rfl
theorem run_ldAq {w : World} {b : Nat} {a : Aq} {l : Value} {T : TypeId} (h : Blk w b (acs a l) T) : (Ld 52 (.pointer (some ⟨b, 0, none⟩))).run Tryz.prog w = .ok (.agg (acs a l)) w := by
  have := run_loadAt_mid (P := Tryz.prog) w b 0 52 (acs a l).toList _ (h.range (r := []) (by simp)) Tryz.underlying52 rfl sizeA
  simpa [Ld] using this
theorem range_mid {w : World} {b : Nat} {cs : Array Value} {t : TypeId} (h : Blk w b cs t) (p l r : List Value) (e : cs.toList = p ++ (l ++ r)) : w.rangeAt b p.length l := fun j v hv => by
  have hj : j < l.length := (List.getElem?_eq_some_iff.1 hv).1
  rw [h.cell, ← Array.getElem?_toList, e, List.getElem?_append_right (by omega), List.getElem?_append_left (by omega), show p.length + j - p.length = j by omega]
  exact hv
theorem run_ldKm {w : World} {b o : Nat} {k : KV} (h : w.rangeAt b o (kcs k).toList) : (Ld 32 (.pointer (some ⟨b, o, none⟩))).run Tryz.prog w = .ok (.agg (kcs k)) w := by
  have := run_loadAt_mid (P := Tryz.prog) w b o 32 (kcs k).toList _ h Tryz.underlying32 rfl sizeK
  simpa [Ld] using this
theorem run_ldVm {w : World} {b o : Nat} {v : Vl} (h : w.rangeAt b o (vcs v).toList) : (Ld 30 (.pointer (some ⟨b, o, none⟩))).run Tryz.prog w = .ok (.agg (vcs v)) w := by
  have := run_loadAt_mid (P := Tryz.prog) w b o 30 (vcs v).toList _ h Tryz.underlying30 rfl sizeV
  simpa [Ld] using this
theorem run_ldDm {w : World} {b o : Nat} {d : Ds} (h : w.rangeAt b o (dcs d).toList) : (Ld 34 (.pointer (some ⟨b, o, none⟩))).run Tryz.prog w = .ok (.agg (dcs d)) w := run_ldMid h
section
variable {w : World} {b : Nat} {a : Aq} {l : Value} {T : TypeId}
theorem ask_k (h : Blk w b (acs a l) T) : (Ld 32 (.pointer (some ⟨b, 0, none⟩))).run Tryz.prog w = .ok (.agg (kcs a.k)) w := run_ldKm (range_mid h [] (kcs a.k).toList _ rfl)
theorem ask_v (h : Blk w b (acs a l) T) : (Ld 30 (.pointer (some ⟨b, 2, none⟩))).run Tryz.prog w = .ok (.agg (vcs a.v)) w := run_ldVm (range_mid h (kcs a.k).toList (vcs a.v).toList _ rfl)
theorem ask_r (h : Blk w b (acs a l) T) : (Ld 30 (.pointer (some ⟨b, 5, none⟩))).run Tryz.prog w = .ok (.agg (vcs a.r)) w := run_ldVm (range_mid h ((kcs a.k).toList ++ (vcs a.v).toList) (vcs a.r).toList _ rfl)
theorem ask_d (h : Blk w b (acs a l) T) : (Ld 34 (.pointer (some ⟨b, 8, none⟩))).run Tryz.prog w = .ok (.agg (dcs a.d)) w := run_ldDm (range_mid h ((kcs a.k).toList ++ ((vcs a.v).toList ++ (vcs a.r).toList)) (dcs a.d).toList [l] rfl)
theorem ask_l (h : Blk w b (acs a l) T) : w.cell? ⟨b, 26, none⟩ = some l := h.cell 26
theorem ask_rk (h : Blk w b (acs a l) T) : w.cell? ⟨b, 5, none⟩ = some (.int .i64 a.r.k) := h.cell 5
end
theorem run_bdA0 (w : World) : (Bd 52 #[]).run Tryz.prog w = .ok (.agg (acs zeroQ nilS)) w := run_build w _ _ _ (by kernel_rfl)
theorem run_bdAk (w : World) (k : KV) : (Bd 52 #[(0, .agg (kcs k))]).run Tryz.prog w = .ok (.agg (acs { zeroQ with k := k } nilS)) w := run_build w _ _ _ (by kernel_rfl)
theorem run_bdAkr (w : World) (k : KV) (r : Vl) : (Bd 52 #[(0, .agg (kcs k)), (2, .agg (vcs r))]).run Tryz.prog w = .ok (.agg (acs { zeroQ with k := k, r := r } nilS)) w := run_build w _ _ _ (by kernel_rfl)
theorem run_bdAkvr (w : World) (k : KV) (v r : Vl) : (Bd 52 #[(0, .agg (kcs k)), (1, .agg (vcs v)), (2, .agg (vcs r))]).run Tryz.prog w = .ok (.agg (acs { zeroQ with k := k, v := v, r := r } nilS)) w := run_build w _ _ _ (by kernel_rfl)
theorem run_bdAr (w : World) (r : Vl) : (Bd 52 #[(2, .agg (vcs r))]).run Tryz.prog w = .ok (.agg (acs { zeroQ with r := r } nilS)) w := run_build w _ _ _ (by kernel_rfl)
theorem run_bdArl (w : World) (r : Vl) (a : Option Addr) (n c : Nat) : (Bd 52 #[(2, .agg (vcs r)), (4, .slice a n c)]).run Tryz.prog w = .ok (.agg (acs { zeroQ with r := r } (.slice a n c))) w := run_build w _ _ _ (by kernel_rfl)
theorem run_bdAkd (w : World) (k : KV) (d : Ds) : (Bd 52 #[(0, .agg (kcs k)), (3, .agg (dcs d))]).run Tryz.prog w = .ok (.agg (acs { zeroQ with k := k, d := d } nilS)) w := run_build w _ _ _ (by kernel_rfl)
theorem run_bdKs (w : World) (s : ByteArray) : (Bd 32 #[(0, .string s)]).run Tryz.prog w = .ok (.agg (kcs (s, 0))) w := run_build w _ _ _ (by kernel_rfl)
theorem run_bdRd (w : World) (v : Vl) : (Bd 57 #[(1, .agg (vcs v))]).run Tryz.prog w = .ok (.agg (rcs ((done v).mem nilS))) w := run_build w _ _ _ (by kernel_rfl)
theorem run_bdRk (w : World) (b : Bool) : (Bd 57 #[(2, .bool b)]).run Tryz.prog w = .ok (.agg (rcs ((ans b).mem nilS))) w := run_build w _ _ _ (by kernel_rfl)
theorem run_bdRf (w : World) (f : Int) : (Bd 57 #[(0, .int .i64 f)]).run Tryz.prog w = .ok (.agg (rcs ((flowR f).mem nilS))) w := run_build w _ _ _ (by kernel_rfl)
theorem run_bdRt' (w : World) (v : Vl) : (Bd 57 #[(0, .int .i64 1), (1, .agg (vcs v))]).run Tryz.prog w = .ok (.agg (rcs ((thrown v).mem nilS))) w := run_build w _ _ _ (by kernel_rfl)
theorem run_bdRz (w : World) : (Bd 57 #[]).run Tryz.prog w = .ok (.agg (rcs (zeroRr.mem nilS))) w := run_build w _ _ _ (by kernel_rfl)
theorem run_bdRo (w : World) (h : Bool) (d : Ds) : (Bd 57 #[(3, .bool h), (4, .agg (dcs d))]).run Tryz.prog w = .ok (.agg (rcs (({ zeroRr with has := h, d := d } : Rr).mem nilS))) w := run_build w _ _ _ (by kernel_rfl)
theorem run_bdRs (w : World) (a : Option Addr) (n c : Nat) : (Bd 57 #[(5, .slice a n c)]).run Tryz.prog w = .ok (.agg (rcs (zeroRr.mem (.slice a n c)))) w := run_build w _ _ _ (by kernel_rfl)
section
variable {w : World} {b : Nat} {r : Rp} {T : TypeId}
theorem rep_v (h : Blk w b (rcs r) T) : (Ld 30 (.pointer (some ⟨b, 1, none⟩))).run Tryz.prog w = .ok (.agg (vcs r.v)) w := run_ldVm (range_mid h [.int .i64 r.flow] (vcs r.v).toList _ rfl)
theorem rep_d (h : Blk w b (rcs r) T) : (Ld 34 (.pointer (some ⟨b, 6, none⟩))).run Tryz.prog w = .ok (.agg (dcs r.d)) w := run_ldDm (range_mid h [.int .i64 r.flow, .int .i64 r.v.k, .int .i64 r.v.n, .string r.v.s, .bool r.ok, .bool r.has] (dcs r.d).toList [r.keys] rfl)
end
structure Lo (B : List Nat) (w0 w : World) (b : Nat) (cs : Array Value) (t : TypeId) : Prop where
  blk : Blk w b cs t
  out : b ∉ B
  low : w0.heap.size ≤ b
section
variable {B B' : List Nat} {w0 w w' : World} {b : Nat} {cs : Array Value} {t : TypeId}
theorem Lo.nx (h : Lo B w0 w b cs t) (k : Nx B w B' w') : Lo B' w0 w' b cs t := ⟨k.blk h.blk h.out, k.out h.blk.lt h.out, h.low⟩
theorem Lo.call (h : Lo B w0 w b cs t) (k : Below w.heap.size w w') : Lo B w0 w' b cs t := ⟨h.blk.call k, h.out, h.low⟩
theorem Lo.drew (h : Lo B w0 w b cs t) : Lo B w0 w.drew b cs t := ⟨h.blk, h.out, h.low⟩
theorem Lo.row (h : Lo B w0 w b cs t) (ds : Array Value) : Lo B w0 (w.setRow b ds) b ds t := ⟨h.blk.row ds, h.out, h.low⟩
theorem Lo.row_other {c : Nat} (h : Lo B w0 w b cs t) (ds : Array Value) (hne : b ≠ c) : Lo B w0 (w.setRow c ds) b cs t := ⟨h.blk.row_other ds hne, h.out, h.low⟩
end
theorem Nx.row {B B' : List Nat} {w w' : World} (h : Nx B w B' w') {b : Nat} (cs : Array Value) (hb : w.heap.size ≤ b) : Nx B w B' (w'.setRow b cs) :=
  ⟨⟨h.kp.fr.trans ⟨rfl, rfl, rfl, by rw [size_setRow]; exact Nat.le_refl _⟩, fun k hk hn => (setRow_other w' b k cs (by omega)).trans (h.kp.same k hk hn)⟩, h.sub⟩
section
variable {X : Cx} {c : Nat} {M : Wm} {w w' : World} {A : Aw}
theorem WIs.lo (h : WIs X c M w A) {w0 : World} (hw : w0.heap.size ≤ w.heap.size) (cs : Array Value) (t : TypeId) : Lo (M.bl X.wb) w0 (w.alloc (.cells cs t)) w.heap.size cs t := ⟨Blk.new w cs t, h.new (Nat.le_refl _), hw⟩
theorem WIs.rowL (h : WIs X c M w A) {w0 : World} {b : Nat} {cs : Array Value} {t : TypeId} (hl : Lo (M.bl X.wb) w0 w b cs t) (ds : Array Value) (h0 : X.W0.heap.size ≤ w0.heap.size) : WIs X c M (w.setRow b ds) A := h.row ds hl.out (Nat.le_trans h0 hl.low)
end
section
attribute [local go_sem ↓] ldR stR alR bxR bdR bdD bdE ldD stD alD
attribute [local irreducible] rcs dcs ecs
set_option maxRecDepth 10000
attribute [local go_sem] run_bx run_alR run_stRg run_bdRk
theorem answer_any (b : Bool) (w : World) : Calls Tryz.prog 95 #[.bool b] w fun e w' => e = .returned (.agg (rcs ((ans b).mem nilS))) ∧ Below w.heap.size w w' := by
  have hg : ((ans b).mem nilS).good := ⟨_, _, _, rfl⟩
  have hst := run_stRn w ((ans b).mem nilS) zeroR hg
  go_enter Tryz.func95, Tryz.ntmps95
  go_wp2
  refine bodyPost_ret (res_R rfl _ _ _ _ rfl (Blk.new _ _ _)) rfl ?_
  exact ⟨rfl, (Below.refl _ w).alloc (Nat.le_refl _) _⟩
end
theorem abr_any (r : Rr) (k : Value) (w : World) : Calls Tryz.prog 36 #[.agg (rcs (r.mem k))] w fun e w' => e = .returned (.bool (abr r)) ∧ Below w.heap.size w w' := abrupt_any (r.mem k) (abr r) rfl w
end Go.Proofs.YtphaefkaeinngaaGreatDoor.Mw
