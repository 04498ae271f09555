/-
  rules.Keys: what it gives.
-/
import Derived.Test.YtlpfdhmifcmhaaaRuKeyed
import Derived.Laws.AppendOwnNone
namespace Go.Proofs.Ytlpfdhmifcmhaaa.Arrs
open Go Go.RowKit Go.Maps Go.Proofs.Ytlpfdhmifcmhaaa.Keys
open Go.Proofs.Ytlpfdhmifcmhaaa.Vals (ball)
set_option linter.unusedVariables false
set_option linter.unusedSimpArgs false
attribute [local go_sem ↓] to_ldE to_alE to_stE run_eqK
attribute [local irreducible] ecs zer
attribute [local go_sem] run_alE run_stE ecs_0 ecs_1 ecs_10 ecs_19

/-- What speaks against a property's key. -/
def badK (x : Bool) (ks : List KV) (e : En) : Bool := !memb (ekey e) ks && (!x || !e.d.c)
def keysF (x : Bool) (es : List En) (ks : List KV) : Bool := if (once ks).length < ks.length then false else if es.any (badK x ks) then false else x || (once (es.map ekey)).length == (once ks).length
/-- The first loop's head. -/
structure K1 (w0 : World) (ks : List KV) (j : Nat) (wr : World) : Prop where
  map : wr.ownsMap Try.prog 39 unitElem w0.heap.size j (SetK (ks.take j))
  below : Below w0.heap.size w0 wr
  size : w0.heap.size + 1 ≤ wr.heap.size
theorem K1.start (w0 : World) (ks : List KV) : K1 w0 ks 0 (w0.alloc (.map #[] 0)) where
  map := World.ownsMap_made _ _ _ _
  below := ball _ _
  size := by simp
theorem K1.step {w0 wr w1 : World} {ks : List KV} {j : Nat} {k : KV} {o : Obj} (h : K1 w0 ks j wr) (hk : ks[j]? = some k) (hown : w1.ownsMap Try.prog 39 unitElem w0.heap.size (j + 1) ((SetK (ks.take j)).put (klit k) (.agg []))) (hg : (wr.alloc o).grownBy w1 (some w0.heap.size)) : K1 w0 ks (j + 1) w1 := by
  obtain ⟨h1, h2, h3⟩ := h
  refine ⟨by rw [take_snoc hk, set_snoc]; exact hown, (h2.alloc h2.size o).grown hg (by have := h2.size; simp; omega) (fun k hk => by cases hk; exact Nat.le_refl _), by have := hg.size; simp at this; omega⟩
/-- The second loop's head. -/
structure K2 (w0 : World) (ks : List KV) (q : Nat) (es : List En) (j : Nat) (wr : World) : Prop where
  map1 : wr.ownsMap Try.prog 39 unitElem w0.heap.size ks.length (SetK ks)
  map2 : wr.ownsMap Try.prog 39 unitElem q j (SetK ((es.take j).map ekey))
  below : Below w0.heap.size w0 wr
  low : w0.heap.size < q
  size : q + 1 ≤ wr.heap.size
theorem K2.start {w0 wr : World} {ks : List KV} {es : List En} (h : K1 w0 ks ks.length wr) : K2 w0 ks wr.heap.size es 0 (wr.alloc (.map #[] 0)) := by
  obtain ⟨h1, h2, h3⟩ := h
  rw [List.take_length] at h1
  exact ⟨h1.alloc _, World.ownsMap_made _ _ _ _, h2.alloc h2.size _, by omega, by simp⟩
/-- Behind the store into the second map. -/
theorem K2.mid {w0 wr w1 : World} {ks : List KV} {q : Nat} {es : List En} {j : Nat} {e : En} {o : Obj} (h : K2 w0 ks q es j wr) (he : es[j]? = some e) (hown : w1.ownsMap Try.prog 39 unitElem q (j + 1) ((SetK ((es.take j).map ekey)).put (klit (ekey e)) (.agg []))) (hg : (wr.alloc o).grownBy w1 (some q)) : K2 w0 ks q es (j + 1) w1 := by
  obtain ⟨h1, h2, h3, h4, h5⟩ := h
  refine ⟨(h1.alloc o).kept hg (by simp; omega), ?_, (h3.alloc h3.size o).grown hg (by have := h3.size; simp; omega) (fun k hk => by cases hk; omega), h4, by have := hg.size; simp at this; omega⟩
  have et : (es.take (j + 1)).map ekey = (es.take j).map ekey ++ [ekey e] := by rw [List.take_add_one, he]; simp
  rw [et, set_snoc]
  exact hown
theorem K2.al {w0 wr : World} {ks : List KV} {q : Nat} {es : List En} {j : Nat} {o : Obj} (h : K2 w0 ks q es j wr) : K2 w0 ks q es j (wr.alloc o) := by
  obtain ⟨h1, h2, h3, h4, h5⟩ := h
  exact ⟨h1.alloc o, h2.alloc o, h3.alloc h3.size o, h4, by simp; omega⟩
/-- The property of this round, behind the store. -/
theorem en_mid {wr w1 : World} {e : En} {t : TypeId} {q : Nat} (hg : (wr.alloc (.cells (ecs e) t)).grownBy w1 (some q)) (hq : q < wr.heap.size) : enAt w1 ⟨wr.heap.size, 0, none⟩ e := fun j v hv => by
  have h := enAt_new wr e t j v hv
  have hb : ((⟨wr.heap.size, 0, none⟩ : Addr).add j).block = wr.heap.size := by unfold Addr.add; split <;> rfl
  have hc := World.cell?_of_block (a := (⟨wr.heap.size, 0, none⟩ : Addr).add j) (w' := w1) (w := wr.alloc (.cells (ecs e) t)) (by rw [hb]; exact hg.block wr.heap.size (by simp) (by simp; omega))
  rw [hc]
  exact h
theorem cell_al {w : World} {a : Addr} {v : Value} (h : w.cell? a = some v) (o : Obj) : (w.alloc o).cell? a = some v := by
  have := World.block_lt_of_cell? w a h
  rw [World.cell?_of_block (heap_alloc_old w o this), h]
theorem any_next {es : List En} {j : Nat} {e : En} (he : es[j]? = some e) (x : Bool) (ks : List KV) : (es.take (j + 1)).any (badK x ks) = ((es.take j).any (badK x ks) || badK x ks e) := by
  rw [List.take_add_one, he]
  simp
theorem any_have {es : List En} {j : Nat} {e : En} (he : es[j]? = some e) {x : Bool} {ks : List KV} (h : badK x ks e = true) : es.any (badK x ks) = true := List.any_eq_true.2 ⟨e, List.mem_of_getElem? he, h⟩
theorem keys_dup {x : Bool} {es : List En} {ks : List KV} (h : (once ks).length < ks.length) : keysF x es ks = false := by rw [keysF, if_pos h]
theorem keys_bad {x : Bool} {es : List En} {ks : List KV} (h : es.any (badK x ks) = true) : keysF x es ks = false := by
  rw [keysF, h, if_pos rfl]
  split <;> rfl
theorem keys_end {x : Bool} {es : List En} {ks : List KV} (h : ks.length ≤ (once ks).length) (h2 : es.any (badK x ks) = false) : keysF x es ks = (x || (once (es.map ekey)).length == (once ks).length) := by
  rw [keysF, if_neg (by omega), if_neg (by rw [h2]; decide)]
theorem fine_es {es : List En} {j : Nat} (h : ∀ e ∈ es, Fine (ekey e)) : ∀ x ∈ (es.take j).map ekey, Fine x := fun x hx => by
  obtain ⟨e, he, rfl⟩ := List.mem_map.1 hx
  exact h e (List.mem_of_mem_take he)

set_option maxRecDepth 100000 in
set_option maxHeartbeats 4000000 in
theorem keys_any (x : Bool) (ao : Option Addr) (cap : Nat) (es : List En) (bo : Option Addr) (cb : Nat) (ks : List KV) (w : World) (hle : es.length ≤ 1000000) (hlk : ks.length ≤ 1000000) (hce : EsAt ao es w) (hck : KeysAt bo ks w) (hfe : ∀ e ∈ es, Fine (ekey e)) (hfk : ∀ k ∈ ks, Fine k) :
    Calls Try.prog 29 #[.bool x, .slice ao es.length cap, .slice bo ks.length cb] w fun y w' => y = .returned (.bool (keysF x es ks)) ∧ Below w.heap.size w w' := by
  have hmm := fun (n : Int) (w : World) => make_map Try.underlying55 .i64 n w
  have HCE := Lib.hid hce
  have HCK := Lib.hid hck
  have HFE := Lib.hid hfe
  have HFK := Lib.hid hfk
  clear hce hck hfe hfk
  go_enter Try.func29, Try.ntmps29
  go_wp2
  go_loopw [20] (fun i wr => ∃ j : Nat, j ≤ ks.length ∧ i = .int .i64 j ∧ K1 w ks j wr) (fun i _ => ks.length - (intOf i).toNat)
  case atStart => exact ⟨0, Nat.zero_le _, rfl, K1.start w ks⟩
  case round =>
    obtain ⟨j, hj, rfl, hinv⟩ := hrel
    by_cases hlt : j < ks.length
    · obtain ⟨k, hk⟩ : ∃ k, ks[j]? = some k := ⟨ks[j], by simp [hlt]⟩
      have hlt2 : (j : Int) < ks.length := by omega
      obtain ⟨b, off, rfl, hb, c0, c1⟩ := (HCK.out.below hinv.below) j k hk
      have hkey := (HFK.out k (List.mem_of_getElem? hk)).key
      have hown := hinv.map
      have HK := Lib.hid hk
      clear hk hb hmm
      go_wp2_with (at_mapUpdate; refine wpList_mapUpdate_own _ rfl _ _ _ 55 rfl 39 56 law26 Try.underlying55 (unitElem (H := Unit)) w.heap.size j _ rfl (hown.alloc _) (by unfold maxLen; omega) _ _ _ rfl rfl hkey _ [] unitElem_mk ?_; intro w1 hown1 hgrow1; refine Hid.out ?_)
      refine Lib.hid ?_
      have hinv' := hinv.step HK.out hown1 hgrow1
      clear hown hown1 hgrow1 hinv hkey c0 c1
      go_wp2
      go_roundw
      case rel => exact ⟨j + 1, by omega, by go_num, hinv'⟩
      case measure => simp [intOf]; omega
    · obtain rfl : j = ks.length := by omega
      clear hlt hj
      have hown := hinv.map
      have hsz := size_set HFK.out
      rw [List.take_length] at hown
      obtain ⟨c, hc⟩ : ∃ c, (once ks).length = c := ⟨_, rfl⟩
      have hcl : c ≤ ks.length := by rw [← hc]; exact once_length ks
      rw [hc] at hsz
      have HCL := Lib.hid hc
      clear hc
      by_cases hdup : (c : Int) < ks.length
      · go_wp2_with ((at_len; refine wpList_len_own _ rfl _ 55 rfl 39 56 Try.underlying55 _ _ _ _ rfl hown ?_); rw [hsz])
        go_ret
        exact ⟨by rw [keys_dup (by rw [HCL.out]; omega)]; rfl, hinv.below⟩
      · have hge : (ks.length : Int) ≤ c := by omega
        obtain ⟨wq, hwq⟩ : ∃ u, u = wr := ⟨_, rfl⟩
        subst hwq
        have hst := K2.start (es := es) hinv
        have hlow := hinv.size
        have hdc : decide ((c : Int) < ks.length) = false := decide_eq_false (by omega)
        have hdn : decide (c < ks.length) = false := decide_eq_false (by omega)
        have HGE := Lib.hid hge
        clear hdup hinv hge
        go_wp2_with ((at_len; refine wpList_len_own _ rfl _ 55 rfl 39 56 Try.underlying55 _ _ _ _ rfl hown ?_); rw [hsz])
        clear hown hmm
        go_loopw [38] (fun i wx => ∃ j : Nat, j ≤ es.length ∧ i = .int .i64 j ∧ K2 w ks wq.heap.size es j wx ∧ Hid ((es.take j).any (badK x ks) = false)) (fun i _ => es.length - (intOf i).toNat)
        case atStart => exact ⟨0, Nat.zero_le _, rfl, hst, Lib.hid rfl⟩
        case round =>
          clear hst
          obtain ⟨j, hj, rfl, hinv, hgood⟩ := hrel
          by_cases hlt : j < es.length
          · obtain ⟨e, he⟩ : ∃ e, es[j]? = some e := ⟨es[j], by simp [hlt]⟩
            have hlt2 : (j : Int) < es.length := by omega
            obtain ⟨b, off, rfl, hb, hat⟩ := (HCE.out.below hinv.below) j e he
            have l0 := run_ldE hat
            have hfin := HFE.out e (List.mem_of_getElem? he)
            have hkey : keyOf Try.prog 39 (.agg #[.string e.ks, .int .i64 e.kn]) = some (klit (ekey e)) := hfin.key
            have hh : Maps.has (SetK ks) (klit (ekey e)) = memb (ekey e) ks := has_set HFK.out hfin
            have hown2 := hinv.map2
            have hsz5 := hinv.size
            have HE := Lib.hid he
            have HH := Lib.hid hh
            clear he hb hat hh
            go_wp2_with (at_mapUpdate; refine wpList_mapUpdate_own _ rfl _ _ _ 55 rfl 39 56 law26 Try.underlying55 (unitElem (H := Unit)) wq.heap.size j _ rfl (hown2.alloc _) (by unfold maxLen; omega) _ _ _ rfl rfl hkey _ [] unitElem_mk ?_; intro w1 hown1 hgrow1; refine Hid.out ?_)
            refine Lib.hid ?_
            have hmid := hinv.mid HE.out hown1 hgrow1
            have hen := en_mid hgrow1 (by omega)
            have c0 := enAt_cell hen 0 _ (ecs_0 e)
            have c1 := enAt_cell hen 1 _ (ecs_1 e)
            have c19 := cell_al (enAt_cell hen 19 _ (ecs_19 e))
            rw [Nat.add_zero] at c0
            simp only [Nat.zero_add] at c1 c19
            have hown3 := hmid.map1
            have hh := HH.out
            clear hown2 hown1 hgrow1 hinv hen l0
            cases hm : memb (ekey e) ks
            · rw [hm] at hh
              cases x
              · have HB : Hid (keysF false es ks = false) := Lib.hid (keys_bad (any_have HE.out (by simp [badK, hm])))
                go_wp2_with (at_lookup; refine wpList_lookup_own_unit _ rfl _ _ 55 rfl 39 56 law26 Try.underlying55 (zero36 _) w.heap.size ks.length _ rfl hown3 _ _ rfl hkey ?_; rw [hh])
                go_ret
                exact ⟨by rw [HB.out]; rfl, hmid.al.below⟩
              · cases hc : e.d.c
                · rw [hc] at c19
                  have HB : Hid (keysF true es ks = false) := Lib.hid (keys_bad (any_have HE.out (by simp [badK, hm, hc])))
                  go_wp2_with (at_lookup; refine wpList_lookup_own_unit _ rfl _ _ 55 rfl 39 56 law26 Try.underlying55 (zero36 _) w.heap.size ks.length _ rfl hown3 _ _ rfl hkey ?_; rw [hh])
                  go_ret
                  exact ⟨by rw [HB.out]; rfl, hmid.al.below⟩
                · rw [hc] at c19
                  have HG : Hid ((es.take (j + 1)).any (badK true ks) = false) := Lib.hid (by rw [any_next HE.out, hgood.out]; simp [badK, hm, hc])
                  go_wp2_with (at_lookup; refine wpList_lookup_own_unit _ rfl _ _ 55 rfl 39 56 law26 Try.underlying55 (zero36 _) w.heap.size ks.length _ rfl hown3 _ _ rfl hkey ?_; rw [hh])
                  go_roundw
                  case rel => exact ⟨j + 1, by omega, by go_num, hmid.al, HG⟩
                  case measure => simp [intOf]; omega
            · rw [hm] at hh
              have HG : Hid ((es.take (j + 1)).any (badK x ks) = false) := Lib.hid (by rw [any_next HE.out, hgood.out]; simp [badK, hm])
              go_wp2_with (at_lookup; refine wpList_lookup_own_unit _ rfl _ _ 55 rfl 39 56 law26 Try.underlying55 (zero36 _) w.heap.size ks.length _ rfl hown3 _ _ rfl hkey ?_; rw [hh])
              go_roundw
              case rel => exact ⟨j + 1, by omega, by go_num, hmid.al, HG⟩
              case measure => simp [intOf]; omega
          · obtain rfl : j = es.length := by omega
            clear hlt hj
            have hg := hgood.out
            rw [List.take_length] at hg
            have hown1 := hinv.map1
            have hown2 := hinv.map2
            have hsz2 := size_set (l := es.map ekey) (fun x hx => by obtain ⟨e, he, rfl⟩ := List.mem_map.1 hx; exact HFE.out e he)
            rw [List.take_length] at hown2
            have hbx := hinv.below
            have hend := keys_end (x := x) (by rw [HCL.out]; have := HGE.out; omega) hg
            rw [HCL.out] at hend
            obtain ⟨c2, hc2⟩ : ∃ c2, (once (es.map ekey)).length = c2 := ⟨_, rfl⟩
            rw [hc2] at hend hsz2
            have HEND := Lib.hid hend
            clear hgood hg hinv hc2 hend
            cases x
            · have LA := fun ty => hown1.len Try.underlying55 ty
              have LB := fun ty => hown2.len Try.underlying55 ty
              rw [hsz] at LA
              rw [hsz2] at LB
              clear hown1 hown2
              cases hcc : (c2 : Int) == c
              · go_wp2
                go_ret
                exact ⟨by rw [HEND.out]; simp at hcc ⊢; omega, hbx⟩
              · go_wp2
                go_ret
                exact ⟨by rw [HEND.out]; simp at hcc ⊢; omega, hbx⟩
            · go_wp2
              go_ret
              exact ⟨by rw [HEND.out]; rfl, hbx⟩
end Go.Proofs.Ytlpfdhmifcmhaaa.Arrs
