/-
  A heap with one object: what each of its calls leaves.
-/
import Derived.Test.YtlhgiihooalanaaDoorHpOps
import Derived.Test.YtlhgiihooalanaaDoorHpOpsK
import Derived.Test.YtlhgiihooalanaaDoorHpOpsO
import Derived.Test.YtlhgiihooalanaaDoorHpPutO
import Derived.Test.YtlhgiihooalanaaDoorHpDrop
import Derived.Test.YtlhgiihooalanaaDoorHpMake
namespace Go.Proofs.YtlhgiihooalanaaDoor.Hp
open Go Go.RowKit Go.Maps Go.Proofs.YtlhgiihooalanaaDoor.Keys
set_option linter.unusedVariables false
set_option linter.unusedSimpArgs false
def keysN (ns : List Nd) : List KV := ns.map fun x => ekey x.e
theorem keysN_append (a b : List Nd) : keysN (a ++ b) = keysN a ++ keysN b := List.map_append
theorem keysN_cons (x : Nd) (b : List Nd) : keysN (x :: b) = ekey x.e :: keysN b := rfl
/-- A heap with one object. -/
structure Hx (w0 w : World) (hb g c ob pb mb m : Nat) (sy : Int) (th : Th) (ns : List Nd) : Prop where
  blk : Blk w hb (hp 1 (.slice (some ⟨g, 0, none⟩) 1 c) sy) 51
  cell : ∃ cur, Blk w g cur 52 ∧ cur[0]? = some (ptr ob)
  ob : Blk w ob (ocs th pb) 57
  obj : Obj1 w pb mb m ns
  once : Once1 ns
  low : ∀ b ∈ blks pb ns, w0.heap.size ≤ b
  lowm : w0.heap.size ≤ mb
  below : Below w0.heap.size w0 w
/-- Lists of keys of the call's own stay. -/
def Rows (w w' : World) : Prop := ∀ base v n xs, w.ownsRow base 35 2 v n xs → w'.ownsRow base 35 2 v n xs
theorem rows_below {w w' : World} (hb : Below w.heap.size w w') : Rows w w' := fun base v n xs h => own_below h hb
theorem blk_nemap {w : World} {b mb n : Nat} {cs : Array Value} {t : TypeId} {f : KV → Option Nat} (h : Blk w b cs t) (hm : MapIs w mb n f) : b ≠ mb := fun e => by
  obtain ⟨es, c, ho⟩ := hm.obj
  subst e
  rw [show w.heap[b]? = _ from h] at ho
  cases ho
section
variable {w0 w w' : World} {hb g c ob pb mb m m' : Nat} {sy : Int} {th : Th} {ns ns' : List Nd}
theorem Hx.next (h : Hx w0 w hb g c ob pb mb m sy th ns) (hbw : Below w.heap.size w w') : Hx w0 w' hb g c ob pb mb m sy th ns := by
  obtain ⟨h1, ⟨cur, h2, h2'⟩, h3, h4, h5, h6, h7, h8⟩ := h
  exact ⟨h1.call hbw, ⟨cur, h2.call hbw, h2'⟩, h3.call hbw, h4.call hbw, h5, h6, h7, h8.trans (hbw.mono h8.size)⟩
theorem Hx.keep (h : Hx w0 w hb g c ob pb mb m sy th ns) (ht : Turn w w' pb mb ns) {b : Nat} {cs : Array Value} {t : TypeId} (hB : Blk w b cs t) (h1 : t ≠ 70) (h2 : t ≠ 73) : Blk w' b cs t :=
  ht.blk hB (h.obj.ring.notblk hB h1 h2) (blk_nemap hB h.obj.map)
theorem Hx.rows (h : Hx w0 w hb g c ob pb mb m sy th ns) (ht : Turn w w' pb mb ns) : Rows w w' := fun base v n xs hr => by
  refine ⟨hr.1, ?_⟩
  rcases hr.2 with hn | ⟨g', cap, cur, h1, h2, h3, h4⟩
  · exact .inl hn
  · exact .inr ⟨g', cap, cur, h1, h2, h.keep ht (show Blk w g' cur _ from h3) (by decide) (by decide), h4⟩
theorem Hx.turn (h : Hx w0 w hb g c ob pb mb m sy th ns) (ht : Turn w w' pb mb ns) (ho : Obj1 w' pb mb m' ns') (hn : Once1 ns') (hl : ∀ b ∈ blks pb ns', w0.heap.size ≤ b) : Hx w0 w' hb g c ob pb mb m' sy th ns' := by
  have k := fun {b : Nat} {cs : Array Value} {t : TypeId} => h.keep ht (b := b) (cs := cs) (t := t)
  obtain ⟨h1, ⟨cur, h2, h2'⟩, h3, h4, h5, h6, h7, h8⟩ := h
  exact ⟨k h1 (by decide) (by decide), ⟨cur, k h2 (by decide) (by decide), h2'⟩, k h3 (by decide) (by decide), ho, hn, hl, h7, h8.trans (ht.below h6 h7 h8.size)⟩
theorem Hx.cellAt (h : Hx w0 w hb g c ob pb mb m sy th ns) : w.cell? ⟨g, 0, none⟩ = some (ptr ob) := by
  obtain ⟨cur, h1, h2⟩ := h.cell
  rw [h1.cell, h2]
theorem low_snoc {B : Nat} {x : Nd} (h : ∀ b ∈ blks pb ns, B ≤ b) (hx : B ≤ x.b) : ∀ b ∈ blks pb (ns ++ [x]), B ≤ b := fun b hb => by
  simp only [blks, List.map_append, List.map_cons, List.map_nil, List.mem_cons, List.mem_append, List.not_mem_nil, or_false] at hb h
  rcases hb with rfl | hb | rfl
  · exact h b (.inl rfl)
  · exact h b (.inr hb)
  · exact hx
theorem low_drop {B : Nat} {x : Nd} {l r : List Nd} (h : ∀ b ∈ blks pb (l ++ x :: r), B ≤ b) : ∀ b ∈ blks pb (l ++ r), B ≤ b := fun b hb => h b (by
  simp only [blks, List.map_append, List.map_cons, List.mem_cons, List.mem_append] at hb ⊢
  rcases hb with hb | hb | hb
  · exact .inl hb
  · exact .inr (.inl hb)
  · exact .inr (.inr (.inr hb)))
/-- A new property. -/
theorem hx_put_new (h : Hx w0 w hb g c ob pb mb m sy th ns) (hm : m < 1000) (k : KV) (hk : Fine k) (hl : look ns k = none) (d : Ds) :
    Calls Tryd.prog 7 #[ptr hb, .int .i64 0, .agg #[.string k.1, .int .i64 k.2], .agg (dcs d)] w fun e w' => e = .returned (.bool true) ∧ ∃ x : Nd, x.e = ⟨k.1, k.2, d⟩ ∧ Hx w0 w' hb g c ob pb mb (m + 1) sy th (ns ++ [x]) ∧ Rows w w' := by
  refine (hput hb g ob pb 1 c 1 sy th k d w h.blk (by omega) h.cellAt h.ob (fun w1 w' => ∃ x : Nd, x.e = ⟨k.1, k.2, d⟩ ∧ w1.heap.size ≤ x.b ∧ Obj1 w' pb mb (m + 1) (ns ++ [x]) ∧ Once1 (ns ++ [x]) ∧ Turn w1 w' pb mb ns)
    (fun w1 hb1 => pput_new pb mb m ns k d w1 (h.obj.call hb1) h.once hm hk hl)).mono ?_
  rintro e w' ⟨rfl, w1, hb1, x, hx, hsz, hob, hon, htu⟩
  have ht := below_turn hb1 htu
  have h1 := hb1.size
  have h2 := h.below.size
  exact ⟨rfl, x, hx, h.turn ht hob hon (low_snoc h.low (by omega)), h.rows ht⟩
/-- A property that is there. -/
theorem hx_put_old {l r : List Nd} {x : Nd} (h : Hx w0 w hb g c ob pb mb m sy th (l ++ x :: r)) (hk : Fine (ekey x.e)) (d : Ds) :
    Calls Tryd.prog 7 #[ptr hb, .int .i64 0, .agg #[.string (ekey x.e).1, .int .i64 (ekey x.e).2], .agg (dcs d)] w fun e w' => e = .returned (.bool true) ∧ Hx w0 w' hb g c ob pb mb m sy th (l ++ x.desc d :: r) ∧ Rows w w' := by
  refine (hput hb g ob pb 1 c 1 sy th (ekey x.e) d w h.blk (by omega) h.cellAt h.ob (fun w1 w' => Obj1 w' pb mb m (l ++ x.desc d :: r) ∧ Once1 (l ++ x.desc d :: r) ∧ Turn w1 w' pb mb (l ++ x :: r))
    (fun w1 hb1 => pput_old pb mb m l r x d w1 (h.obj.call hb1) h.once hk)).mono ?_
  rintro e w' ⟨rfl, w1, hb1, hob, hon, htu⟩
  have ht := below_turn hb1 htu
  exact ⟨rfl, h.turn ht hob hon (by rw [blks_desc]; exact h.low), h.rows ht⟩
theorem look_memb (ns : List Nd) (k : KV) : look ns k = none ↔ memb k (keysN ns) = false := by
  rw [look_none]
  constructor
  · intro h
    cases hm : memb k (keysN ns)
    · rfl
    · obtain ⟨n, hn, he⟩ := List.mem_map.1 ((memb_iff _ _).1 hm)
      exact absurd he (h n hn)
  · intro h n hn e
    exact memb_no h (List.mem_map.2 ⟨n, hn, e⟩)
/-- What Put leaves of the keys. -/
theorem hx_put (h : Hx w0 w hb g c ob pb mb m sy th ns) (hm : m < 1000) (k : KV) (hk : Fine k) (d : Ds) :
    Calls Tryd.prog 7 #[ptr hb, .int .i64 0, .agg #[.string k.1, .int .i64 k.2], .agg (dcs d)] w fun e w' => e = .returned (.bool true) ∧ ∃ ns', Hx w0 w' hb g c ob pb mb (m + 1) sy th ns' ∧ keysN ns' = (if memb k (keysN ns) = true then keysN ns else keysN ns ++ [k]) ∧ Rows w w' := by
  cases hl : look ns k with
  | none =>
    refine (hx_put_new h hm k hk hl d).mono ?_
    rintro e w' ⟨rfl, x, hx, hh, hr⟩
    rw [look_memb] at hl
    refine ⟨rfl, _, hh, ?_, hr⟩
    rw [if_neg (by rw [hl]; decide), keysN_append]
    congr 1
    show [ekey x.e] = [k]
    rw [hx]
    rfl
  | some b =>
    obtain ⟨l, x, r, rfl, hx, -, -⟩ := look_at hl
    subst hx
    refine (hx_put_old h hk d).mono ?_
    rintro e w' ⟨rfl, hh, hr⟩
    refine ⟨rfl, _, ⟨hh.blk, hh.cell, hh.ob, ⟨hh.obj.ring, hh.obj.map.mono (Nat.le_succ _)⟩, hh.once, hh.low, hh.lowm, hh.below⟩, ?_, hr⟩
    have hmm : memb (ekey x.e) (keysN (l ++ x :: r)) = true := by
      cases hq : memb (ekey x.e) (keysN (l ++ x :: r))
      · rw [(look_memb _ _).2 hq] at hl; cases hl
      · rfl
    rw [if_pos hmm, keysN_append, keysN_append]
    rfl
theorem hx_drop {l r : List Nd} {x : Nd} (h : Hx w0 w hb g c ob pb mb m sy th (l ++ x :: r)) (hk : Fine (ekey x.e)) :
    Calls Tryd.prog 12 #[ptr hb, .int .i64 0, .agg #[.string (ekey x.e).1, .int .i64 (ekey x.e).2]] w fun e w' => e = .returned (.bool true) ∧ Hx w0 w' hb g c ob pb mb m sy th (l ++ r) ∧ Rows w w' := by
  refine (hdrop hb g ob pb 1 c 1 sy th (ekey x.e) true w h.blk (by omega) h.cellAt h.ob (fun w1 w' => Obj1 w' pb mb m (l ++ r) ∧ Once1 (l ++ r) ∧ Turn w1 w' pb mb (l ++ x :: r))
    (fun w1 hb1 => pdrop_some pb mb m l r x w1 (h.obj.call hb1) h.once hk)).mono ?_
  rintro e w' ⟨rfl, w1, hb1, hob, hon, htu⟩
  have ht := below_turn hb1 htu
  exact ⟨rfl, h.turn ht hob hon (low_drop h.low), h.rows ht⟩
theorem hx_drop_none (h : Hx w0 w hb g c ob pb mb m sy th ns) (k : KV) (hk : Fine k) (hl : look ns k = none) :
    Calls Tryd.prog 12 #[ptr hb, .int .i64 0, .agg #[.string k.1, .int .i64 k.2]] w fun e w' => e = .returned (.bool false) ∧ Hx w0 w' hb g c ob pb mb m sy th ns ∧ Rows w w' := by
  refine (hdrop hb g ob pb 1 c 1 sy th k false w h.blk (by omega) h.cellAt h.ob (fun w1 w' => Below w1.heap.size w1 w')
    (fun w1 hb1 => pdrop_none pb mb m ns k w1 (h.obj.call hb1) hk hl)).mono ?_
  rintro e w' ⟨rfl, w1, hb1, hb2⟩
  have hb3 := hb1.trans (hb2.mono hb1.size)
  exact ⟨rfl, h.next hb3, rows_below hb3⟩
theorem hx_own {l r : List Nd} {x : Nd} (h : Hx w0 w hb g c ob pb mb m sy th (l ++ x :: r)) (hk : Fine (ekey x.e)) (d : Ds) (hd : x.e.d = d) :
    Calls Tryd.prog 13 #[ptr hb, .int .i64 0, .agg #[.string (ekey x.e).1, .int .i64 (ekey x.e).2]] w fun e w' => e = .returned (.tuple #[.agg (dcs d), .bool true]) ∧ Below w.heap.size w w' := by
  subst hd
  exact hown hb g ob pb 1 c 1 sy th (ekey x.e) x.e.d true w h.blk (by omega) h.cellAt h.ob (fun w1 hb1 => pget_some pb mb m l r x w1 (h.obj.call hb1) hk h.once.look)
theorem hx_keys (h : Hx w0 w hb g c ob pb mb m sy th ns) (hm : m ≤ 1000) (hlen : ns.length ≤ 100) (hf : ∀ k ∈ keysN ns, Fine k) (hL : Nums.Lw w) :
    Calls Tryd.prog 10 #[ptr hb, .int .i64 0] w (HKeysPost w (keysN ns)) :=
  hkeys_any hb g ob pb 1 c 1 sy th w h.blk (by omega) h.cellAt h.ob mb m ns (keysN ns) rfl h.obj hm hlen hf hL
end
end Go.Proofs.YtlhgiihooalanaaDoor.Hp
