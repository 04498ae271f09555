/-
  What rules.Keys says: plain mathematics; it and Big as plain facts.
-/
import Derived.Test.YtlpfdhmifcmhaaaRuKeys
import Derived.Test.YtlpfdhmifcmhaaaRuAlive
namespace Go.Proofs.Ytlpfdhmifcmhaaa.Des
open Go Go.RowKit Go.Maps Go.Proofs.Ytlpfdhmifcmhaaa.Vals Go.Proofs.Ytlpfdhmifcmhaaa.Keys Go.Proofs.Ytlpfdhmifcmhaaa.Arrs
set_option linter.unusedVariables false
set_option linter.unusedSimpArgs false

theorem keys_true {es : List En} {ks : List KV} (h : keysF false es ks = true) : (∀ e ∈ es, memb (ekey e) ks = true) ∧ ∀ k ∈ ks, k ∈ es.map ekey := by
  unfold keysF at h
  split at h
  · cases h
  · split at h
    · cases h
    · rename_i h1 h2
      have hm : ∀ e ∈ es, memb (ekey e) ks = true := fun e he => by
        cases hb : memb (ekey e) ks with
        | true => rfl
        | false => exact absurd (List.any_eq_true.2 ⟨e, he, by simp [badK, hb]⟩) h2
      refine ⟨hm, fun k hk => ?_⟩
      have hl : (once (es.map ekey)).length = (once ks).length := by simpa using h
      exact (once_mem _ k).1 (full (once (es.map ekey)) (once ks) (once_nodup _) (once_nodup _) (fun x hx => by
        obtain ⟨e, he, rfl⟩ := List.mem_map.1 ((once_mem _ x).1 hx)
        exact (once_mem _ _).2 ((memb_iff _ _).1 (hm e he))) (by omega) k ((once_mem _ k).2 hk))
theorem keys_self (x : Bool) {es : List En} (h : (es.map ekey).Nodup) : keysF x es (es.map ekey) = true := by
  unfold keysF
  rw [once_self h, if_neg (by omega), if_neg]
  · simp
  · intro ha
    obtain ⟨e, he, hb⟩ := List.any_eq_true.1 ha
    have : memb (ekey e) (es.map ekey) = true := (memb_iff _ _).2 (List.mem_map.2 ⟨e, he, rfl⟩)
    simp [badK, this] at hb
/-- What a call of Keys gives in each later world. -/
def KeysIs (w0 : World) (x : Bool) (v1 v2 : Value) (b : Bool) : Prop := ∀ w, Below w0.heap.size w0 w → Calls Try.prog 29 #[.bool x, v1, v2] w fun e w' => e = .returned (.bool b) ∧ Below w.heap.size w w'
theorem KeysIs.at {w0 : World} {x : Bool} {v1 v2 : Value} {b : Bool} (h : KeysIs w0 x v1 v2 b) {w : World} (hb : Below w0.heap.size w0 w) : Calls Try.prog 29 #[.bool x, v1, v2] w fun e w' => e = .returned (.bool b) ∧ Below w.heap.size w w' := h w hb
theorem esAt_up {ao : Option Addr} {es : List En} {w0 w : World} (h : EsAt ao es w0) (hb : Below w0.heap.size w0 w) : EsAt ao es w := h.below hb
theorem keys_is {w0 : World} {x : Bool} {ao bo : Option Addr} {cap cb : Nat} {es : List En} {ks : List KV} (hle : es.length ≤ 1000000) (hlk : ks.length ≤ 1000000) (hce : EsAt ao es w0) (hck : KeysAt bo ks w0) (hfe : ∀ e ∈ es, Fine (ekey e)) (hfk : ∀ k ∈ ks, Fine k) {b : Bool} (hb : keysF x es ks = b) : KeysIs w0 x (.slice ao es.length cap) (.slice bo ks.length cb) b := fun w h =>
  hb ▸ keys_any x ao cap es bo cb ks w hle hlk (hce.below h) (hck.below h) hfe hfk
/-- What a call of Keyed gives in each later world. -/
def KeyedIs (w0 : World) (v : Value) (k : KV) (b : Bool) : Prop := ∀ w, Below w0.heap.size w0 w → Calls Try.prog 28 #[v, .agg #[.string k.1, .int .i64 k.2]] w fun e w' => e = .returned (.bool b) ∧ Below w.heap.size w w'
theorem KeyedIs.at {w0 : World} {v : Value} {k : KV} {b : Bool} (h : KeyedIs w0 v k b) {w : World} (hb : Below w0.heap.size w0 w) : Calls Try.prog 28 #[v, .agg #[.string k.1, .int .i64 k.2]] w fun e w' => e = .returned (.bool b) ∧ Below w.heap.size w w' := h w hb
theorem keyed_is {w0 : World} {bo : Option Addr} {cb : Nat} {ks : List KV} (k : KV) (hlk : ks.length ≤ 1000000) (hck : KeysAt bo ks w0) {b : Bool} (hb : memb k ks = b) : KeyedIs w0 (.slice bo ks.length cb) k b := fun w h =>
  hb ▸ keyed_any bo cb ks k w (by omega) (hck.below h)
theorem own0 (d : Ds) (w : World) : Calls Try.prog 26 #[.bool false, .bool false, .agg #[.bool false, .bool false, .bool false, .bool false, .bool false, .bool false, .int .i64 0, .int .i64 0, .string ⟨#[]⟩, .int .i64 0, .int .i64 0, .string ⟨#[]⟩, .int .i64 0, .int .i64 0, .string ⟨#[]⟩, .bool false, .bool false, .bool false], .bool true, DV d] w fun e w' => e = .returned (.bool false) ∧ Below w.heap.size w w' := by
  have h : ownF false false zeroD true d = false := by
    have : (appF false (compF d) false zeroD).2 = false := by
      unfold appF
      split
      · rfl
      · rfl
    simp [ownF, this]
  have := own_any false false zeroD true d w
  rw [h] at this
  exact this
theorem def0 (d : Ds) (w : World) : Calls Try.prog 31 #[.bool false, .bool false, .agg #[.bool false, .bool false, .bool false, .bool false, .bool false, .bool false, .int .i64 0, .int .i64 0, .string ⟨#[]⟩, .int .i64 0, .int .i64 0, .string ⟨#[]⟩, .int .i64 0, .int .i64 0, .string ⟨#[]⟩, .bool false, .bool false, .bool false], DV d] w fun e w' => e = .returned (.bool false) ∧ Below w.heap.size w w' := by
  have h : defiF false false zeroD d = false := by simp [defiF]
  have := def_any false false zeroD d w
  rw [h] at this
  exact this
end Go.Proofs.Ytlpfdhmifcmhaaa.Des
