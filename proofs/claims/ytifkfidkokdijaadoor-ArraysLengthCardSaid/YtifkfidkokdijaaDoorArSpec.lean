/-
  What arrays.Cut gives, as plain mathematics: the length at which it stops, what is left, and the law that a cut list is cut no more.
-/
import Derived.Test.YtifkfidkokdijaaDoorArMem
namespace Go.Proofs.YtifkfidkokdijaaDoor.Arrs
open Go Go.RowKit Go.Proofs.YtifkfidkokdijaaDoor.Nums Go.Proofs.YtifkfidkokdijaaDoor.Keys
set_option linter.unusedVariables false
set_option linter.unusedSimpArgs false

/-- The array index that a property has, if it has one. -/
def idxE (e : En) : Option Int := if e.kn = 0 then idxF e.ks.data.toList else none
theorem idxE_bd {e : En} {i : Int} (h : idxE e = some i) : 0 ≤ i ∧ i ≤ 4294967294 := by
  unfold idxE at h
  split at h
  · exact ⟨(idxF_some h).1, (idxF_some h).2.1⟩
  · cases h
/-- One step of the search for the length at which it stops. -/
def stepF (t : Int) (e : En) : Int := match idxE e with | some i => if e.d.c = true then t else if t < i + 1 then i + 1 else t | none => t
def reachF (es : List En) (t : Int) : Int := es.foldl stepF t
def keepF (n : Int) (e : En) : Bool := match idxE e with | some i => decide (i < n) | none => true
def leftF (es : List En) (t : Int) : List En := es.filter (keepF (reachF es t))
theorem step_none {t : Int} {e : En} (h : idxE e = none) : stepF t e = t := by simp [stepF, h]
theorem step_free {t i : Int} {e : En} (h : idxE e = some i) (hc : e.d.c = true) : stepF t e = t := by simp [stepF, h, hc]
theorem step_up {t i : Int} {e : En} (h : idxE e = some i) (hc : e.d.c = false) (hl : t < i + 1) : stepF t e = i + 1 := by simp [stepF, h, hc, hl]
theorem step_stay {t i : Int} {e : En} (h : idxE e = some i) (hc : e.d.c = false) (hl : i + 1 ≤ t) : stepF t e = t := by simp [stepF, h, hc, Int.not_lt.2 hl]
theorem keep_none {n : Int} {e : En} (h : idxE e = none) : keepF n e = true := by simp [keepF, h]
theorem keep_some {n i : Int} {e : En} (h : idxE e = some i) : keepF n e = decide (i < n) := by simp [keepF, h]
theorem step_ge (t : Int) (e : En) : t ≤ stepF t e := by
  unfold stepF
  repeat' split
  all_goals omega
theorem step_le {t : Int} (e : En) {M : Int} (h : t ≤ M) (hM : 4294967295 ≤ M) : stepF t e ≤ M := by
  unfold stepF
  split
  · rename_i i hi
    have := idxE_bd hi
    repeat' split
    all_goals omega
  · exact h
theorem reach_ge (es : List En) : ∀ t, t ≤ reachF es t := by
  induction es with
  | nil => intro t; exact Int.le_refl t
  | cons e r ih => intro t; exact Int.le_trans (step_ge t e) (ih (stepF t e))
theorem reach_le (es : List En) : ∀ {t M : Int}, t ≤ M → 4294967295 ≤ M → reachF es t ≤ M := by
  induction es with
  | nil => intro t M h _; exact h
  | cons e r ih => intro t M h hM; exact ih (step_le e h hM) hM
theorem step_mono {t u : Int} (e : En) (h : t ≤ u) : stepF t e ≤ stepF u e := by
  unfold stepF
  split
  · repeat' split
    all_goals omega
  · exact h
theorem reach_mono (es : List En) : ∀ {t u : Int}, t ≤ u → reachF es t ≤ reachF es u := by
  induction es with
  | nil => intro t u h; exact h
  | cons e r ih => intro t u h; exact ih (step_mono e h)
theorem reach_take {es : List En} {j : Nat} {e : En} (h : es[j]? = some e) (t : Int) : reachF (es.take (j + 1)) t = stepF (reachF (es.take j) t) e := by
  rw [List.take_add_one, h]
  simp [reachF]
theorem filter_take {es : List En} {j : Nat} {e : En} (h : es[j]? = some e) (p : En → Bool) : (es.take (j + 1)).filter p = (es.take j).filter p ++ (if p e = true then [e] else []) := by
  rw [List.take_add_one, h]
  cases hp : p e <;> simp [hp]
theorem filter_keep {es : List En} {j : Nat} {e : En} (h : es[j]? = some e) {p : En → Bool} (hp : p e = true) : (es.take (j + 1)).filter p = (es.take j).filter p ++ [e] := by rw [filter_take h, if_pos hp]
theorem filter_drop {es : List En} {j : Nat} {e : En} (h : es[j]? = some e) {p : En → Bool} (hp : p e = false) : (es.take (j + 1)).filter p = (es.take j).filter p := by rw [filter_take h, if_neg (by rw [hp]; decide), List.append_nil]
theorem filter_le (p : En → Bool) (es : List En) (j : Nat) : ((es.take j).filter p).length ≤ es.length :=
  Nat.le_trans (List.length_filter_le _ _) (by rw [List.length_take]; omega)
/-- Below the length at which it stops nothing stops it. -/
theorem reach_still (es : List En) (n : Int) : ∀ l : List En, (∀ e ∈ l, keepF n e = true) → reachF l n = n := by
  intro l
  induction l with
  | nil => intro _; rfl
  | cons e r ih =>
    intro h
    have he := h e (by simp)
    have hs : stepF n e = n := by
      cases hi : idxE e with
      | none => exact step_none hi
      | some i =>
        rw [keep_some hi] at he
        have hlt : i < n := by simpa using he
        cases hc : e.d.c with
        | true => exact step_free hi hc
        | false => exact step_stay hi hc (by omega)
    show reachF r (stepF n e) = n
    rw [hs]
    exact ih (fun x hx => h x (by simp [hx]))
theorem left_keep (es : List En) (t : Int) : ∀ e ∈ leftF es t, keepF (reachF es t) e = true := fun e he => (List.mem_filter.1 he).2
theorem again_reach (es : List En) (t : Int) : reachF (leftF es t) (reachF es t) = reachF es t := reach_still es _ _ (left_keep es t)
theorem again_left (es : List En) (t : Int) : leftF (leftF es t) (reachF es t) = leftF es t := by
  have h := again_reach es t
  have e : leftF (leftF es t) (reachF es t) = (leftF es t).filter (keepF (reachF (leftF es t) (reachF es t))) := rfl
  rw [e, h]
  exact List.filter_eq_self.2 (left_keep es t)
theorem keep_mono {k n : Int} (h : k ≤ n) (e : En) (hk : keepF k e = true) : keepF n e = true := by
  cases hi : idxE e with
  | none => exact keep_none hi
  | some i =>
    rw [keep_some hi] at hk ⊢
    have : i < k := by simpa using hk
    simp
    omega
theorem left_len {es : List En} {t u : Int} (h : t ≤ u) : (leftF es t).length ≤ (leftF es u).length := by
  have hr := reach_mono es h
  unfold leftF
  generalize reachF es t = k at hr
  generalize reachF es u = n at hr
  induction es with
  | nil => exact Nat.le_refl _
  | cons e r ih =>
    rw [List.filter_cons, List.filter_cons]
    cases hk : keepF k e with
    | false =>
      cases hn : keepF n e with
      | false => simpa using ih
      | true => simp only [Bool.false_eq_true, if_false, if_true, List.length_cons]; omega
    | true => simp only [keep_mono hr e hk, if_true, List.length_cons]; omega
theorem left_le (es : List En) (t : Int) : (leftF es t).length ≤ es.length := List.length_filter_le _ _
end Go.Proofs.YtifkfidkokdijaaDoor.Arrs
