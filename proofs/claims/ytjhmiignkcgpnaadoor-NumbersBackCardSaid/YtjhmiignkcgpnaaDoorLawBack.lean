/-
  The walk of the law NumbersBack.
-/
import Derived.Test.YtjhmiignkcgpnaaDoorLawLaws
namespace Go.Proofs.YtjhmiignkcgpnaaDoor
open Go.RowKit

theorem lawBack_unsafe (a b : Int) (w : World) (h : sf a = false ∨ sf b = false) :
    Calls Tryd.prog 6 #[.int .i64 a, .int .i64 b] w fun e w' => e = .returned (.bool true) ∧ w = w' := by
  cases ha : sf a with
  | false =>
    clear h
    go_enter Tryd.func6, Tryd.ntmps6
    go_wp2_with (first | (go_at_call 7; refine (alive_any _).mono ?_; rintro e w' ⟨rfl, rfl⟩) | (go_at_call 10; refine (safe_any _ _).mono ?_; rintro e w' ⟨rfl, rfl⟩))
    go_ret
    exact ⟨rfl, rfl⟩
  | true =>
    have hb : sf b = false := by rcases h with h | h; rw [ha] at h; cases h; exact h
    clear h
    go_enter Tryd.func6, Tryd.ntmps6
    go_wp2_with (first | (go_at_call 7; refine (alive_any _).mono ?_; rintro e w' ⟨rfl, rfl⟩) | (go_at_call 10; refine (safe_any _ _).mono ?_; rintro e w' ⟨rfl, rfl⟩))
    go_ret
    exact ⟨rfl, rfl⟩

set_option maxHeartbeats 1000000 in
theorem lawBack_none (a b : Int) (w : World) (ha : sf a = true) (hb : sf b = true) (a0 : -9007199254740991 ≤ a) (a1 : a ≤ 9007199254740991) (hx : DoIs 45 a a 0 true) (hy : DoIs 42 a 1 a true) (hz : DoIs 42 a (-1) (-a) true) (hp : DoIs 42 a b 0 false) (hq : DoIs 42 b a 0 false) :
    Calls Tryd.prog 6 #[.int .i64 a, .int .i64 b] w fun e w' => e = .returned (.bool true) ∧ w = w' := by
  go_enter Tryd.func6, Tryd.ntmps6
  go_wp2_with (first | (go_at_call 7; refine (alive_any _).mono ?_; rintro e w' ⟨rfl, rfl⟩) | (go_at_call 10; refine (safe_any _ _).mono ?_; rintro e w' ⟨rfl, rfl⟩) | (go_at_call 8; (with_reducible refine (hx.at _).mono ?_); rintro e w' ⟨rfl, rfl⟩) | (go_at_call 8; (with_reducible refine (hy.at _).mono ?_); rintro e w' ⟨rfl, rfl⟩) | (go_at_call 8; (with_reducible refine (hz.at _).mono ?_); rintro e w' ⟨rfl, rfl⟩) | (go_at_call 8; (with_reducible refine (hp.at _).mono ?_); rintro e w' ⟨rfl, rfl⟩) | (go_at_call 8; (with_reducible refine (hq.at _).mono ?_); rintro e w' ⟨rfl, rfl⟩))
  go_ret
  exact ⟨rfl, rfl⟩

set_option maxHeartbeats 1000000 in
theorem lawBack_zero (a b p : Int) (w : World) (ha : sf a = true) (hb : sf b = true) (a0 : -9007199254740991 ≤ a) (a1 : a ≤ 9007199254740991) (hx : DoIs 45 a a 0 true) (hy : DoIs 42 a 1 a true) (hz : DoIs 42 a (-1) (-a) true) (hp : DoIs 42 a b p true) (hq : DoIs 42 b a p true) (h0 : b = 0) :
    Calls Tryd.prog 6 #[.int .i64 a, .int .i64 b] w fun e w' => e = .returned (.bool true) ∧ w = w' := by
  have h0' : (b == 0) = true := by simpa using h0
  clear h0
  go_enter Tryd.func6, Tryd.ntmps6
  go_wp2_with (first | (go_at_call 7; refine (alive_any _).mono ?_; rintro e w' ⟨rfl, rfl⟩) | (go_at_call 10; refine (safe_any _ _).mono ?_; rintro e w' ⟨rfl, rfl⟩) | (go_at_call 8; (with_reducible refine (hx.at _).mono ?_); rintro e w' ⟨rfl, rfl⟩) | (go_at_call 8; (with_reducible refine (hy.at _).mono ?_); rintro e w' ⟨rfl, rfl⟩) | (go_at_call 8; (with_reducible refine (hz.at _).mono ?_); rintro e w' ⟨rfl, rfl⟩) | (go_at_call 8; (with_reducible refine (hp.at _).mono ?_); rintro e w' ⟨rfl, rfl⟩) | (go_at_call 8; (with_reducible refine (hq.at _).mono ?_); rintro e w' ⟨rfl, rfl⟩))
  go_ret
  exact ⟨rfl, rfl⟩

set_option maxHeartbeats 1000000 in
theorem lawBack_some (a b p : Int) (w : World) (ha : sf a = true) (hb : sf b = true) (a0 : -9007199254740991 ≤ a) (a1 : a ≤ 9007199254740991) (hx : DoIs 45 a a 0 true) (hy : DoIs 42 a 1 a true) (hz : DoIs 42 a (-1) (-a) true) (hp : DoIs 42 a b p true) (hq : DoIs 42 b a p true) (h0 : b ≠ 0) (hd : wrap64 (p.tdiv b) = a) :
    Calls Tryd.prog 6 #[.int .i64 a, .int .i64 b] w fun e w' => e = .returned (.bool true) ∧ w = w' := by
  have h0' : (b == 0) = false := by simpa using h0
  go_enter Tryd.func6, Tryd.ntmps6
  go_wp2_with (first | (go_at_call 7; refine (alive_any _).mono ?_; rintro e w' ⟨rfl, rfl⟩) | (go_at_call 10; refine (safe_any _ _).mono ?_; rintro e w' ⟨rfl, rfl⟩) | (go_at_call 8; (with_reducible refine (hx.at _).mono ?_); rintro e w' ⟨rfl, rfl⟩) | (go_at_call 8; (with_reducible refine (hy.at _).mono ?_); rintro e w' ⟨rfl, rfl⟩) | (go_at_call 8; (with_reducible refine (hz.at _).mono ?_); rintro e w' ⟨rfl, rfl⟩) | (go_at_call 8; (with_reducible refine (hp.at _).mono ?_); rintro e w' ⟨rfl, rfl⟩) | (go_at_call 8; (with_reducible refine (hq.at _).mono ?_); rintro e w' ⟨rfl, rfl⟩))
  go_ret
  exact ⟨rfl, rfl⟩

theorem pr_mk {a b n : Int} (ha : sf a = true) (hb : sf b = true) (hn : sf n = true) (h : a * b = n) : doF 2 a b = some n := by
  rw [doF_safe ha hb, show exF 2 a b = prF a b from rfl, filter_pr]
  unfold prF
  rw [h, if_pos hn]
theorem pr_no {a b : Int} (ha : sf a = true) (hb : sf b = true) (h : sf (a * b) = false) : doF 2 a b = none := by
  rw [doF_safe ha hb, show exF 2 a b = prF a b from rfl, filter_pr]
  unfold prF
  rw [h, if_neg (by decide)]

theorem lawBack_walk (a b : Int) (w : World) :
    Calls Tryd.prog 6 #[.int .i64 a, .int .i64 b] w fun e w' => e = .returned (.bool true) ∧ w = w' := by
  cases ha : sf a with
  | false => exact lawBack_unsafe a b w (Or.inl ha)
  | true =>
  cases hb : sf b with
  | false => exact lawBack_unsafe a b w (Or.inr hb)
  | true =>
  have h0 := sf_true ha
  have hx : DoIs 45 a a 0 true := doIs_some (k := 1) rfl (by rw [doF_safe ha ha, show exF 1 a a = some 0 by simp [exF]]; rfl)
  have hy : DoIs 42 a 1 a true := doIs_some (k := 2) rfl (pr_mk ha (by decide) ha (by omega))
  have hz : DoIs 42 a (-1) (-a) true := doIs_some (k := 2) rfl (pr_mk ha (by decide) (sf_mk (by omega) (by omega)) (by omega))
  cases hs : sf (a * b) with
  | false =>
    exact lawBack_none a b w ha hb h0.1 h0.2 hx hy hz (doIs_none (k := 2) rfl (pr_no ha hb hs)) (doIs_none (k := 2) rfl (pr_no hb ha (by rw [Int.mul_comm]; exact hs)))
  | true =>
    have hp : DoIs 42 a b (a * b) true := doIs_some (k := 2) rfl (pr_mk ha hb hs rfl)
    have hq : DoIs 42 b a (a * b) true := doIs_some (k := 2) rfl (pr_mk hb ha hs (Int.mul_comm b a))
    by_cases hz0 : b = 0
    · exact lawBack_zero a b _ w ha hb h0.1 h0.2 hx hy hz hp hq hz0
    · exact lawBack_some a b _ w ha hb h0.1 h0.2 hx hy hz hp hq hz0 (by rw [Int.mul_tdiv_cancel a hz0]; exact IntWalk.wrap64_in _ (by omega))
end Go.Proofs.YtjhmiignkcgpnaaDoor
