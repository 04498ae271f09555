/-
  The document's example holds: what the laws ask first.
-/
import Derived.Test.YtjhmiignkcgpnaaDoorOp
import Derived.Test.YtjhmiignkcgpnaaDoorShelf
namespace Go.Proofs.YtjhmiignkcgpnaaDoor
open Go.RowKit

theorem text_twelve (w : World) :
    Calls Tryd.prog 11 #[.int .i64 12] w fun e w' => e = .returned (.string ⟨#[49, 50]⟩) ∧ w = w' := by
  have hd : (⟨(Lib.decDigits 12).toArray⟩ : ByteArray) = ⟨#[49, 50]⟩ := by
    rw [Lib.decDigits_two (by decide) (by decide)]; rfl
  have hc : ∀ w, Calls Tryd.prog 17 #[.int .i64 12] w fun e w' => e = .returned (.string ⟨#[49, 50]⟩) ∧ w = w' := fun w =>
    (Tryd.strconv_Itoa_small 12 (by decide) w).mono fun e w' h => ⟨by rw [h.1, hd], h.2.symm⟩
  clear hd
  go_enter Tryd.func11, Tryd.ntmps11
  go_wp2_with (go_at_call 17; refine (hc _).mono ?_; rintro e w' ⟨rfl, rfl⟩)
  go_ret
  exact ⟨rfl, rfl⟩

theorem alive_any (w : World) :
    Calls Tryd.prog 7 #[] w fun e w' => e = .returned (.bool true) ∧ w = w' := by
  have hd : ∀ w, Calls Tryd.prog 8 #[.string ⟨#[47]⟩, .int .i64 (-7), .int .i64 2] w fun e w' => e = .returned (.tuple #[.int .i64 (-3), .bool true]) ∧ w = w' := fun w => do_any 3 (-7) 2 w
  have hs : sf 1 = true := by decide
  go_enter Tryd.func7, Tryd.ntmps7
  go_wp2_with (first | (go_at_call 8; refine (hd _).mono ?_; rintro e w' ⟨rfl, rfl⟩) | (go_at_call 10; refine (safe_any _ _).mono ?_; rintro e w' ⟨rfl, rfl⟩) | (go_at_call 11; refine (text_twelve _).mono ?_; rintro e w' ⟨rfl, rfl⟩))
  go_ret
  exact ⟨rfl, rfl⟩
end Go.Proofs.YtjhmiignkcgpnaaDoor
