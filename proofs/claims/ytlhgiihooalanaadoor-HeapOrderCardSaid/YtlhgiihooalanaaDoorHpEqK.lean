/-
  Two keys compared.
-/
import Derived.Test.YtlhgiihooalanaaDoorKyOw
import Derived.Laws.StructEq
namespace Go.Proofs.YtlhgiihooalanaaDoor.Keys
open Go Go.RowKit Go.Maps
set_option linter.unusedVariables false
set_option linter.unusedSimpArgs false
theorem KeysAt.below {ao : Option Addr} {ks : List KV} {w w' : World} (h : KeysAt ao ks w) (hb : Below w.heap.size w w') : KeysAt ao ks w' := fun j k hk => by
  obtain ⟨b, off, ha, hlt, h0, h1⟩ := h j k hk
  exact ⟨b, off, ha, Nat.lt_of_lt_of_le hlt hb.size, by rw [hb.cell (p := ⟨b, _, none⟩) hlt, h0], by rw [hb.cell (p := ⟨b, _, none⟩) hlt, h1]⟩
theorem keysAt_nil (ao : Option Addr) (w : World) : KeysAt ao [] w := fun j e he => by simp at he
theorem tl_inj {a b : ByteArray} (h : a.toList = b.toList) : a = b := by
  rw [ByteArray.toList_eq, ByteArray.toList_eq] at h
  exact ByteArray.ext (Array.toList_inj.1 h)
def eqK (a : ByteArray) (n : Int) (b : ByteArray) (m : Int) : Bool := a.toList == b.toList && n == m
theorem eqK_iff {a b : KV} : eqK a.1 a.2 b.1 b.2 = true ↔ a = b := by
  obtain ⟨a, n⟩ := a
  obtain ⟨b, m⟩ := b
  simp only [eqK, Bool.and_eq_true, beq_iff_eq, Prod.mk.injEq]
  exact ⟨fun ⟨h1, h2⟩ => ⟨tl_inj h1, h2⟩, fun ⟨h1, h2⟩ => ⟨by rw [h1], h2⟩⟩
theorem run_eqK (a b : ByteArray) (n m : Int) (w : World) : (Op.equalIn 10000 35 (.agg #[.string a, .int .i64 n]) (.agg #[.string b, .int .i64 m])).run Tryd.prog w = .ok (eqK a n b m) w := by
  unfold eqK
  by_cases h1 : a.toList = b.toList
  · by_cases h2 : n = m
    · simp [go_sem, h1, h2]
    · simp [go_sem, h1, h2]
  · simp [go_sem, h1]
end Go.Proofs.YtlhgiihooalanaaDoor.Keys
