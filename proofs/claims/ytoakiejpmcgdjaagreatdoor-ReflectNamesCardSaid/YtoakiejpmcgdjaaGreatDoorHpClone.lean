/-
  Clone at a list of values.
-/
import Derived.Test.YtoakiejpmcgdjaaGreatDoorHpGet
namespace Go.Proofs.YtoakiejpmcgdjaaGreatDoor.Hp
open Go Go.RowKit Go.Maps Go.Shelf Go.Proofs.YtoakiejpmcgdjaaGreatDoor.Keys
set_option linter.unusedVariables false
set_option linter.unusedSimpArgs false

theorem infoV : (Tryz.prog.info? 30).map (fun i => (i.zero, i.size, i.bytes)) = some (some (.agg #[.int .i64 0, .int .i64 0, .string ⟨#[]⟩]), 3, 32) := by kernel_rfl
theorem cellsV_length (l : List Vl) : (cellsV l).length = l.length * 3 := by
  induction l with
  | nil => rfl
  | cons a r ih =>
    have e : cellsV (a :: r) = [.int .i64 a.k, .int .i64 a.n, .string a.s] ++ cellsV r := rfl
    rw [e, List.length_append, ih, List.length_cons]
    simp
    omega
theorem cellsV_one (l : List Vl) : ∀ u ∈ cellsV l, u.oneCell' = true := fun u hu => by
  obtain ⟨v, _, hv⟩ := List.mem_flatMap.1 hu
  simp at hv
  rcases hv with rfl | rfl | rfl <;> rfl
/-- A slice's cells hold values. -/
def VsAt (n₀ : Nat) (aa : Option Addr) (vs : List Vl) (w : World) : Prop := vs = [] ∨ ∃ b off, aa = some ⟨b, off, none⟩ ∧ b < n₀ ∧ w.rangeAt b off (cellsV vs)
theorem VsAt.below {n₀ : Nat} {aa : Option Addr} {vs : List Vl} {w w' : World} (h : VsAt n₀ aa vs w) (hb : Below n₀ w w') : VsAt n₀ aa vs w' := by
  rcases h with h | ⟨b, off, ha, hlt, hr⟩
  · exact .inl h
  · exact .inr ⟨b, off, ha, hlt, fun j v hv => by rw [hb.cell (p := ⟨b, off + j, none⟩) hlt]; exact hr j v hv⟩
theorem VsAt.mono {n₀ n₁ : Nat} {aa : Option Addr} {vs : List Vl} {w : World} (h : VsAt n₀ aa vs w) (hn : n₀ ≤ n₁) : VsAt n₁ aa vs w := by
  rcases h with h | ⟨b, off, ha, hlt, hr⟩
  · exact .inl h
  · exact .inr ⟨b, off, ha, by omega, hr⟩
theorem vsAt_own {w : World} {base : Nat} {aa : Option Addr} {cp : Nat} {vs : List Vl} (h : w.ownsRow base 30 3 (.slice aa vs.length cp) vs.length (cellsV vs)) : VsAt w.heap.size aa vs w := by
  rcases h.2 with ⟨_, hn⟩ | ⟨g, cap, cur, hv, hb, hg, _⟩
  · exact .inl (List.eq_nil_of_length_eq_zero hn)
  · simp only [Value.slice.injEq] at hv
    obtain ⟨rfl, -, rfl⟩ := hv
    refine .inr ⟨g, 0, rfl, (Array.getElem?_eq_some_iff.1 hg).1, fun j v hv => ?_⟩
    have hj : j < vs.length * 3 := by have := (List.getElem?_eq_some_iff.1 hv).1; rw [cellsV_length] at this; exact this
    rw [Nat.zero_add, h.cellAt j hj]
    exact hv
theorem slice_lit (w : World) (e : TypeId) (base : Nat) (hb : base ≤ w.heap.size) : (w.alloc (.cells #[] e)).ownsRow base e 3 (.slice (some ⟨w.heap.size, 0, none⟩) 0 0) 0 [] := World.ownsRow_made w #[] 0 hb (by unfold maxLen; omega) rfl
set_option maxRecDepth 100000 in
set_option maxHeartbeats 1000000 in
theorem clone_any (aa : Option Addr) (al ac : Nat) (vs : List Vl) (w : World) (hlen : vs.length = al) (h100 : al ≤ 100) (hv : VsAt w.heap.size aa vs w) :
    Calls Tryz.prog 60 #[.slice aa al ac] w (ClonePost w vs) := by
  obtain ⟨i23, hi23, hz230, hz231, hz232⟩ := info_parts infoV
  have he := run_eqlS aa al ac w
  cases aa with
  | none =>
    have h0 : vs = [] := by
      rcases hv with h | ⟨b, off, ha, _⟩
      · exact h
      · cases ha
    subst h0
    have hal : al = 0 := by simpa using hlen.symm
    subst hal
    go_enter Tryz.func60, Tryz.ntmps60
    go_wp2
    go_ret
    exact ⟨none, 0, 0, rfl, World.ownsRow_nil _ _ _ _, Below.refl _ _⟩
  | some ad =>
    have hrow := slice_lit w 30 w.heap.size (Nat.le_refl _)
    have hcells : ∀ j u, (cellsV vs)[j]? = some u → (w.alloc (.cells #[] 30)).cell? (ad.add j) = some u := fun j u hu => by
      rcases hv with h | ⟨b, off, ha, hlt, hr⟩
      · subst h; simp [cellsV] at hu
      · obtain rfl : ad = ⟨b, off, none⟩ := by simpa using ha
        rw [Addr.add_mid, World.cell?_alloc_lt _ _ _ hlt]
        exact hr j u hu
    have hnl : (cellsV vs).length = al * 3 := by rw [cellsV_length, hlen]
    have HLEN := Lib.hid hlen
    clear hv hlen
    go_enter Tryz.func60, Tryz.ntmps60
    go_wp2_with (at_builtin; refine wpList_append_own _ rfl _ _ 45 rfl w.heap.size 30 i23 (.agg #[.int .i64 0, .int .i64 0, .string ⟨#[]⟩]) 3 32 Tryz.underlying45 hi23 hz230 hz231 hz232 rfl (by decide) _ _ _ rfl hrow ad al ac (cellsV vs) rfl hnl hcells (cellsV_one vs) (by unfold maxLen; omega) (by omega) (by simp) ?_; intro v' w4 hown4 hgrow4 _)
    go_ret
    rw [Nat.zero_add] at hown4
    obtain ⟨a', c', rfl⟩ := own_shape hown4
    refine ⟨a', al, c', rfl, by rw [HLEN.out]; simpa using hown4, ((Below.refl _ w).alloc (Nat.le_refl _) _).grown hgrow4 (by simp) (fun k hk => by cases hk; exact Nat.le_refl _)⟩
end Go.Proofs.YtoakiejpmcgdjaaGreatDoor.Hp
