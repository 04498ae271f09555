/-
  numbers.Text and numbers.Read: what each call gives.
-/
import Derived.Test.YtlboaldikgonoaaDoorNmSmall
import Derived.KernelRfl
import Derived.Test.YtlboaldikgonoaaDoorShelf
import Derived.Test.YtlboaldikgonoaaDoorLatoi
import Derived.Lib.AppendIntMem
import Derived.Below
namespace Go.Proofs.YtlboaldikgonoaaDoor.Nums
open Go.RowKit
set_option linter.unusedVariables false

/-- What the library's tables and sentinels hold. -/
structure Lw (w : World) : Prop where
  tab : Lib.TabIs Tryd.prog w "internal/strconv.uint64pow10" .u64 Lib.pow10Tab
  es : ∃ t p, w.var? Tryd.prog "strconv.ErrSyntax" = some #[.iface t p]
  er : ∃ t p, w.var? Tryd.prog "strconv.ErrRange" = some #[.iface t p]
theorem var_below {w w' : World} {n : String} {cs : Array Value} (h : w.var? Tryd.prog n = some cs) (hb : Below w.heap.size w w') : w'.var? Tryd.prog n = some cs := by
  unfold World.var? at *
  cases hg : Tryd.prog.globalNamed n with
  | none => simp [hg] at h
  | some g =>
    simp only [hg, Option.bind_some] at h ⊢
    have hlt : g < w.heap.size := by
      rcases Nat.lt_or_ge g w.heap.size with h' | h'
      · exact h'
      · rw [Array.getElem?_eq_none h'] at h; simp at h
    rw [hb.block g hlt]
    exact h
theorem Lw.below {w w' : World} (h : Lw w) (hb : Below w.heap.size w w') : Lw w' :=
  ⟨var_below h.tab hb, h.es.imp fun _ => Exists.imp fun _ h => var_below h hb, h.er.imp fun _ => Exists.imp fun _ h => var_below h hb⟩

theorem itoa_lib (n : Int) (h0 : -9223372036854775808 ≤ n) (h1 : n ≤ 9223372036854775807) (w : World) (hL : Lw w) :
    Calls Tryd.prog 65 #[.int .i64 n] w fun e w' => e = .returned (.string ⟨(Lib.itoa n).toArray⟩) ∧ Below w.heap.size w w' :=
  (Tryd.strconv_Itoa n h0 h1 w hL.tab).mono fun e w' ⟨he, k, os, hw⟩ => ⟨he, hw ▸ Lib.below_grow _ w (Nat.le_refl _) k os⟩
theorem text_any (n : Int) (h0 : -9223372036854775808 ≤ n) (h1 : n ≤ 9223372036854775807) (w : World) (hL : Lw w) :
    Calls Tryd.prog 51 #[.int .i64 n] w fun e w' => e = .returned (.string ⟨(Lib.itoa n).toArray⟩) ∧ Below w.heap.size w w' := by
  have hc := fun w hL => itoa_lib n h0 h1 w hL
  generalize (⟨(Lib.itoa n).toArray⟩ : ByteArray) = t at hc ⊢
  go_enter Tryd.func51, Tryd.ntmps51
  go_wp2_with (go_at_call 65; refine (hc _ hL).mono ?_; rintro e w1 ⟨rfl, hb⟩)
  go_ret
  exact ⟨rfl, hb⟩

/-- How strconv.Atoi ends at a numeral. -/
theorem atoi_ok (s : ByteArray) (hmax : s.size ≤ 9223372036854775806) (v : Int) (h : Lib.atoiAll s.data.toList = .ok v) (w : World) :
    Calls Tryd.prog 49 #[.string s] w fun e w' => e = .returned (.tuple #[.int .i64 v, .nilIface]) ∧ Below w.heap.size w w' :=
  (Tryd.strconv_Atoi_ok s hmax v h w).mono fun e w' ⟨he, hw⟩ => ⟨he, by
    rcases hw with rfl | ⟨t, rfl⟩
    · exact Below.refl _ _
    · exact Lib.bytesWorld_below _ _ _⟩

theorem atoi_bd {l : List UInt8} {v : Int} (h : Lib.atoiAll l = .ok v) : -9223372036854775808 ≤ v ∧ v ≤ 9223372036854775807 := by
  unfold Lib.atoiAll at h
  split at h
  · cases h
  · simp only at h
    split at h
    · cases h
    · cases h
    · split at h
      · cases h
      · split at h
        · cases h
        · injection h with h
          subst h
          split <;> omega

set_option maxHeartbeats 1000000 in
theorem read_bad (s : ByteArray) (hlim : s.size ≤ 281474976710656) (h : ∀ v, Lib.atoiAll s.data.toList ≠ .ok v) (w : World) (hL : Lw w) :
    Calls Tryd.prog 39 #[.string s] w fun e w' => e = two none ∧ Below w.heap.size w w' := by
  obtain ⟨⟨t1, p1, h1⟩, ⟨t2, p2, h2⟩⟩ := And.intro hL.es hL.er
  have hc := Tryd.atoi_bad s hlim h w t1 t2 p1 p2 h1 h2
  clear h h1 h2 hL
  go_enter Tryd.func39, Tryd.ntmps39
  go_wp2_with (go_at_call 49; refine hc.mono ?_; rintro e w1 ⟨n, t, N, rfl, hb⟩)
  go_ret2
  exact ⟨rfl, hb⟩

set_option maxHeartbeats 1000000 in
theorem read_unsafe (s : ByteArray) (hmax : s.size ≤ 9223372036854775806) (v : Int) (h : Lib.atoiAll s.data.toList = .ok v) (hs : sf v = false) (w : World) :
    Calls Tryd.prog 39 #[.string s] w fun e w' => e = two none ∧ Below w.heap.size w w' := by
  have hc := atoi_ok s hmax v h w
  clear h
  go_enter Tryd.func39, Tryd.ntmps39
  go_wp2_with (first | (go_at_call 49; refine hc.mono ?_; rintro e w1 ⟨rfl, hb⟩) | (go_at_call 50; refine (safe_any _ _).mono ?_; rintro e w' ⟨rfl, rfl⟩))
  go_ret2
  exact ⟨rfl, hb⟩

set_option maxHeartbeats 1000000 in
theorem read_other (s : ByteArray) (hmax : s.size ≤ 9223372036854775806) (v : Int) (h : Lib.atoiAll s.data.toList = .ok v) (hs : sf v = true) (hne : Lib.itoa v ≠ s.data.toList) (w : World) (hL : Lw w) :
    Calls Tryd.prog 39 #[.string s] w fun e w' => e = two none ∧ Below w.heap.size w w' := by
  have hc := atoi_ok s hmax v h w
  have ht := fun w hL => text_any v (by have := atoi_bd h; omega) (by have := atoi_bd h; omega) w hL
  clear h
  obtain ⟨t, e⟩ : ∃ t : ByteArray, (⟨(Lib.itoa v).toArray⟩ : ByteArray) = t := ⟨_, rfl⟩
  have hts : t.toList ≠ s.toList := fun hh => hne (by rw [ByteArray.toList_eq, ByteArray.toList_eq, ← e] at hh; exact hh)
  rw [e] at ht
  clear e hne
  have hts2 : (t.toList == s.toList) = false := by simpa using hts
  clear hts
  go_enter Tryd.func39, Tryd.ntmps39
  go_wp2_with (first | (go_at_call 49; refine hc.mono ?_; rintro e w1 ⟨rfl, hb⟩; have hL1 := hL.below hb) | (go_at_call 50; refine (safe_any _ _).mono ?_; rintro e w' ⟨rfl, rfl⟩) | (go_at_call 51; refine (ht _ hL1).mono ?_; rintro e w2 ⟨rfl, hb2⟩))
  go_ret2
  exact ⟨rfl, hb.trans (hb2.mono hb.size)⟩

set_option maxHeartbeats 1000000 in
theorem read_yes (s : ByteArray) (hmax : s.size ≤ 9223372036854775806) (v : Int) (h : Lib.atoiAll s.data.toList = .ok v) (hs : sf v = true) (heq : Lib.itoa v = s.data.toList) (w : World) (hL : Lw w) :
    Calls Tryd.prog 39 #[.string s] w fun e w' => e = two (some v) ∧ Below w.heap.size w w' := by
  have hc := atoi_ok s hmax v h w
  have ht := fun w hL => text_any v (by have := atoi_bd h; omega) (by have := atoi_bd h; omega) w hL
  clear h
  have e : (⟨(Lib.itoa v).toArray⟩ : ByteArray) = s := by rw [heq]
  rw [e] at ht
  clear e heq
  go_enter Tryd.func39, Tryd.ntmps39
  go_wp2_with (first | (go_at_call 49; refine hc.mono ?_; rintro e w1 ⟨rfl, hb⟩; have hL1 := hL.below hb) | (go_at_call 50; refine (safe_any _ _).mono ?_; rintro e w' ⟨rfl, rfl⟩) | (go_at_call 51; refine (ht _ hL1).mono ?_; rintro e w2 ⟨rfl, hb2⟩))
  go_ret2
  exact ⟨rfl, hb.trans (hb2.mono hb.size)⟩

theorem read_any (s : ByteArray) (hlim : s.size ≤ 281474976710656) (w : World) (hL : Lw w) :
    Calls Tryd.prog 39 #[.string s] w fun e w' => e = two (readF s.data.toList) ∧ Below w.heap.size w w' := by
  by_cases h : ∃ v, Lib.atoiAll s.data.toList = .ok v
  · obtain ⟨v, h⟩ := h
    rw [readF_atoi h]
    cases hs : sf v with
    | false => rw [if_neg (by simp)]; exact read_unsafe s (by omega) v h hs w
    | true =>
      by_cases heq : Lib.itoa v = s.data.toList
      · rw [if_pos ⟨rfl, heq⟩]; exact read_yes s (by omega) v h hs heq w hL
      · rw [if_neg (fun hh => heq hh.2)]; exact read_other s (by omega) v h hs heq w hL
  · rw [readF_atoi_no fun v hv => h ⟨v, hv⟩]
    exact read_bad s hlim (fun v hv => h ⟨v, hv⟩) w hL
end Go.Proofs.YtlboaldikgonoaaDoor.Nums
