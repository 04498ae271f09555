/-
  The walk of the law KeysPlaces.
-/
import Derived.Test.YtfhhpkaojnnobaaDoorKyPl
import Derived.Test.YtfhhpkaojnnobaaDoorNmDec
namespace Go.Proofs.YtfhhpkaojnnobaaDoor.Keys
open Go Go.RowKit Go.Maps Go.Proofs.YtfhhpkaojnnobaaDoor.Nums

/-- A slice's cells hold numbers. -/
def IntsAt (a : Option Addr) (l : List Int) (w : World) : Prop := ∀ j n, l[j]? = some n → ∃ x, a = some x ∧ x.block < w.heap.size ∧ w.cell? (x.add j) = some (.int .i64 n)

theorem lawPlaces_long (a0 : Option Addr) (len cap : Nat) (w : World) (hL : Lw w) (h : 40 < (len : Int)) (hm : (len : Int) ≤ 9223372036854775807) :
    Calls Tryd.prog 4 #[.slice a0 len cap] w fun e w' => e = .returned (.bool true) ∧ Below w.heap.size w w' := by
  go_enter Tryd.func4, Tryd.ntmps4
  go_wp2_with (go_at_call 5; refine (alive_any _ hL).mono ?_; rintro e w1 ⟨rfl, hb⟩)
  go_ret
  exact ⟨rfl, hb⟩
theorem block_add (x : Addr) (j : Nat) : (x.add j).block = x.block := by unfold Addr.add; split <;> rfl

/-- What holds while the keys are gathered. -/
structure GetInv (w0 : World) (ns : List Int) (j : Nat) (v : Value) (wr : World) : Prop where
  row : wr.ownsRow w0.heap.size 26 2 v (ns.take j).length (cellsK (numK (ns.take j)))
  all : InR (ns.take j)
  below : Below w0.heap.size w0 wr
theorem GetInv.step {w0 wr w1 : World} {ns : List Int} {j m : Nat} {n : Int} {v v' : Value} {o : Obj} (h : GetInv w0 ns j v wr) (hn : ns[j]? = some n) (h0 : 0 ≤ n) (h1 : n ≤ 4294967294) (hm : (ns.take j).length = m)
    (hown : w1.ownsRow w0.heap.size 26 2 v' (m + 1) (cellsK (numK (ns.take j)) ++ [.string (kb n), .int .i64 0])) (hg : (wr.alloc o).grownBy w1 v.ownBlock) : GetInv w0 ns (j + 1) v' w1 := by
  subst hm
  obtain ⟨h2, h3, h4⟩ := h
  refine ⟨?_, h3.snoc hn h0 h1, (h4.alloc h4.size o).grown hg (by have := h4.size; simp; omega) (fun k hk => (h2.lt k hk).1)⟩
  have e : (ns.take (j + 1)).length = (ns.take j).length + 1 := by rw [List.take_add_one, hn]; simp
  rw [e, numK_snoc hn, cellsK_append, cellsK_one]
  exact hown
def DecIs2 (n : Int) : Prop := ∀ w, Calls Tryd.prog 8 #[.int .i64 n] w fun e w' => e = .returned (.string (kb n)) ∧ w = w'
theorem DecIs2.at {n : Int} (h : DecIs2 n) (w : World) : Calls Tryd.prog 8 #[.int .i64 n] w fun e w' => e = .returned (.string (kb n)) ∧ w = w' := h w

/-- How keys.Order ends at the keys of numbers. -/
def PlPost (T : List Int) (w : World) (e : Ending) (w' : World) : Prop := ∃ a c, e = .returned (.slice a T.length c) ∧ w'.ownsRow (w.heap.size + 1) 26 2 (.slice a T.length c) T.length (cellsK (numK T)) ∧ Below w.heap.size w w'
theorem pl_order (ao : Option Addr) (cp : Nat) (ns : List Int) (w : World) (hL : Lw w) (hlen : ns.length ≤ 40) {base : Nat} (hrow : w.ownsRow base 26 2 (.slice ao ns.length cp) ns.length (cellsK (numK ns))) (hall : InR ns) :
    Calls Tryd.prog 9 #[.slice ao ns.length cp] w (PlPost (places ns) w) := by
  have e := numK_length ns
  have ho := order_any ao cp (numK ns) w hL (by omega) (keysAt_own (by rw [e]; exact hrow)) (fine_num hall)
  rw [e] at ho
  refine ho.mono fun e' w' ⟨v, he, hown, hb⟩ => ?_
  rw [order_num hall, numK_length] at hown
  obtain ⟨a, c, rfl⟩ := own_shape hown
  exact ⟨a, c, he, hown, hb⟩
set_option maxRecDepth 100000 in
set_option maxHeartbeats 1000000 in
theorem lawPlaces_main (a0 : Option Addr) (cap : Nat) (ns : List Int) (w : World) (hL : Lw w) (hlen : (ns.length : Int) ≤ 40) (hs : IntsAt a0 ns w) (hw : ∀ n ∈ ns, -9223372036854775808 ≤ n ∧ n ≤ 9223372036854775807) :
    Calls Tryd.prog 4 #[.slice a0 ns.length cap] w fun e w' => e = .returned (.bool true) ∧ Below w.heap.size w w' := by
  obtain ⟨i26, hi26, hz260, hz261, hz262⟩ := info_parts info26
  have HI := Lib.hid hs
  have HW := Lib.hid hw
  clear hs hw
  go_enter Tryd.func4, Tryd.ntmps4
  go_wp2_with (go_at_call 5; refine (alive_any _ hL).mono ?_; rintro e w1 ⟨rfl, hb1⟩; refine Hid.out ?_)
  refine Lib.hid ?_
  have HL := Lib.hid hL
  have HB1 := Lib.hid hb1
  clear hL
  go_wp2
  go_loopw [4, 5] (fun v i wr => ∃ j : Nat, j ≤ ns.length ∧ i = .int .i64 j ∧ GetInv w ns j v wr) (fun _ i _ => ns.length - (intOf i).toNat)
  case atStart => exact ⟨0, Nat.zero_le _, rfl, World.ownsRow_nil _ _ _ _, fun n hn => by simp at hn, hb1⟩
  case round =>
    clear hb1
    obtain ⟨j, hj, rfl, hinv⟩ := hrel
    by_cases hlt : j < ns.length
    · obtain ⟨n, hn⟩ : ∃ n, ns[j]? = some n := ⟨ns[j], by simp [hlt]⟩
      have hlt2 : (j : Int) < ns.length := by omega
      obtain ⟨x, rfl, hxb, hx⟩ := HI.out j n hn
      have hbel := hinv.below
      have hnw := HW.out n (List.mem_of_getElem? hn)
      have hcell : wr.cell? (x.add j) = some (.int .i64 n) := (hbel.cell (by rw [block_add]; exact hxb)).trans hx
      have hbs := hbel.size
      have HN := Lib.hid hn
      have HX := Lib.hid hxb
      clear hx hn hxb
      by_cases h0 : n < 0
      · go_wp2
        go_ret
        exact ⟨rfl, hbel⟩
      · by_cases h1 : 4294967294 < n
        · go_wp2
          go_ret
          exact ⟨rfl, hbel⟩
        · have hd : DecIs2 n := fun w => rdec_any n (by omega) (by omega) w
          have hr := hinv.row
          obtain ⟨m, hm⟩ : ∃ m, (ns.take j).length = m := ⟨_, rfl⟩
          have hmj : m ≤ j := by rw [← hm, List.length_take]; omega
          rw [hm] at hr
          have HM := Lib.hid hm
          clear hm hbel
          go_wp2_with (first | (go_at_call 8; (with_reducible refine (hd.at _).mono ?_); rintro e w' ⟨rfl, rfl⟩) | (at_builtin; refine wpList_append_own _ rfl _ _ 30 rfl w.heap.size 26 i26 (.agg #[.string ⟨#[]⟩, .int .i64 0]) 2 24 Tryd.underlying30 hi26 hz260 hz261 hz262 rfl (by decide) _ _ _ rfl (hr.alloc _) ⟨wr.heap.size, 0, none⟩ 1 1 [.string (kb n), .int .i64 0] rfl rfl (two_new _ _ _ _) (two_cells _ _) (by unfold maxLen; omega) (by omega) (size_alloc_le _ hbs) ?_; intro v' w6 hown6 hgrow6 _))
          have hinv' := hinv.step HN.out (by omega) (by omega) HM.out hown6 hgrow6
          clear hown6 hgrow6 hr hinv
          go_wp2
          go_roundw
          case rel => exact ⟨j + 1, by omega, by go_num, hinv'⟩
          case measure => simp [intOf]; omega
    · obtain rfl : j = ns.length := by omega
      clear hlt hj
      obtain ⟨hrow, hall, hbel⟩ := hinv
      rw [List.take_length] at hrow hall
      have LR := HL.out.below hbel
      obtain ⟨ao, cp, rfl⟩ := own_shape hrow
      have hTl := places_len ns
      obtain ⟨T, hT⟩ : ∃ T, places ns = T := ⟨_, rfl⟩
      have hord : Calls Tryd.prog 9 #[.slice ao ns.length cp] wr (PlPost T wr) := by rw [← hT]; exact pl_order ao cp ns wr LR (by omega) hrow hall
      have hnx : ∀ j a b, T[j]? = some a → T[j + 1]? = some b → a < b := fun j a b ha hb => by rw [← hT] at ha hb; exact places_next ha hb
      have hin : InR T := by rw [← hT]; exact places_in ns
      rw [hT] at hTl
      have HNX := Lib.hid hnx
      have HIN := Lib.hid hin
      clear hT hnx hin
      clear hrow hall
      go_wp2_with (go_at_call 9; refine hord.mono ?_; rintro e w2 ⟨a2, c2, rfl, hout, hb2⟩; refine Hid.out ?_)
      refine Lib.hid ?_
      have hb3 : Below w.heap.size w w2 := hbel.trans (hb2.mono hbel.size)
      clear hb2 hord LR
      go_wp2
      go_loopw [7, 8] (fun p i wx => ∃ j q, j ≤ T.length ∧ i = .int .i64 (j : Nat) ∧ p = .int .i64 q ∧ Hid (∀ n, T[j]? = some n → q < n) ∧ wx.ownsRow (wr.heap.size + 1) 26 2 (.slice a2 T.length c2) T.length (cellsK (numK T)) ∧ Below w.heap.size w wx) (fun _ i _ => T.length - (intOf i).toNat)
      case atStart => exact ⟨0, -1, Nat.zero_le _, rfl, rfl, Lib.hid (fun n hn => by have := HIN.out n (List.mem_of_getElem? hn); omega), hout, hb3⟩
      case round =>
        clear hout hb3
        obtain ⟨j, q, hj, rfl, rfl, hq, hown, hbx⟩ := hrel
        by_cases hlt : j < T.length
        · obtain ⟨n, hn⟩ : ∃ n, T[j]? = some n := ⟨T[j], by simp [hlt]⟩
          have hlt2 : (j : Int) < T.length := by omega
          have hnb := HIN.out n (List.mem_of_getElem? hn)
          have hqn := hq.out n hn
          have hk : (numK T)[j]? = some (kb n, 0) := by simp [numK, hn]
          obtain ⟨b, off, rfl, hb, c0, c1⟩ := keysAt_own (ks := numK T) (by rw [numK_length]; exact hown) j _ hk
          have hri : ∀ w, Calls Tryd.prog 7 #[.agg #[.string (kb n), .int .i64 0]] w fun e w' => e = .returned (.tuple #[.int .i64 n, .bool true]) ∧ Below w.heap.size w w' := fun w => by
            have h := rindex_str (kb n) w
            rw [kb_list, idxF_itoa hnb.1 hnb.2] at h
            exact h
          have HN := Lib.hid hn
          have HRI := Lib.hid hri
          clear hn hk hri hq
          simp only at c0 c1
          go_wp2_with (go_at_call 7; refine (HRI.out _).mono ?_; rintro e w6 ⟨rfl, hb6⟩; refine Hid.out ?_)
          refine Lib.hid ?_
          have hown6 := own_below hown hb6
          have hbx6 : Below w.heap.size w w6 := hbx.trans (hb6.mono hbx.size)
          clear hown hbx hb6 c0 c1
          go_wp2
          go_roundw
          case rel => exact ⟨j + 1, n, by omega, by go_num, rfl, Lib.hid (fun m hm => HNX.out j n m HN.out hm), hown6, hbx6⟩
          case measure => simp [intOf]; omega
        · obtain rfl : j = T.length := by omega
          clear hlt hj
          go_wp2
          go_ret
          exact ⟨rfl, hbx⟩

theorem lawPlaces_walk (a0 : Option Addr) (len cap : Nat) (ns : List Int) (w : World) (hL : Lw w) (hm : (len : Int) ≤ 9223372036854775807) (hlen : ns.length = len) (hs : IntsAt a0 ns w) (hw : ∀ n ∈ ns, -9223372036854775808 ≤ n ∧ n ≤ 9223372036854775807) :
    Calls Tryd.prog 4 #[.slice a0 len cap] w fun e w' => e = .returned (.bool true) ∧ Below w.heap.size w w' := by
  by_cases h : 40 < (len : Int)
  · exact lawPlaces_long a0 len cap w hL h hm
  · subst hlen
    exact lawPlaces_main a0 cap ns w hL (by omega) hs hw

/-- What is known of a slice of numbers that came in. -/
def IsRow (k : IntKind) (w : World) (a : Option Addr) (len cap : Nat) (zs : List Int) : Prop :=
  (a = none ∧ len = 0 ∧ cap = 0 ∧ zs = []) ∨
  ∃ x, a = some x ∧ len ≤ cap ∧ cap ≤ maxLen ∧ zs.length = cap ∧ (∀ i, i < zs.length → w.cell? (x.add i) = some (.int k (zs.getD i 0))) ∧ ∀ n ∈ zs, (Lit.int k n).wf = true
theorem wf_bds {n : Int} (h : (Lit.int .i64 n).wf = true) : -9223372036854775808 ≤ n ∧ n ≤ 9223372036854775807 := by
  have e1 : IntKind.i64.min = -9223372036854775808 := rfl
  have e2 : IntKind.i64.max = 9223372036854775807 := rfl
  simp [Lit.wf, e1, e2] at h
  omega
theorem lawPlaces_row (a0 : Option Addr) (len cap : Nat) (zs : List Int) (w : World) (hL : Lw w) (h : IsRow .i64 w a0 len cap zs) :
    Calls Tryd.prog 4 #[.slice a0 len cap] w fun e w' => e = .returned (.bool true) ∧ Below w.heap.size w w' := by
  rcases h with ⟨rfl, rfl, rfl, rfl⟩ | ⟨x, rfl, hl, hc, hz, hcell, hwf⟩
  · exact lawPlaces_walk none 0 0 [] w hL (by omega) rfl (fun j n hj => by simp at hj) (fun n hn => by simp at hn)
  · unfold maxLen at hc
    refine lawPlaces_walk (some x) len cap (zs.take len) w hL (by omega) (by rw [List.length_take]; omega) (fun j n hj => ?_) (fun n hn => wf_bds (hwf n (List.mem_of_mem_take hn)))
    have hj' : j < len := by
      rcases Nat.lt_or_ge j len with h | h
      · exact h
      · rw [List.getElem?_take_eq_none h] at hj; cases hj
    rw [List.getElem?_take_of_lt hj'] at hj
    have hc2 := hcell j (by omega)
    rw [List.getD, hj] at hc2
    have hb := World.block_lt_of_cell? w _ hc2
    rw [block_add] at hb
    exact ⟨x, rfl, hb, hc2⟩
end Go.Proofs.YtfhhpkaojnnobaaDoor.Keys
