/-
  understudyref1.Text.
-/
import Derived.Test.YtkhldimcegomlaaPut
import Derived.Laws.BytesArg
namespace Go.Proofs.Ytkhldimcegomlaa
open Go.RowKit

theorem conv_own {w : World} {base n cp : Nat} {ao : Option Addr} {l : List UInt8} (hn : l.length = n) (h : w.ownsRow base 5 1 (.slice ao n cp) n (Lib.byteCells l)) : (convert 44 9 (.slice ao n cp)).run Try.prog w = .ok (.string ⟨l.toArray⟩) w := by
  subst hn
  cases l with
  | nil =>
    rcases h.2 with ⟨hv, _⟩ | ⟨g, cap, cur, hv, _⟩
    · simp at hv
      rw [hv.1]
      exact run_convert_bytes_nil w 44 5 Try.underlying44 Try.underlying5 _ _ 9 Try.underlying9
    · simp at hv
      rw [hv.1]
      have := run_convert_bytes_arg w 44 5 Try.underlying44 Try.underlying5 g 0 0 cp [] rfl (fun i hi => by omega) 9 Try.underlying9
      exact this
  | cons a r =>
    obtain ⟨g, rfl, _⟩ := own_at h (k := 0) (u := .int .u8 (a.toNat : Nat)) (by simp [Lib.byteCells])
    have hr := run_convert_bytes_arg w 44 5 Try.underlying44 Try.underlying5 g 0 (a :: r).length cp ((a :: r).map fun b => (b.toNat : Int)) (by simp) (fun i hi => by
      obtain ⟨g', e, hc⟩ := own_at h (k := i) (u := .int .u8 ((a :: r)[i].toNat : Nat)) (by unfold Lib.byteCells; rw [List.getElem?_map, List.getElem?_eq_getElem hi]; rfl)
      obtain rfl : g = g' := by simpa using e
      rw [Nat.zero_add, hc]
      rw [List.getD_eq_getElem?_getD, List.getElem?_map, List.getElem?_eq_getElem hi]
      simp) 9 Try.underlying9
    rw [hr]
    congr 2
    unfold strOfNums
    congr 2
    rw [List.map_map]
    have : ((fun n : Int => UInt8.ofNat n.toNat) ∘ fun b : UInt8 => (b.toNat : Int)) = id := by
      funext b
      simp
    rw [this, List.map_id]

def XInv (w0 : World) (u : List Nat) (v i : Value) (wr : World) : Prop :=
  ∃ (k : Nat) (acc : List UInt8), i = .int .i64 k ∧ k ≤ u.length ∧ wr.ownsRow w0.heap.size 5 1 v acc.length (Lib.byteCells acc) ∧ Below w0.heap.size w0 wr ∧ acc ++ text (u.drop k) = text u ∧ acc.length ≤ 4 * k

theorem xinv_put {w0 wr w1 : World} {u : List Nat} {k j c n : Nat} {v v' iv : Value} {acc : List UInt8} (hiv : iv = .int .i64 (j : Nat)) (hn : acc.length = n) (h : acc ++ text (u.drop k) = text u) (ha : acc.length ≤ 4 * k) (hbel : Below w0.heap.size w0 wr) (hown : wr.ownsRow w0.heap.size 5 1 v n (Lib.byteCells acc))
    (ht : text (u.drop k) = enc c ++ text (u.drop j)) (hkj : k < j) (hj : j ≤ u.length)
    (hB : w1.ownsRow w0.heap.size 5 1 v' (n + (enc c).length) (Lib.byteCells acc ++ Lib.byteCells (enc c))) (hg : wr.grownBy w1 v.ownBlock)   : XInv w0 u v' iv w1 := by
  subst hn hiv
  have := encN_len c
  refine ⟨j, acc ++ enc c, rfl, hj, ?_, ?_, ?_, ?_⟩
  · rw [Lib.byteCells_append, List.length_append]; exact hB
  · exact hbel.grown hg hbel.size (fun q hq => (hown.lt q hq).1)
  · rw [List.append_assoc, ← ht]; exact h
  · rw [List.length_append, enc_len]; omega

set_option maxRecDepth 100000 in
set_option maxHeartbeats 2000000 in
theorem rtext_any (ao : Option Addr) (cp : Nat) (u : List Nat) (w : World) (hl : u.length ≤ 10000) (hr : Rd w ao u) :
    Calls Try.prog 16 #[.slice ao u.length cp] w fun e w' => e = .returned (.string ⟨(text u).toArray⟩) ∧ Below w.heap.size w w' := by
  have HR := Lib.hid hr
  clear hr
  go_enter Try.func16, Try.ntmps16
  go_wp2
  go_loopw [3, 4] (fun v i wr => XInv w u v i wr) (fun _ i _ => u.length - (intOf i).toNat)
  case atStart => exact ⟨0, [], rfl, Nat.zero_le _, World.ownsRow_nil _ _ _ _, Below.refl _ _, rfl, by simp⟩
  case round =>
    obtain ⟨k, acc, rfl, hk, hown, hbel, htx, hal⟩ := hrel
    have hbs := hbel.size
    obtain ⟨n, hn⟩ : ∃ n, acc.length = n := ⟨_, rfl⟩
    rw [hn] at hown
    have hn9 : n ≤ 40000 := by omega
    have HT := Lib.hid htx
    have HN := Lib.hid hn
    have HAL := Lib.hid hal
    clear htx hn hal
    by_cases hlt : k < u.length
    · have hlt2 : (k : Int) < u.length := by omega
      obtain ⟨a, ha⟩ : ∃ a, u[k]? = some a := ⟨u[k], by simp [hlt]⟩
      obtain ⟨b, off, rfl, hblt, hcell0, hab⟩ := HR.out k a ha
      have hcell : wr.cell? ⟨b, off + k, none⟩ = some (.int .u16 (a : Nat)) := (hbel.cell (p := ⟨b, off + k, none⟩) hblt).trans hcell0
      have HA := Lib.hid ha
      have hai : (a : Int) ≤ 65535 := by omega
      have hac : a ≤ 1114111 := by omega
      obtain ⟨po, pc, rfl⟩ := own_shape hown
      clear ha hcell0 hab
      have one : (isHi a = false ∨ ∀ b, u[k + 1]? = some b → isLo b = false) → ∀ v' w1, w1.ownsRow w.heap.size 5 1 v' (n + (enc a).length) (Lib.byteCells acc ++ Lib.byteCells (enc a)) → wr.grownBy w1 (Value.slice po n pc).ownBlock → XInv w u v' (.int .i64 ((k : Int) + 1)) w1 :=
        fun hcase v' w1 hB hg => xinv_put (k := k) (j := k + 1) (by go_num) HN.out HT.out HAL.out hbel hown (text_one HA.out hcase) (by omega) (by omega) hB hg
      have ONE := Lib.hid one
      clear one
      by_cases hhi : isHi a = true
      · have hbh := isHi_iff.1 hhi
        have hq1 : (55296 : Int) ≤ a := by omega
        have hq2 : (a : Int) ≤ 56319 := by omega
        have HH := Lib.hid hhi
        clear hbh hhi
        by_cases hlt3 : k + 1 < u.length
        · have hlt4 : (k : Int) + 1 < u.length := by omega
          obtain ⟨c, hc⟩ : ∃ c, u[k + 1]? = some c := ⟨u[k + 1], by simp [hlt3]⟩
          obtain ⟨b', off', e, hblt', hcell0, hcb⟩ := HR.out (k + 1) c hc
          obtain ⟨rfl, rfl⟩ : b = b' ∧ off = off' := by simpa using e
          have hcell2 : wr.cell? ⟨b, off + (k + 1), none⟩ = some (.int .u16 (c : Nat)) := (hbel.cell (p := ⟨b, off + (k + 1), none⟩) hblt).trans hcell0
          have HC := Lib.hid hc
          have hci : (c : Int) ≤ 65535 := by omega
          clear hc hcell0 hcb e
          by_cases hlo : isLo c = true
          · have hbl := isLo_iff.1 hlo
            have hw1 : (56320 : Int) ≤ c := by omega
            have hw2 : (c : Int) ≤ 57343 := by omega
            obtain ⟨m, hm⟩ : ∃ m, 65536 + (a - 55296) * 1024 + (c - 56320) = m := ⟨_, rfl⟩
            have hmb : m ≤ 1114111 := by omega
            have hmi : 65536 + ((a : Int) - 55296) * 1024 + (c : Int) - 56320 = (m : Int) := by omega
            have ht := text_two HA.out HC.out HH.out hlo
            rw [hm] at ht
            have HT2 := Lib.hid ht
            have HLO := Lib.hid hlo
            clear hbl hlo hm ht
            go_wp2_with (go_at_call 32; refine (put_any w.heap.size _ n (Lib.byteCells acc) m wr hmb hown (by omega) hbs).mono ?_)
            rintro e W1 ⟨v', rfl, hB, hg⟩
            have HF := Lib.hid (xinv_put (iv := .int .i64 ((k : Int) + 2)) (k := k) (j := k + 2) (by go_num) HN.out HT.out HAL.out hbel hown HT2.out (by omega) (by omega) hB hg)
            clear hB hg hbel hown
            go_wp2
            go_roundw
            case rel => exact HF.out
            case measure => simp [intOf]; omega
          · have hlo2 : isLo c = false := by simpa using hlo
            have HLO := Lib.hid hlo2
            have hnl : ¬ (56320 ≤ c ∧ c ≤ 57343) := fun x => hlo (isLo_iff.2 x)
            clear hlo hlo2
            rcases Int.lt_or_le c 56320 with hw | hw
            · have d1 : decide ((56320 : Int) ≤ (c : Nat)) = false := decide_eq_false (by omega)
              clear hw hnl
              go_wp2_with (go_at_call 32; refine (put_any w.heap.size _ n (Lib.byteCells acc) a wr hac hown (by omega) hbs).mono ?_)
              rintro e W1 ⟨v', rfl, hB, hg⟩
              have HF := Lib.hid (ONE.out (.inr (fun x hx => by rw [HC.out] at hx; cases hx; exact HLO.out)) v' W1 hB hg)
              clear hB hg hbel hown
              go_wp2
              go_roundw
              case rel => exact HF.out
              case measure => simp [intOf]; omega
            · have d2 : decide (((c : Nat) : Int) ≤ 57343) = false := decide_eq_false (by omega)
              clear hnl
              go_wp2_with (go_at_call 32; refine (put_any w.heap.size _ n (Lib.byteCells acc) a wr hac hown (by omega) hbs).mono ?_)
              rintro e W1 ⟨v', rfl, hB, hg⟩
              have HF := Lib.hid (ONE.out (.inr (fun x hx => by rw [HC.out] at hx; cases hx; exact HLO.out)) v' W1 hB hg)
              clear hB hg hbel hown
              go_wp2
              go_roundw
              case rel => exact HF.out
              case measure => simp [intOf]; omega
        · have d3 : decide ((k : Int) + 1 < (u.length : Nat)) = false := decide_eq_false (by omega)
          go_wp2_with (go_at_call 32; refine (put_any w.heap.size _ n (Lib.byteCells acc) a wr hac hown (by omega) hbs).mono ?_)
          rintro e W1 ⟨v', rfl, hB, hg⟩
          have HF := Lib.hid (ONE.out (.inr (fun x hx => absurd (List.getElem?_eq_some_iff.1 hx).1 hlt3)) v' W1 hB hg)
          clear hB hg hbel hown
          go_wp2
          go_roundw
          case rel => exact HF.out
          case measure => simp [intOf]; omega
      · have hhi2 : isHi a = false := by simpa using hhi
        have HH := Lib.hid hhi2
        have hnh : ¬ (55296 ≤ a ∧ a < 56320) := fun x => hhi (isHi_iff.2 x)
        clear hhi hhi2
        rcases Int.lt_or_le a 55296 with hw | hw
        · have d1 : decide ((55296 : Int) ≤ (a : Nat)) = false := decide_eq_false (by omega)
          clear hw hnh
          go_wp2_with (go_at_call 32; refine (put_any w.heap.size _ n (Lib.byteCells acc) a wr hac hown (by omega) hbs).mono ?_)
          rintro e W1 ⟨v', rfl, hB, hg⟩
          have HF := Lib.hid (ONE.out (.inl HH.out) v' W1 hB hg)
          clear hB hg hbel hown
          go_wp2
          go_roundw
          case rel => exact HF.out
          case measure => simp [intOf]; omega
        · have d2 : decide (((a : Nat) : Int) ≤ 56319) = false := decide_eq_false (by omega)
          clear hnh
          go_wp2_with (go_at_call 32; refine (put_any w.heap.size _ n (Lib.byteCells acc) a wr hac hown (by omega) hbs).mono ?_)
          rintro e W1 ⟨v', rfl, hB, hg⟩
          have HF := Lib.hid (ONE.out (.inl HH.out) v' W1 hB hg)
          clear hB hg hbel hown
          go_wp2
          go_roundw
          case rel => exact HF.out
          case measure => simp [intOf]; omega
    · obtain rfl : k = u.length := by omega
      have htx := HT.out
      rw [List.drop_length] at htx
      have e : acc = text u := by simpa [text, cps, encs] using htx
      obtain ⟨po, pc, rfl⟩ := own_shape hown
      have hconv := conv_own HN.out hown
      rw [e] at hconv
      clear htx e hown
      go_wp2
      go_ret
      exact ⟨rfl, hbel⟩
end Go.Proofs.Ytkhldimcegomlaa
