/-
  Texts of this seat in build order: VaQm, VaQi, LxQuo.
-/
import Derived.Test.YtkknglmpdmhhjaaGreatDoorMg14
import Derived.Test.YtkknglmpdmhhjaaGreatDoorMg01
import Derived.Lib.Small
import Derived.Test.YtkknglmpdmhhjaaGreatDoorMg13
import Derived.OwnWalk
import Derived.Maps.AppendAt
import Derived.Laws.AppendOwnNone
/-
  Plain mathematics of a string between quotes.
-/
namespace Go.Proofs.YtkknglmpdmhhjaaGreatDoor.Vals
open Go.RowKit Go.Proofs.YtkknglmpdmhhjaaGreatDoor.Uni
set_option linter.unusedVariables false

/-- A unit that stands for itself between quotes. -/
def plainB (u : Nat) : Bool := decide (32 ≤ u ∧ u ≤ 126 ∧ u ≠ 34 ∧ u ≠ 92)
theorem plain_iff {u : Nat} : plainB u = true ↔ 32 ≤ u ∧ u ≤ 126 ∧ u ≠ 34 ∧ u ≠ 92 := by simp [plainB]
theorem plain_big {u : Nat} (h : 126 < u) : plainB u = false := by
  cases e : plainB u with
  | false => rfl
  | true => have := plain_iff.1 e; omega
/-- What a unit becomes between quotes; a list of them; a text. -/
def qU (u : Nat) : List UInt8 := if plainB u then [Nat.toUInt8 u] else escL u
def qUs (l : List Nat) : List UInt8 := l.flatMap qU
def quoteL (s : ByteArray) : List UInt8 := [34] ++ qUs (units s) ++ [34]
theorem qUs_append (a b : List Nat) : qUs (a ++ b) = qUs a ++ qUs b := by simp [qUs]
theorem qUs_one (u : Nat) : qUs [u] = qU u := by simp [qUs]
theorem qUs_nil : qUs [] = [] := rfl
theorem qU_plain {u : Nat} (h : plainB u = true) : qU u = [Nat.toUInt8 u] := if_pos h
theorem qU_esc {u : Nat} (h : plainB u = false) : qU u = escL u := by unfold qU; rw [h]; rfl
theorem escL_len (u : Nat) : (escL u).length = 6 := by simp [escL, dsOf_len]
theorem qU_len (u : Nat) : (qU u).length ≤ 6 := by
  unfold qU
  split
  · simp
  · rw [escL_len]; exact Nat.le_refl _
theorem qUs_len (l : List Nat) : (qUs l).length ≤ 6 * l.length := by
  induction l with
  | nil => simp [qUs]
  | cons a r ih =>
    have : qUs (a :: r) = qU a ++ qUs r := by simp [qUs]
    have h := qU_len a
    rw [this, List.length_append, List.length_cons]
    omega
/-- No unit of a code point that isn't plain is plain. -/
theorem un_esc {c : Nat} (h : plainB c = false) : ∀ u ∈ un c, plainB u = false := by
  intro u hu
  by_cases hc : c < 65536
  · rw [un_small hc] at hu
    simp at hu
    subst hu
    exact h
  · rw [un_great hc] at hu
    simp at hu
    rcases hu with e | e
    · exact plain_big (by rw [e]; exact Nat.lt_of_lt_of_le (by decide : 126 < 55296) (Nat.le_add_right _ _))
    · exact plain_big (by rw [e]; exact Nat.lt_of_lt_of_le (by decide : 126 < 56320) (Nat.le_add_right _ _))
theorem un_plain {c : Nat} (h : plainB c = true) : qUs (un c) = [Nat.toUInt8 c] := by
  have := plain_iff.1 h
  rw [un_small (by omega), qUs_one, qU_plain h]
theorem un_lt {c : Nat} (hc : c ≤ 1114111) : ∀ u ∈ un c, u < 65536 := by
  intro u hu
  by_cases h : c < 65536
  · rw [un_small h] at hu; simp at hu; omega
  · rw [un_great h] at hu; simp at hu; omega

theorem enc_cells {c : Nat} (hc : c ≤ 1114111) : Lib.byteCells (enc c) = (encN c).map fun n : Nat => Value.int .u8 (n : Int) := by
  unfold enc Lib.byteCells
  rw [List.map_map]
  apply List.map_congr_left
  intro x hx
  have := encN_byte hc x hx
  simp
  omega
theorem plain_rune {c : Nat} (h : plainB c = true) : Lib.runeCells (c : Int) = Lib.byteCells [Nat.toUInt8 c] := by
  have hp := plain_iff.1 h
  unfold Lib.runeCells Lib.byteCells
  rw [Lib.encodeRuneZ_one (by omega) (by omega)]
  simp
  omega
/-- The library's length of a code point's encoding. -/
theorem rlen {c : Nat} (hc : c ≤ 1114111) (hs : c < 55296 ∨ 57344 ≤ c) : Lib.runeLen (c : Int) = ((encN c).length : Nat) := by
  unfold Lib.runeLen
  rw [if_neg (by omega)]
  by_cases h1 : c < 128
  · rw [if_pos (by omega), encN_1 h1]; rfl
  · rw [if_neg (by omega)]
    by_cases h2 : c < 2048
    · rw [if_pos (by omega), encN_2 (by omega) h2]; rfl
    · rw [if_neg (by omega), if_neg (by omega)]
      by_cases h3 : c < 65536
      · rw [if_pos (by omega), encN_3 (by omega) h3]; rfl
      · rw [if_neg (by omega), if_pos (by omega), encN_4 (by omega)]; rfl

/-- The units of one code point's bytes. -/
theorem units_cut {s : ByteArray} {i c n : Nat} (hi : i < s.size) (h : pt s i = (c, n)) (hn : n ≠ 0) (hc : c ≤ 1114111) : units (s.extract i (i + n)) = un c := by
  have hle := pt_le s i hi
  have he := pt_enc hi (by rw [h]; exact hn)
  rw [h] at he hle
  simp only at he hle
  have hl : (s.extract i (i + n)).data.toList = encs [c] := by
    have e1 : encs [c] = enc c := by simp [encs]
    rw [e1]
    apply List.ext_getElem
    · rw [enc_len, he.1]
      simp
      omega
    · intro q h1 h2
      have hq : q < n := by rw [enc_len, he.1] at h2; exact h2
      have hb := he.2 q hq
      have hlt : q < (encN c).length := by rw [he.1]; exact hq
      have e2 : (enc c)[q] = Nat.toUInt8 ((encN c)[q]) := by simp [enc]
      rw [e2]
      have e3 : (s.extract i (i + n)).data.toList[q] = s[i + q]'(by omega) := by
        simp
        rfl
      rw [e3]
      have e4 := B_get s (i + q) (by omega)
      rw [hb, List.getD_eq_getElem?_getD, List.getElem?_eq_getElem hlt] at e4
      simp at e4
      have := encN_byte hc _ (List.getElem_mem hlt)
      apply UInt8.toNat_inj.1
      rw [e4]
      simp
      omega
  have hs : s.extract i (i + n) = ⟨(encs [c]).toArray⟩ := by
    apply ByteArray.ext
    apply Array.toList_inj.1
    rw [hl]
  have hp : pts (s.extract i (i + n)) = some [c] := by
    rw [hs]
    exact pts_encs (by intro x hx; simp at hx; omega) (by simp [np])
  unfold units
  rw [hp]
  simp [uns]
end Go.Proofs.YtkknglmpdmhhjaaGreatDoor.Vals

/-
  A text is told by what stands between its quotes, and all of that can be printed.
-/
namespace Go.Proofs.YtkknglmpdmhhjaaGreatDoor.Vals
open Go.RowKit Go.Proofs.YtkknglmpdmhhjaaGreatDoor.Uni
set_option linter.unusedVariables false

theorem toU8_inj {a b : Nat} (ha : a < 256) (hb : b < 256) (h : Nat.toUInt8 a = Nat.toUInt8 b) : a = b := by
  have := congrArg UInt8.toNat h
  simp at this
  omega
theorem dsOf_inj {u v : Nat} (hu : u < 65536) (hv : v < 65536) (h : dsOf u 4 = dsOf v 4) : u = v := by
  simp only [dsOf, List.cons.injEq, and_true] at h
  obtain ⟨h3, h2, h1, h0⟩ := h
  have e3 := hexd_inj (Nat.mod_lt _ (by decide)) (Nat.mod_lt _ (by decide)) h3
  have e2 := hexd_inj (Nat.mod_lt _ (by decide)) (Nat.mod_lt _ (by decide)) h2
  have e1 := hexd_inj (Nat.mod_lt _ (by decide)) (Nat.mod_lt _ (by decide)) h1
  have e0 := hexd_inj (Nat.mod_lt _ (by decide)) (Nat.mod_lt _ (by decide)) h0
  simp at e3 e2 e1 e0
  omega
theorem map_u8_inj : ∀ {l m : List Nat}, (∀ x ∈ l, x < 256) → (∀ x ∈ m, x < 256) → l.map Nat.toUInt8 = m.map Nat.toUInt8 → l = m
  | [], [], _, _, _ => rfl
  | [], b :: m, _, _, h => by simp at h
  | a :: l, [], _, _, h => by simp at h
  | a :: l, b :: m, hl, hm, h => by
    simp only [List.map_cons, List.cons.injEq] at h
    have e1 := toU8_inj (hl a (List.mem_cons_self ..)) (hm b (List.mem_cons_self ..)) h.1
    have e2 := map_u8_inj (fun x hx => hl x (List.mem_cons_of_mem _ hx)) (fun x hx => hm x (List.mem_cons_of_mem _ hx)) h.2
    rw [e1, e2]
theorem escL_inj {u v : Nat} (hu : u < 65536) (hv : v < 65536) (h : escL u = escL v) : u = v := by
  unfold escL at h
  have h2 := List.append_cancel_left h
  exact dsOf_inj hu hv (map_u8_inj (fun x hx => by have := dsOf_lt u 4 x hx; omega) (fun x hx => by have := dsOf_lt v 4 x hx; omega) h2)
theorem plain_ne {u : Nat} (h : plainB u = true) : Nat.toUInt8 u ≠ 92 := by
  intro e
  have hp := plain_iff.1 h
  have := congrArg UInt8.toNat e
  simp at this
  omega
theorem qUs_cons (u : Nat) (r : List Nat) : qUs (u :: r) = qU u ++ qUs r := by simp [qUs]
theorem qU_ne (u : Nat) : qU u ≠ [] := by
  unfold qU
  split
  · simp
  · simp [escL]
theorem qUs_inj : ∀ {l m : List Nat}, (∀ x ∈ l, x < 65536) → (∀ x ∈ m, x < 65536) → qUs l = qUs m → l = m
  | [], [], _, _, _ => rfl
  | [], b :: m, _, _, h => by
    rw [qUs_nil, qUs_cons] at h
    exact absurd (List.append_eq_nil_iff.1 h.symm).1 (qU_ne b)
  | a :: l, [], _, _, h => by
    rw [qUs_nil, qUs_cons] at h
    exact absurd (List.append_eq_nil_iff.1 h).1 (qU_ne a)
  | a :: l, b :: m, hl, hm, h => by
    have ha := hl a (List.mem_cons_self ..)
    have hb := hm b (List.mem_cons_self ..)
    rw [qUs_cons, qUs_cons] at h
    have key : a = b ∧ qUs l = qUs m := by
      cases pa : plainB a with
      | true =>
        cases pb : plainB b with
        | true =>
          rw [qU_plain pa, qU_plain pb] at h
          simp only [List.cons_append, List.nil_append, List.cons.injEq] at h
          have h1 := plain_iff.1 pa
          have h2 := plain_iff.1 pb
          exact ⟨toU8_inj (by omega) (by omega) h.1, h.2⟩
        | false =>
          rw [qU_plain pa, qU_esc pb] at h
          simp only [escL, List.cons_append, List.nil_append, List.cons.injEq] at h
          exact absurd h.1 (plain_ne pa)
      | false =>
        cases pb : plainB b with
        | true =>
          rw [qU_esc pa, qU_plain pb] at h
          simp only [escL, List.cons_append, List.nil_append, List.cons.injEq] at h
          exact absurd h.1.symm (plain_ne pb)
        | false =>
          rw [qU_esc pa, qU_esc pb] at h
          have hlen : (escL a).length = (escL b).length := by rw [escL_len, escL_len]
          have := List.append_inj h hlen
          exact ⟨escL_inj ha hb this.1, this.2⟩
    rw [key.1, qUs_inj (fun x hx => hl x (List.mem_cons_of_mem _ hx)) (fun x hx => hm x (List.mem_cons_of_mem _ hx)) key.2]

theorem uns_lt {L : List Nat} (h : ∀ c ∈ L, c ≤ 1114111) : ∀ u ∈ uns L, u < 65536 := by
  intro u hu
  unfold uns at hu
  simp only [List.mem_flatMap] at hu
  obtain ⟨c, hc, hu⟩ := hu
  exact un_lt (h c hc) u hu
theorem quoteL_inj {a b : ByteArray} {A B : List Nat} (ha : pts a = some A) (hb : pts b = some B) (h : quoteL a = quoteL b) : a = b := by
  have ea : quoteL a = [34] ++ qUs (uns A) ++ [34] := by unfold quoteL units; rw [ha]; rfl
  have eb : quoteL b = [34] ++ qUs (uns B) ++ [34] := by unfold quoteL units; rw [hb]; rfl
  rw [ea, eb] at h
  have h1 := List.append_cancel_left (List.append_cancel_right h)
  have bA := pts_bd ha
  have bB := pts_bd hb
  have h2 := qUs_inj (uns_lt bA) (uns_lt bB) h1
  have pa := pts_back ha
  have pb := pts_back hb
  have h3 : A = B := by rw [← cps_uns A bA pa.2, ← cps_uns B bB pb.2, h2]
  apply ByteArray.ext
  apply Array.toList_inj.1
  rw [pa.1, pb.1, h3]

theorem hex_print {d : Nat} (h : d < 16) : 32 ≤ (Nat.toUInt8 (hexd d)).toNat ∧ (Nat.toUInt8 (hexd d)).toNat ≤ 126 := by
  have := hexd_cases h
  simp
  omega
theorem ds_print (u : Nat) : ∀ k, ∀ x ∈ (dsOf u k).map Nat.toUInt8, 32 ≤ x.toNat ∧ x.toNat ≤ 126
  | 0 => fun x h => by simp [dsOf] at h
  | k + 1 => fun x h => by
    simp only [dsOf, List.map_cons, List.mem_cons] at h
    rcases h with rfl | h
    · exact hex_print (Nat.mod_lt _ (by decide))
    · exact ds_print u k x h
theorem qU_print (u : Nat) : ∀ x ∈ qU u, 32 ≤ x.toNat ∧ x.toNat ≤ 126 := by
  intro x hx
  cases pu : plainB u with
  | true =>
    rw [qU_plain pu] at hx
    simp only [List.mem_singleton] at hx
    have := plain_iff.1 pu
    rw [hx]
    simp
    omega
  | false =>
    rw [qU_esc pu] at hx
    unfold escL at hx
    simp only [List.cons_append, List.nil_append, List.mem_cons] at hx
    rcases hx with rfl | rfl | hx
    · decide
    · decide
    · exact ds_print u 4 x hx
theorem quote_print (s : ByteArray) : ∀ x ∈ quoteL s, 32 ≤ x.toNat ∧ x.toNat ≤ 126 := by
  intro x hx
  unfold quoteL qUs at hx
  simp only [List.mem_append, List.mem_singleton, List.mem_flatMap] at hx
  rcases hx with (rfl | ⟨u, _, hx⟩) | rfl
  · decide
  · exact qU_print u x hx
  · decide
theorem quote_two (s : ByteArray) : 2 ≤ (quoteL s).length := by unfold quoteL; simp
end Go.Proofs.YtkknglmpdmhhjaaGreatDoor.Vals

/-
  reader.quoted.
-/
namespace Go.Proofs.YtkknglmpdmhhjaaGreatDoor.Lx
open Go Go.RowKit Go.Maps Go.Proofs.YtkknglmpdmhhjaaGreatDoor.Uni
set_option linter.unusedVariables false
set_option linter.unusedSimpArgs false
attribute [local go_sem ↓] ldK stK alK bdK
attribute [local irreducible] kcs
attribute [local go_sem] run_alK run_bdK0 run_bdKs run_bdKn run_bdKe

/-- 'append(out, l...)', both lists of the call's own. -/
theorem wp_append_two {P : Program} {w : World} {ops : Array Oper} {rest : List Oper} {o : Oper} {a : Act} {Q : Exit → Act → World → Prop} (hgd : o.guard = none) (s x : Operand) (t : TypeId)
    (ho : o.op = .call { callee := .builtin .append, args := #[s, x], argTypes := #[t, t] })
    (base : Nat) (e : TypeId) (i : TypeInfo) (z : Value) (size bytes : Nat) (ht : P.underlying t = some (.slice e)) (hi : P.info? e = some i) (hz : i.zero = some z)
    (hsize : i.size = size) (hby : i.bytes = bytes) (hzs : z.cells.size = size) (hsz : 0 < size)
    (v : Value) (n : Nat) (xs : List Value) (hs : a.eval s = v) (hown : w.ownsRow base e size v n xs)
    (base2 : Nat) (v2 : Value) (n2 : Nat) (xs2 : List Value) (hx : a.eval x = v2) (hown2 : w.ownsRow base2 e size v2 n2 xs2) (h1 : ∀ u ∈ xs2, u.oneCell' = true)
    (h63 : n + n2 ≤ maxLen) (hbytes : (n + n2) * bytes ≤ 140737488355328) (hbase : base ≤ w.heap.size)
    (h : ∀ v' w', w'.ownsRow base e size v' (n + n2) (xs ++ xs2) → w.grownBy w' v.ownBlock → (v'.ownBlock = v.ownBlock ∨ v'.ownBlock = some w.heap.size) → wpList P ops Q rest (a.put o.dst v') w') :
    wpList P ops Q (o :: rest) a w := by
  rcases hown2.2 with ⟨rfl, rfl⟩ | ⟨g, cap, cur, rfl, _⟩
  · have hn : xs2 = [] := List.eq_nil_of_length_eq_zero (by simpa using hown2.1)
    subst hn
    exact wpList_append_own_none hgd s x t ho base e i size ht hi v n xs hs hown hx (h v w (by simpa using hown) (World.grownBy.refl _ _) (.inl rfl))
  · exact wpList_append_own_at w hgd s x t ho base e i z size bytes ht hi hz hsize hby hzs hsz v n xs hs hown ⟨g, 0, none⟩ n2 cap xs2 hx hown2.1 (hown2.cells (g := g) rfl) h1 h63 hbytes hbase
      (fun v' w' r1 r2 _ r4 => h v' w' r1 r2 r4)
theorem uc_one (l : List Nat) : ∀ u ∈ uc l, u.oneCell' = true := by
  intro u hu
  unfold uc at hu
  obtain ⟨n, _, rfl⟩ := List.mem_map.1 hu
  rfl

/-- What is known of the world while a string is read: the quote's cell, the result's cell, the reader. -/
structure Mq (g : Nat) (t : ByteArray) (a q : Nat) (w W : World) : Prop where
  bel : Below w.heap.size w W
  res : Blk W (w.heap.size + 1) (kcs zeroK) 79
  cap : W.cell? ⟨w.heap.size, 0, none⟩ = some (.int .i32 (q : Int))
  rd : Rd W g t a
  lt : g < w.heap.size
  size : w.heap.size + 2 ≤ W.heap.size
theorem Mq.low {g : Nat} {t : ByteArray} {a q : Nat} {w W W2 : World} (h : Mq g t a q w W) (hb : Below (w.heap.size + 2) W W2) : Mq g t a q w W2 := by
  have hl := h.lt
  refine ⟨h.bel.trans (hb.mono (by omega)), h.res.below hb (by omega), ?_, (hb.block g (by omega)).trans h.rd, hl, Nat.le_trans h.size hb.size⟩
  rw [hb.cell (p := ⟨w.heap.size, 0, none⟩) (by show w.heap.size < w.heap.size + 2; omega)]
  exact h.cap
theorem Mq.call {g : Nat} {t : ByteArray} {a q : Nat} {w W W2 : World} (h : Mq g t a q w W) (hb : Below W.heap.size W W2) : Mq g t a q w W2 := h.low (hb.mono h.size)
theorem Mq.drewN {g : Nat} {t : ByteArray} {a q : Nat} {w W : World} (h : Mq g t a q w W) (n : Nat) : Mq g t a q w (W.drewN n) := h.call (below_drewN (Below.refl _ _) n)
theorem mq_start {g : Nat} {t : ByteArray} {a q : Nat} {w : World} (hr : Rd w g t a) : Mq g t a q w ((w.alloc (.cells #[.int .i32 (q : Int)] 21)).alloc (.cells (kcs zeroK) 79)) := by
  have hl := hr.lt
  refine ⟨bl_alloc bel1, blk_newg (by simp), ?_, hr.below (bl_alloc bel1), hl, by simp⟩
  have h1 : ((w.alloc (.cells #[.int .i32 (q : Int)] 21)).alloc (.cells (kcs zeroK) 79)).heap[w.heap.size]? = some (.cells #[.int .i32 (q : Int)] 21 (0, 0)) := by
    rw [heap_alloc_old _ _ (by simp)]
    exact heap_alloc_new w _
  exact cell_of_one h1
/-- The token is none: the reader stands at b. -/
theorem Mq.bad {g : Nat} {t : ByteArray} {a q b : Nat} {w W : World} (h : Mq g t a q w W) {l : By} (hl : l = t.data.toList.drop b) (hb : b ≤ t.size) {v : Int} (hv : v = (b : Int)) {fn : Func} {p r : Tmp} (hf : fn.results = #[.cell p 79, .tmp r]) {tmps : Array Value} (hp : tmps.getD p undef = .pointer (some ⟨w.heap.size + 1, 0, none⟩)) (hq : tmps.getD r undef = .bool false) : bodyPost Tryz.prog fn (GotP g t a w (.bad l)) .ret ⟨tmps, []⟩ ((W.setCell ⟨g, 1, none⟩ (.int .i64 v)).setRow (w.heap.size + 1) (kcs zeroK)) := by
  have hlt := h.lt
  have hne : w.heap.size + 1 ≠ g := by omega
  exact bodyPost_ret (res_K hf _ _ (w.heap.size + 1) zeroK _ hp hq ((h.res.other _ _ (by simpa using hne)).row _)) rfl ⟨rfl, b, hl, hb, (h.rd.set hv).row _ hne.symm, ((GB.of h.bel).trans (GB.set _ _ _)).row _ (by omega)⟩
theorem Mq.bad0 {g : Nat} {t : ByteArray} {a q : Nat} {w W : World} (h : Mq g t a q w W) {l : By} (hl : l = t.data.toList.drop a) (hb : a ≤ t.size) {fn : Func} {p r : Tmp} (hf : fn.results = #[.cell p 79, .tmp r]) {tmps : Array Value} (hp : tmps.getD p undef = .pointer (some ⟨w.heap.size + 1, 0, none⟩)) (hq : tmps.getD r undef = .bool false) : bodyPost Tryz.prog fn (GotP g t a w (.bad l)) .ret ⟨tmps, []⟩ (W.setRow (w.heap.size + 1) (kcs zeroK)) := by
  have hlt := h.lt
  exact bodyPost_ret (res_K hf _ _ (w.heap.size + 1) zeroK _ hp hq (h.res.row _)) rfl ⟨rfl, a, hl, hb, h.rd.row _ (by omega), (GB.of h.bel).row _ (by omega)⟩
theorem Mq.good {g : Nat} {t : ByteArray} {a q b : Nat} {w W W2 : World} (h : Mq g t a q w W) (h2 : Mq g t a q w W2) {l : By} (tk : Tk) {v : Int} (hv : v = (b : Int)) (hl : l = t.data.toList.drop b) (hb : b ≤ t.size) {fn : Func} {p r : Tmp} (hf : fn.results = #[.cell p 79, .tmp r]) {tmps : Array Value} (hp : tmps.getD p undef = .pointer (some ⟨w.heap.size + 1, 0, none⟩)) (hq : tmps.getD r undef = .bool true) {W3 : World} (hW : Below W2.heap.size (W2.setCell ⟨g, 1, none⟩ (.int .i64 v)) W3) : bodyPost Tryz.prog fn (GotP g t a w (.ok tk l)) .ret ⟨tmps, []⟩ (W3.setRow (w.heap.size + 1) (kcs ⟨tk.kind, a, tk.num, tk.text⟩)) := by
  have hlt := h.lt
  have hsz := h2.size
  have hne : w.heap.size + 1 ≠ g := by omega
  have r3 : Blk W3 (w.heap.size + 1) (kcs zeroK) 79 := (h2.res.other _ _ (by simpa using hne)).below hW (by omega)
  have d3 : Rd W3 g t b := (hW.block g (by omega)).trans (h2.rd.set hv)
  have k3 : Below w.heap.size (W2.setCell ⟨g, 1, none⟩ (.int .i64 v)) W3 := hW.mono (by omega)
  refine bodyPost_ret (res_K hf _ _ (w.heap.size + 1) ⟨tk.kind, a, tk.num, tk.text⟩ _ hp hq (r3.row _)) rfl ⟨rfl, b, hl, hb, d3.row _ hne.symm, ?_⟩
  refine GB.row ?_ _ (by omega)
  have g1 : GB g w (W2.setCell ⟨g, 1, none⟩ (.int .i64 v)) := (GB.of h2.bel).trans (GB.set _ _ _)
  exact ⟨k3.os.trans g1.os, k3.tape.trans g1.tape, k3.output.trans g1.output, Nat.le_trans g1.size k3.size, fun k hk hn => (k3.block k hk).trans (g1.block k hk hn)⟩

theorem esc_lt {l : By} : (escF l).1 < 65536 := by
  match l with
  | [] => simp [escF]
  | [_] => simp [escF]
  | a :: c :: r =>
    simp only [escF]
    have := c.toNat_lt
    split
    · simp
    · split
      · simp
      · split
        · simp; omega
        · split
          · split
            · simp
            · split
              · simp
              · rename_i u hu
                have h1 := hexF_lt _ _ _ hu
                have h2 : (r.take 4).length ≤ 4 := List.length_take_le _ _
                have h3 : 16 ^ (r.take 4).length ≤ 16 ^ 4 := Nat.pow_le_pow_right (by decide) h2
                simp
                omega
          · simp
theorem esc_len {l : By} : (escF l).2 ≤ l.length ∧ (escF l).2 ≤ 6 ∧ ((escF l).2 ≠ 0 → 2 ≤ (escF l).2) := by
  match l with
  | [] => simp [escF]
  | [_] => simp [escF]
  | a :: c :: r =>
    simp only [escF]
    split
    · simp
    · split
      · simp
      · split
        · simp
        · split
          · split
            · simp
            · split
              · simp
              · simp; omega
          · simp
theorem units_lt (s : ByteArray) : ∀ u ∈ units s, u < 65536 := by
  intro u hu
  unfold units at hu
  cases hp : pts s with
  | none => rw [hp] at hu; simp at hu
  | some L =>
    rw [hp] at hu
    exact Vals.uns_lt (pts_bd hp) u hu

/-- Where the loop stands. -/
structure QI (g : Nat) (t : ByteArray) (a q : Nat) (R : Got) (l0 : By) (w wr : World) (us : List Nat) (e f : Nat) (v : Value) : Prop where
  mq : Mq g t a q w wr
  own : wr.ownsRow (w.heap.size + 2) 127 1 v us.length (uc us)
  lo : a < e
  hi : e ≤ t.size
  len : us.length ≤ 2 * e
  fu : t.size < e + f
  lt : ∀ u ∈ us, u < 65536
  eq : R = quotF q l0 f us (t.data.toList.drop e)
end Go.Proofs.YtkknglmpdmhhjaaGreatDoor.Lx
