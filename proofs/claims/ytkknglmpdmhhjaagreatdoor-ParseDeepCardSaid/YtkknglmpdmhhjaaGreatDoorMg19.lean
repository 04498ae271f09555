/-
  Texts of this seat in build order: LxToks, PaSpec.
-/
import Derived.Test.YtkknglmpdmhhjaaGreatDoorMg18
/-
  lex.Tokens: the walk.
-/
namespace Go.Proofs.YtkknglmpdmhhjaaGreatDoor.Lx
open Go Go.RowKit Go.Maps Go.Proofs.YtkknglmpdmhhjaaGreatDoor.Uni
set_option linter.unusedVariables false
set_option linter.unusedSimpArgs false
attribute [local go_sem ↓] ldK stK alK bdK bsK
attribute [local irreducible] kcs
attribute [local go_sem] run_alK run_bdK0 run_bdKs run_bdKn run_bdKe run_bsK

theorem ti_ne {w wr : World} {v : Value} {n : Nat} {xs : List Value} {e size g : Nat} (h : wr.ownsRow (w.heap.size + 1) e size v n xs) (hg : g ≤ w.heap.size) : v.ownBlock ≠ some g := fun hk => by have := (h.lt g hk).1; omega

set_option maxRecDepth 100000 in
set_option maxHeartbeats 8000000 in
theorem toks_main (ao : Option Addr) (cp : Nat) (s : ByteArray) (w : World) (hF : Fa w) (h7 : 7 ≤ w.heap.size) (hcv : (convert 22 9 (.slice ao s.size cp)).run Tryz.prog w = .ok (.string s) w) (hl : ¬ 65536 < s.size) (hb : badS s = none) :
    Calls Tryz.prog 21 #[.slice ao s.size cp] w (TokPost s w) := by
  obtain ⟨i0, hi, hz0, hz1, hz2⟩ := info_parts infoK3
  have hund := fun w => und_any s w (by omega)
  rw [hb] at hund
  have hli : (s.size : Int) ≤ 65536 := by omega
  have HF := Lib.hid hF
  have HHB := Lib.hid hb
  have HHL := Lib.hid hl
  clear hF hb
  go_enter Tryz.func21, Tryz.ntmps21
  go_wp2_with (go_at_call 42; refine (hund _).mono ?_; rintro e w1 ⟨rfl, hb1⟩; refine Hid.out ?_)
  refine Lib.hid ?_
  have hr0 : Rd w1 w.heap.size s 0 := (hb1.block w.heap.size (by simp)).trans (heap_alloc_new w _)
  have hbel0 : Below w.heap.size w w1 := ((Below.refl _ w).alloc (Nat.le_refl _) _).trans (hb1.mono (by simp))
  have hsz0 : w.heap.size + 1 ≤ w1.heap.size := by have := hb1.size; simp at this; omega
  have hT0 : ∀ v, v = .slice none 0 0 → TI s w w1 [] 0 (s.size + 1) v := fun v hv => by
    subst hv
    exact ⟨hbel0, hr0, Nat.zero_le _, World.ownsRow_nil _ _ _ _, hsz0, by omega, Nat.le_refl _, by rw [List.drop_zero]; cases lexF (s.size + 1) s.data.toList <;> rfl⟩
  have HT0 := Lib.hid hT0
  clear hb1 hr0 hbel0 hsz0 hT0 hund
  go_wp2
  go_loopw [8] (fun v wr => ∃ done a f, TI s w wr done a f v) (fun _ wr => s.size - posOf w.heap.size wr)
  case atStart => exact ⟨[], 0, s.size + 1, HT0.out _ rfl⟩
  case round =>
    obtain ⟨done, a, f, hT⟩ := hrel
    have hFr := HF.out.later h7 hT.bel
    have hnext := next_any w.heap.size s a wr hT.rd hT.hi (by omega) hFr h7
    have hpos := hT.rd.pos
    obtain ⟨R, hR⟩ : ∃ R, nextF (s.data.toList.drop a) = R := ⟨_, rfl⟩
    rw [hR] at hnext
    obtain ⟨K, hK⟩ : ∃ K, R.tok (atOf s a) = K := ⟨_, rfl⟩
    obtain ⟨ok, hok⟩ : ∃ ok, R.fine = ok := ⟨_, rfl⟩
    have hnx : Calls Tryz.prog 43 #[.pointer (some ⟨w.heap.size, 0, none⟩)] wr fun e w' => e = .returned (.tuple #[.agg (kcs K), .bool ok]) ∧ ∃ b, R.left = s.data.toList.drop b ∧ On w.heap.size s b wr w' := by
      refine hnext.mono fun e w' hp => ?_
      have := gotP_iff.1 hp
      rwa [hK, hok] at this
    have HT := Lib.hid hT
    have HR := Lib.hid hR
    have HK := Lib.hid hK
    have HOK := Lib.hid hok
    have HPS := Lib.hid hpos
    have hlen := hT.len
    have hhi := hT.hi
    obtain ⟨hv1, hv2⟩ := hT.own
    have hown := hT.own
    have hsz := hT.size
    clear hnext hR hK hok hT hFr hv1 hv2 hpos
    cases ok with
    | false =>
      cases R with
      | ok t r => cases HOK.out
      | bad r =>
        clear hown
        go_wp2_with (go_at_call 43; refine hnx.mono ?_; rintro e w2 ⟨rfl, b, hleft, hon⟩; have c1 := hon.2.1.c1; have c1a : ∀ o, (w2.alloc o).cell? ⟨w.heap.size, 1, none⟩ = some (.int .i64 (b : Int)) := (fun o => (hon.2.1.below bel1).c1); have sn := run_stKg w2 w2.heap.size K zeroK rfl; have HLE := Lib.hid hleft; have HON := Lib.hid hon; clear hon hleft)
        go_quiet (fail)
        go_wp2
        go_ret3
        exact ti_bad HT.out HHL.out HHB.out HR.out HLE.out HON.out ((HON.out.2.2.below HT.out.bel (by omega) (Nat.le_refl _)).trans ((below_drewN bel1 _).mono (by have := HON.out.2.2.size; omega))) rfl rfl
    | true =>
      cases R with
      | bad r => cases HOK.out
      | ok t r =>
        go_wp2_with (first | (go_at_call 43; refine hnx.mono ?_; rintro e w2 ⟨rfl, b, hleft, hon⟩; have sn := run_stKg w2 w2.heap.size K zeroK rfl; have lv := run_ldK (blk_newg (w := w2) (g := w2.heap.size) (cs := kcs K) (t := 79) rfl); have hown2 := hown.kept hon.2.2 (.inr (ti_ne hown (Nat.le_refl _))); have hs2 := hon.2.2.size; have hsz2 := Nat.le_trans hsz hs2; have HON := Lib.hid hon; have HLE := Lib.hid hleft; clear hon hleft) | (at_builtin; refine wpList_append_own _ rfl _ _ 40 rfl (w.heap.size + 1) 79 i0 (.agg (kcs zeroK)) 4 40 Tryz.underlying40 hi hz0 hz1 hz2 zeroK_cells (by decide) _ _ _ rfl ((hown2.alloc _).alloc _) ⟨w2.heap.size + 1, 0, none⟩ 1 1 (kcs K).toList rfl (kcs_list K) (new_cells _ _ (by simp) K) (kcs_one' K) (by unfold maxLen; omega) (by omega) (by simp; omega) ?_; intro v5 w5 hown5 hgrow5 _; refine Hid.out ?_))
        refine Lib.hid ?_
        have hrow := fun k hk => (hown2.lt k hk).1
        have hb4 : Below w.heap.size w ((w2.alloc (.cells (kcs K) 79)).alloc (.cells (kcs K) 79)) := (HON.out.2.2.below HT.out.bel (by omega) (Nat.le_refl _)).trans ((bl_alloc bel1).mono (by omega))
        have hb5 : Below w.heap.size w w5 := hb4.grown hgrow5 (by simp; omega) (fun k hk => by have := hrow k hk; omega)
        have hrd5 : Rd w5 w.heap.size s b := by
          have h4 : Rd ((w2.alloc (.cells (kcs K) 79)).alloc (.cells (kcs K) 79)) w.heap.size s b := HON.out.2.1.below (bl_alloc bel1)
          exact (hgrow5.block _ h4.lt (fun e => by have := hrow _ e.symm; omega)).trans h4
        have hK5 : Blk w5 w2.heap.size (kcs K) 79 := by
          have h4 : Blk ((w2.alloc (.cells (kcs K) 79)).alloc (.cells (kcs K) 79)) w2.heap.size (kcs K) 79 := (Blk.new w2 _ _).old _
          exact (hgrow5.block _ h4.lt (fun e => by have := (hown2.lt _ e.symm).2; omega)).trans h4
        have hs5 : w.heap.size + 1 ≤ w5.heap.size := by have := hgrow5.size; simp at this; omega
        have ck := (hK5.cell 0).trans (kcs_0 K)
        have hKk : K.kind = (t.kind : Int) := by rw [← HK.out]; rfl
        have hbh := HON.out.1
        rw [← HK.out] at hown5
        have HW5 := Lib.hid hown5
        have HB5 := Lib.hid hb5
        have HR5 := Lib.hid hrd5
        clear hrow hb4 hb5 hrd5 hK5 hown5 hgrow5 hown2 hown hnx sn lv
        by_cases hk : t.kind = 0
        · have e0 : ((K.kind == 0)) = true := by simp; omega
          go_wp2
          go_ret3
          exact ti_end HT.out HHL.out HHB.out HR.out hk HB5.out HW5.out
        · have e0 : ((K.kind == 0)) = false := by simp; omega
          obtain ⟨⟨f', hT2⟩, hab⟩ := ti_next HT.out HR.out hk HLE.out hbh HB5.out HR5.out hs5 HW5.out
          have HT2 := Lib.hid hT2
          have HAB := Lib.hid hab
          clear hT2 hab
          go_wp2
          go_roundw
          case rel => exact ⟨_, _, _, HT2.out⟩
          case measure => rw [HT2.out.rd.pos, HPS.out]; have := HAB.out; omega

set_option maxRecDepth 100000 in
set_option maxHeartbeats 2000000 in
theorem toks_long (ao : Option Addr) (cp : Nat) (s : ByteArray) (w : World) (hl : 65536 < s.size) (hm : s.size ≤ 9223372036854775807) :
    Calls Tryz.prog 21 #[.slice ao s.size cp] w (TokPost s w) := by
  have e : lexT s = (3, 0, []) := by unfold lexT; rw [if_pos hl]
  have h1 : decide ((65536 : Int) < (s.size : Nat)) = true := by simp; omega
  have HE := Lib.hid e
  clear e hl
  go_enter Tryz.func21, Tryz.ntmps21
  go_wp2
  go_ret3
  refine ⟨.slice none 0 0, by rw [HE.out]; rfl, ?_, Below.refl _ _⟩
  rw [HE.out]
  exact World.ownsRow_nil _ _ _ _

set_option maxRecDepth 100000 in
set_option maxHeartbeats 2000000 in
theorem toks_und (ao : Option Addr) (cp : Nat) (s : ByteArray) (w : World) (hcv : (convert 22 9 (.slice ao s.size cp)).run Tryz.prog w = .ok (.string s) w) (hl : ¬ 65536 < s.size) (i : Nat) (hb : badS s = some i) :
    Calls Tryz.prog 21 #[.slice ao s.size cp] w (TokPost s w) := by
  have e : lexT s = (2, i, []) := by unfold lexT; rw [if_neg hl, hb]
  have hund := fun w => und_any s w (by omega)
  rw [hb] at hund
  have hli : (s.size : Int) ≤ 65536 := by omega
  have HE := Lib.hid e
  clear e hl hb
  go_enter Tryz.func21, Tryz.ntmps21
  go_wp2_with (go_at_call 42; refine (hund _).mono ?_; rintro e w1 ⟨rfl, hb1⟩)
  go_ret3
  refine ⟨.slice none 0 0, by rw [HE.out]; rfl, ?_, bel1.trans (hb1.mono (by simp))⟩
  rw [HE.out]
  exact World.ownsRow_nil _ _ _ _

theorem toks_any (ao : Option Addr) (cp : Nat) (s : ByteArray) (w : World) (hF : Fa w) (h7 : 7 ≤ w.heap.size) (hcv : (convert 22 9 (.slice ao s.size cp)).run Tryz.prog w = .ok (.string s) w) (hm : s.size ≤ 9223372036854775807) :
    Calls Tryz.prog 21 #[.slice ao s.size cp] w (TokPost s w) := by
  by_cases hl : 65536 < s.size
  · exact toks_long ao cp s w hl hm
  · cases hb : badS s with
    | some i => exact toks_und ao cp s w hcv hl i hb
    | none => exact toks_main ao cp s w hF h7 hcv hl hb
end Go.Proofs.YtkknglmpdmhhjaaGreatDoor.Lx

/-
  Plain mathematics of the parser: what it gives for a list of tokens; nothing here speaks of the program.
-/
namespace Go.Proofs.YtkknglmpdmhhjaaGreatDoor.Pa
open Go.Proofs.YtkknglmpdmhhjaaGreatDoor.Lx
set_option linter.unusedVariables false

inductive Tree where
  | mk (kind num : Int) (text : ByteArray) (names : List ByteArray) (kids : List Tree)
def Tree.kind : Tree → Int | .mk k _ _ _ _ => k
def Tree.num : Tree → Int | .mk _ n _ _ _ => n
def Tree.text : Tree → ByteArray | .mk _ _ t _ _ => t
def Tree.names : Tree → List ByteArray | .mk _ _ _ ns _ => ns
def Tree.kids : Tree → List Tree | .mk _ _ _ _ ks => ks
def noS : ByteArray := ⟨#[]⟩
def node (k : Int) (ks : List Tree) : Tree := .mk k 0 noS [] ks
def zeroT : Tree := .mk 0 0 noS [] []
/-- The parser's state: the tokens that are left, and the error. -/
structure PS where
  left : List Tok
  pos : Int
  fault : Int
def PS.next (s : PS) : Tok := s.left.headD zeroK
def PS.take (s : PS) : PS := { s with left := s.left.tail }
def stopK : Tok := ⟨-1, 0, 0, noS⟩
def PS.fail (s : PS) (e : Int) : PS := if s.fault = 0 then ⟨[stopK], s.next.pos, e⟩ else s
def markF (t : Tok) : Bool := t.kind == 2 || t.kind == 5
def eqT (x y : ByteArray) : Bool := x.data.toList == y.data.toList
def seesF (x : ByteArray) (s : PS) : Bool := markF s.next && eqT s.next.text x
def takesF (x : ByteArray) (s : PS) : Bool × PS := if seesF x s then (true, s.take) else (false, s)
def needsF (x : ByteArray) (s : PS) : PS := if seesF x s then s.take else s.fail 2
def nameF (s : PS) : ByteArray × PS := if s.next.kind = 1 then (s.next.text, s.take) else (noS, s.fail 2)
/-- A number, written down. -/
def numT (n : Int) : ByteArray := ⟨(Lib.itoa n).toArray⟩
/-- The parts of a list between spaces. -/
def partsF : By → By → List By
  | cur, [] => [cur]
  | cur, c :: r => if c = 32 then cur :: partsF [] r else partsF (cur ++ [c]) r
def hasF (l t : ByteArray) : Bool := (partsF [] l.data.toList).contains t.data.toList
def seesOneF (l : ByteArray) (s : PS) : Bool := markF s.next && hasF l s.next.text
/-- Elements behind commas. -/
def moreF {T : Type} (el : PS → T × PS) : Nat → PS → List T × PS
  | 0, s => ([], s)
  | f + 1, s => if seesF ⟨#[44]⟩ s then
      let x := el s.take
      let r := moreF el f x.2
      (x.1 :: r.1, r.2)
    else ([], s)
def listF {T : Type} (fin : ByteArray) (el : PS → T × PS) (s : PS) : List T × PS :=
  if seesF fin s then ([], s.take) else
    let x := el s
    let r := moreF el x.2.left.length x.2
    (x.1 :: r.1, needsF fin r.2)
/-- What lies one deeper. -/
structure Low where
  ex : PS → Tree × PS
  st : PS → Tree × PS
  un : PS → Tree × PS
def memberB (t : Tree) : Bool := t.kind == 15 || t.kind == 16
def opF (sign : ByteArray) (l r : Tree) : Tree :=
  if eqT sign ⟨#[124, 124]⟩ then node 22 [l, r] else if eqT sign ⟨#[38, 38]⟩ then node 21 [l, r] else .mk 20 0 sign [] [l, r]
def levelT : Nat → ByteArray
  | 0 => ⟨#[124, 124]⟩
  | 1 => ⟨#[38, 38]⟩
  | 2 => ⟨#[61, 61, 61, 32, 33, 61, 61]⟩
  | 3 => ⟨#[60, 32, 62, 32, 60, 61, 32, 62, 61, 32, 105, 110]⟩
  | 4 => ⟨#[43, 32, 45]⟩
  | _ => ⟨#[42, 32, 47, 32, 37]⟩
def prefixT : ByteArray := ⟨#[33, 32, 45, 32, 116, 121, 112, 101, 111, 102, 32, 100, 101, 108, 101, 116, 101]⟩
def binLoop (lev : Nat) (f : PS → Tree × PS) : Nat → Tree → PS → Tree × PS
  | 0, l, s => (l, s)
  | k + 1, l, s => if seesOneF (levelT lev) s then
      let r := f s.take
      binLoop lev f k (opF s.next.text l r.1) r.2
    else (l, s)
/-- The operators of the level 6 - n and of those that bind tighter. -/
def binF (L : Low) : Nat → PS → Tree × PS
  | 0, s => L.un s
  | n + 1, s =>
    let x := binF L n s
    binLoop (5 - n) (binF L n) x.2.left.length x.1 x.2
def condF (L : Low) (s : PS) : Tree × PS :=
  let x := binF L 6 s
  if seesF ⟨#[63]⟩ x.2 then
    let y := L.ex x.2.take
    let z := L.ex (needsF ⟨#[58]⟩ y.2)
    (node 23 [x.1, y.1, z.1], z.2)
  else x
def exF (L : Low) (s : PS) : Tree × PS :=
  let x := condF L s
  if seesF ⟨#[61]⟩ x.2 then
    let s2 := if x.1.kind ≠ 8 ∧ memberB x.1 = false then x.2.fail 2 else x.2
    let y := L.ex (needsF ⟨#[61]⟩ s2)
    (node 24 [x.1, y.1], y.2)
  else x
def memF (s : PS) : ByteArray × PS := if s.next.kind = 1 ∨ s.next.kind = 2 then (s.next.text, s.take) else (noS, s.fail 2)
def membersF (L : Low) : Nat → Tree → PS → Tree × PS
  | 0, n, s => (n, s)
  | f + 1, n, s =>
    if seesF ⟨#[46]⟩ s then
      let x := memF s.take
      membersF L f (.mk 15 0 x.1 [] [n]) x.2
    else if seesF ⟨#[91]⟩ s then
      let x := L.ex s.take
      membersF L f (node 16 [n, x.1]) (needsF ⟨#[93]⟩ x.2)
    else (n, s)
def membF (L : Low) (n : Tree) (s : PS) : Tree × PS := membersF L s.left.length n s
def calledF (L : Low) (kind : Int) (f : Tree) (s : PS) : Tree × PS :=
  let x := listF ⟨#[41]⟩ L.ex (needsF ⟨#[40]⟩ s)
  (node kind (f :: x.1), x.2)
/-- Statements up to where 'fin' says so. -/
def stmtsF (L : Low) (fin : PS → Bool) : Nat → PS → List Tree × PS
  | 0, s => ([], s)
  | f + 1, s => if fin s then ([], s) else if s.fault ≠ 0 then ([], s) else
      let x := L.st s
      let r := stmtsF L fin f x.2
      (x.1 :: r.1, r.2)
def blockF (L : Low) (s : PS) : Tree × PS :=
  let s1 := needsF ⟨#[123]⟩ s
  let x := stmtsF L (seesF ⟨#[125]⟩) (s1.left.length + 1) s1
  (node 40 x.1, needsF ⟨#[125]⟩ x.2)
def parenF (L : Low) (s : PS) : Tree × PS :=
  let x := L.ex (needsF ⟨#[40]⟩ s)
  (x.1, needsF ⟨#[41]⟩ x.2)
def funcF (L : Low) (name : ByteArray) (s : PS) : Tree × PS :=
  let x := listF ⟨#[41]⟩ nameF (needsF ⟨#[40]⟩ s)
  let y := blockF L x.2
  (.mk 14 0 name x.1 y.1.kids, y.2)
def optF (s : PS) : ByteArray × PS := if seesF ⟨#[40]⟩ s then (noS, s) else nameF s
def keyF (s : PS) : ByteArray × PS :=
  if s.next.kind = 1 ∨ s.next.kind = 2 ∨ s.next.kind = 4 then (s.next.text, s.take)
  else if s.next.kind = 3 then (numT s.next.num, s.take) else (noS, s.fail 2)
def pairF (L : Low) (key : Tree) (s : PS) : Tree × PS :=
  let x := L.ex (needsF ⟨#[58]⟩ s)
  (node 11 [key, x.1], x.2)
def getF (L : Low) (s : PS) : Tree × PS :=
  let k := keyF s
  let y := blockF L (needsF ⟨#[41]⟩ (needsF ⟨#[40]⟩ k.2))
  (.mk 12 0 k.1 [] [node 14 y.1.kids], y.2)
def setF (L : Low) (s : PS) : Tree × PS :=
  let k := keyF s
  let x := nameF (needsF ⟨#[40]⟩ k.2)
  let y := blockF L (needsF ⟨#[41]⟩ x.2)
  (.mk 13 0 k.1 [] [.mk 14 0 noS [x.1] y.1.kids], y.2)
def elemF (L : Low) (s : PS) : Tree × PS :=
  if seesF ⟨#[91]⟩ s then
    let x := L.ex s.take
    pairF L x.1 (needsF ⟨#[93]⟩ x.2)
  else
    let k := keyF s
    if s.next.kind = 1 ∧ seesF ⟨#[58]⟩ k.2 = false then
      if eqT s.next.text ⟨#[103, 101, 116]⟩ then getF L k.2
      else if eqT s.next.text ⟨#[115, 101, 116]⟩ then setF L k.2
      else pairF L (.mk 2 0 k.1 [] []) k.2
    else pairF L (.mk 2 0 k.1 [] []) k.2
def litF (s : PS) : Tree × PS :=
  if seesF ⟨#[116, 114, 117, 101]⟩ s then (node 3 [], s.take)
  else if seesF ⟨#[102, 97, 108, 115, 101]⟩ s then (node 4 [], s.take)
  else if seesF ⟨#[110, 117, 108, 108]⟩ s then (node 5 [], s.take)
  else if seesF ⟨#[117, 110, 100, 101, 102, 105, 110, 101, 100]⟩ s then (node 6 [], s.take)
  else if seesF ⟨#[116, 104, 105, 115]⟩ s then (node 7 [], s.take)
  else (zeroT, s.fail 2)
def primF (L : Low) (s : PS) : Tree × PS :=
  if s.next.kind = 3 then (.mk 1 s.next.num noS [] [], s.take)
  else if s.next.kind = 4 then (.mk 2 0 s.next.text [] [], s.take)
  else if s.next.kind = 1 then (.mk 8 0 s.next.text [] [], s.take)
  else if seesF ⟨#[40]⟩ s then parenF L s
  else if seesF ⟨#[91]⟩ s then
    let x := listF ⟨#[93]⟩ L.ex s.take
    (node 9 x.1, x.2)
  else if seesF ⟨#[123]⟩ s then
    let x := listF ⟨#[125]⟩ (elemF L) s.take
    (node 10 x.1, x.2)
  else if seesF ⟨#[102, 117, 110, 99, 116, 105, 111, 110]⟩ s then
    let x := optF s.take
    funcF L x.1 x.2
  else litF s
def baseF (L : Low) (s : PS) : Tree × PS :=
  if seesF ⟨#[110, 101, 119]⟩ s then
    let x := primF L s.take
    let y := membF L x.1 x.2
    calledF L 18 y.1 y.2
  else primF L s
def callLoop (L : Low) : Nat → Tree → PS → Tree × PS
  | 0, n, s => (n, s)
  | f + 1, n, s => if seesF ⟨#[40]⟩ s then
      let x := calledF L 17 n s
      let y := membF L x.1 x.2
      callLoop L f y.1 y.2
    else (n, s)
def chainF (L : Low) (s : PS) : Tree × PS :=
  let x := baseF L s
  let y := membF L x.1 x.2
  callLoop L y.2.left.length y.1 y.2
def unF (L : Low) (s : PS) : Tree × PS :=
  if seesOneF prefixT s then
    let x := L.un s.take
    (.mk 19 0 s.next.text [] [x.1], if eqT s.next.text ⟨#[100, 101, 108, 101, 116, 101]⟩ && !memberB x.1 then x.2.fail 2 else x.2)
  else chainF L s
def letF (L : Low) (s : PS) : Tree × PS :=
  let x := nameF s
  if seesF ⟨#[61]⟩ x.2 then
    let y := L.ex x.2.take
    (.mk 30 0 x.1 [] [y.1], y.2)
  else (.mk 30 0 x.1 [] [], x.2)
def constF (L : Low) (s : PS) : Tree × PS :=
  let x := nameF s
  let y := L.ex (needsF ⟨#[61]⟩ x.2)
  (.mk 31 0 x.1 [] [y.1], y.2)
def simpF (L : Low) (s : PS) : Tree × PS :=
  if seesF ⟨#[59]⟩ s then (node 43 [], s)
  else if seesF ⟨#[108, 101, 116]⟩ s then letF L s.take
  else if seesF ⟨#[99, 111, 110, 115, 116]⟩ s then constF L s.take
  else if seesF ⟨#[114, 101, 116, 117, 114, 110]⟩ s then
    if seesF ⟨#[59]⟩ s.take then (node 36 [], s.take) else
      let x := L.ex s.take
      (node 36 [x.1], x.2)
  else if seesF ⟨#[116, 104, 114, 111, 119]⟩ s then
    let x := L.ex s.take
    (node 37 [x.1], x.2)
  else if seesF ⟨#[98, 114, 101, 97, 107]⟩ s then (node 41 [], s.take)
  else if seesF ⟨#[99, 111, 110, 116, 105, 110, 117, 101]⟩ s then (node 42 [], s.take)
  else
    let x := L.ex s
    (node 33 [x.1], x.2)
def choiceF (L : Low) (s : PS) : Tree × PS :=
  let x := parenF L s
  let y := L.st x.2
  if seesF ⟨#[101, 108, 115, 101]⟩ y.2 then
    let z := L.st y.2.take
    (node 34 [x.1, y.1, z.1], z.2)
  else (node 34 [x.1, y.1], y.2)
def handF (L : Low) (s : PS) : Tree × PS :=
  let x := nameF (needsF ⟨#[40]⟩ s)
  let y := blockF L (needsF ⟨#[41]⟩ x.2)
  (.mk 39 0 x.1 [] [y.1], y.2)
def tryF (L : Low) (s : PS) : Tree × PS :=
  let x := blockF L s
  if seesF ⟨#[99, 97, 116, 99, 104]⟩ x.2 then
    let y := handF L x.2.take
    if seesF ⟨#[102, 105, 110, 97, 108, 108, 121]⟩ y.2 then
      let z := blockF L y.2.take
      (.mk 38 3 noS [] [x.1, y.1, z.1], z.2)
    else (.mk 38 1 noS [] [x.1, y.1], y.2)
  else if seesF ⟨#[102, 105, 110, 97, 108, 108, 121]⟩ x.2 then
    let z := blockF L x.2.take
    (.mk 38 2 noS [] [x.1, z.1], z.2)
  else (.mk 38 0 noS [] [x.1], x.2.fail 2)
def stF (L : Low) (s : PS) : Tree × PS :=
  if seesF ⟨#[123]⟩ s then blockF L s
  else if seesF ⟨#[102, 117, 110, 99, 116, 105, 111, 110]⟩ s then
    let x := nameF s.take
    let y := funcF L x.1 x.2
    (node 32 [y.1], y.2)
  else if seesF ⟨#[105, 102]⟩ s then choiceF L s.take
  else if seesF ⟨#[119, 104, 105, 108, 101]⟩ s then
    let x := parenF L s.take
    let y := L.st x.2
    (node 35 [x.1, y.1], y.2)
  else if seesF ⟨#[116, 114, 121]⟩ s then tryF L s.take
  else
    let x := simpF L s
    (x.1, needsF ⟨#[59]⟩ x.2)
/-- What may stand with so much room for nesting. -/
def lowF : Nat → Low
  | 0 => ⟨fun s => (zeroT, s.fail 4), fun s => (zeroT, s.fail 4), fun s => (zeroT, s.fail 4)⟩
  | r + 1 => ⟨exF (lowF r), stF (lowF r), unF (lowF r)⟩
def endF (s : PS) : Bool := s.next.kind == 0
/-- What Parse gives for tokens: the tree, the place, the error. -/
def treeF (l : List Tok) : Tree × Int × Int :=
  let x := stmtsF (lowF 100) endF (l.length + 1) ⟨l, 0, 0⟩
  if x.2.fault = 0 then (node 44 x.1, 0, 0) else (zeroT, x.2.pos, x.2.fault)
end Go.Proofs.YtkknglmpdmhhjaaGreatDoor.Pa
