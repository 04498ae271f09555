/-
  Texts of this seat in build order: RlMem, RlTok, RlName, RlSign.
-/
import Derived.Test.YtinoaajohkafmaaGreatMt08
import Derived.Test.YtinoaajohkafmaaGreatMt30
import Derived.Test.YtinoaajohkafmaaGreatMt07
/-
  The reference's lexer in memory; rest, fail.
-/
namespace Go.Proofs.YtinoaajohkafmaaGreat.Rl
open Go Go.RowKit Go.Proofs.YtinoaajohkafmaaGreat.Uni Go.Proofs.YtinoaajohkafmaaGreat.Lx
set_option linter.unusedVariables false
set_option linter.unusedSimpArgs false
def lxs (s : ByteArray) (p : Nat) (b : Bool) (S : Pa.Sl) : Array Value := #[.string s, .int .i64 (p : Int), .bool b, .slice S.a S.n S.c]
def LxAt (g : Nat) (s : ByteArray) (p : Nat) (b : Bool) (S : Pa.Sl) (w : World) : Prop := Blk w g (lxs s p b S) 71
theorem LxAt.c0 {g p : Nat} {s : ByteArray} {b : Bool} {S : Pa.Sl} {w : World} (h : LxAt g s p b S w) : w.cell? ⟨g, 0, none⟩ = some (.string s) := (Blk.cell h 0).trans rfl
theorem LxAt.c1 {g p : Nat} {s : ByteArray} {b : Bool} {S : Pa.Sl} {w : World} (h : LxAt g s p b S w) : w.cell? ⟨g, 1, none⟩ = some (.int .i64 (p : Int)) := (Blk.cell h 1).trans rfl
theorem LxAt.c2 {g p : Nat} {s : ByteArray} {b : Bool} {S : Pa.Sl} {w : World} (h : LxAt g s p b S w) : w.cell? ⟨g, 2, none⟩ = some (.bool b) := (Blk.cell h 2).trans rfl
theorem LxAt.c3 {g p : Nat} {s : ByteArray} {b : Bool} {S : Pa.Sl} {w : World} (h : LxAt g s p b S w) : w.cell? ⟨g, 3, none⟩ = some (.slice S.a S.n S.c) := (Blk.cell h 3).trans rfl
theorem LxAt.fz {g p : Nat} {s : ByteArray} {b : Bool} {S : Pa.Sl} {w : World} (h : LxAt g s p b S w) (i : Nat) : w.frozen? ⟨g, i, none⟩ = false := Blk.frozen h i
theorem LxAt.set1 {g p : Nat} {s : ByteArray} {b : Bool} {S : Pa.Sl} {w : World} (h : LxAt g s p b S w) (q : Nat) : LxAt g s q b S (w.setCell ⟨g, 1, none⟩ (.int .i64 (q : Int))) := Blk.set h 1 _
theorem LxAt.set3 {g p : Nat} {s : ByteArray} {b : Bool} {S : Pa.Sl} {w : World} (h : LxAt g s p b S w) (T : Pa.Sl) : LxAt g s p b T (w.setCell ⟨g, 3, none⟩ (.slice T.a T.n T.c)) := Blk.set h 3 _
theorem LxAt.below {g p : Nat} {s : ByteArray} {b : Bool} {S : Pa.Sl} {w w' : World} (h : LxAt g s p b S w) (hb : Below w.heap.size w w') : LxAt g s p b S w' := Blk.call h hb
theorem LxAt.drewN {g p : Nat} {s : ByteArray} {b : Bool} {S : Pa.Sl} {w : World} (h : LxAt g s p b S w) (n : Nat) : LxAt g s p b S (w.drewN n) := Blk.drewN h n
theorem below_dn {w w1 : World} {n : Nat} (hb : Below (w.drewN n).heap.size (w.drewN n) w1) : Below w.heap.size w w1 := (bl_drewN (n := n) (Below.refl _ w)).trans (hb.mono (Nat.le_refl _))
def restB (s : ByteArray) (p : Nat) (t : ByteArray) : Bool := decide (p + t.size ≤ s.size) && ((s.extract p (p + t.size)).toList == t.toList)
theorem rest_t {g p : Nat} {s t : ByteArray} {b : Bool} {S : Pa.Sl} {w : World} (h : LxAt g s p b S w) (hs : s.size ≤ 1000000) (ht : t.size ≤ 1000000) (hp : p + t.size ≤ s.size) :
    Calls Tryz.prog 55 #[ptr g, .string t] w fun e w' => e = .returned (.bool (restB s p t)) ∧ Below w.heap.size w w' := by
  have h0 := h.c0
  have h1 := h.c1
  have q : (t.size : Int) ≤ (s.size : Int) - (p : Int) := by omega
  have er : restB s p t = ((s.extract p (p + t.size)).toList == t.toList) := by unfold restB; rw [decide_eq_true hp]; rfl
  rw [er]
  have hp0 : (0 : Int) ≤ p := by omega
  have hp1 : (p : Int) ≤ (p : Int) + (t.size : Int) := by omega
  have hp2 : (p : Int) + (t.size : Int) ≤ s.size := by omega
  have en : ((p : Int) + (t.size : Int)).toNat = p + t.size := by omega
  go_enter Tryz.func55, Tryz.ntmps55
  go_wp2
  go_quiet (fail)
  go_wp2
  go_ret
  exact ⟨rfl, bl_drewN (Below.refl _ w)⟩
theorem rest_f {g p : Nat} {s t : ByteArray} {b : Bool} {S : Pa.Sl} {w : World} (h : LxAt g s p b S w) (hs : s.size ≤ 1000000) (ht : t.size ≤ 1000000) (hps : p ≤ s.size) (hp : ¬ p + t.size ≤ s.size) :
    Calls Tryz.prog 55 #[ptr g, .string t] w fun e w' => e = .returned (.bool (restB s p t)) ∧ Below w.heap.size w w' := by
  have h0 := h.c0
  have h1 := h.c1
  have q : (s.size : Int) - (p : Int) < (t.size : Int) := by omega
  have b1 : IntKind.i64.wrap ((s.size : Int) - (p : Int)) = (s.size : Int) - (p : Int) := (by rw [IntKind.wrap_i64]; omega)
  have b2 : decide ((t.size : Int) ≤ (s.size : Int) - (p : Int)) = false := by simp; omega
  have er : restB s p t = false := by unfold restB; rw [decide_eq_false hp]; rfl
  rw [er]
  have hp0 : (0 : Int) ≤ p := by omega
  go_enter Tryz.func55, Tryz.ntmps55
  go_wp2
  go_quiet (fail)
  go_wp2
  go_ret
  exact ⟨rfl, bl_drewN (Below.refl _ w)⟩
theorem rest_any {g p : Nat} {s t : ByteArray} {b : Bool} {S : Pa.Sl} {w : World} (h : LxAt g s p b S w) (hs : s.size ≤ 1000000) (ht : t.size ≤ 1000000) (hps : p ≤ s.size) :
    Calls Tryz.prog 55 #[ptr g, .string t] w fun e w' => e = .returned (.bool (restB s p t)) ∧ Below w.heap.size w w' := by
  by_cases hp : p + t.size ≤ s.size
  · exact rest_t h hs ht hp
  · exact rest_f h hs ht hps hp
def measL (g n : Nat) (w : World) : Nat := n - (match w.cell? ⟨g, 1, none⟩ with | some (.int _ x) => x.toNat | _ => 0)
theorem LxAt.meas {g p n : Nat} {s : ByteArray} {b : Bool} {S : Pa.Sl} {w : World} (h : LxAt g s p b S w) : measL g n w = n - p := by unfold measL; rw [h.c1]; simp
def goF (f : Nat → Bool) (s : ByteArray) : Nat → Nat → Nat
  | 0, p => p
  | k + 1, p => if p < s.size ∧ f (B s p) = true then goF f s k (p + 1) else p
theorem goF_le (f : Nat → Bool) (s : ByteArray) : ∀ k p, p ≤ s.size → p ≤ goF f s k p ∧ goF f s k p ≤ s.size
  | 0, p, h => ⟨Nat.le_refl _, h⟩
  | k + 1, p, h => by
    unfold goF
    split
    · rename_i hc; have := goF_le f s k (p + 1) hc.1; omega
    · exact ⟨Nat.le_refl _, h⟩
theorem goF_stop {f : Nat → Bool} {s : ByteArray} {k p : Nat} (h : ¬ (p < s.size ∧ f (B s p) = true)) : goF f s k p = p := by
  cases k with
  | zero => rfl
  | succ k => unfold goF; rw [if_neg h]
theorem goF_go {f : Nat → Bool} {s : ByteArray} {p : Nat} (h : p < s.size) (h2 : f (B s p) = true) : goF f s (s.size - p) p = goF f s (s.size - (p + 1)) (p + 1) := by
  obtain ⟨k, hk⟩ : ∃ k, s.size - p = k + 1 := ⟨s.size - p - 1, by omega⟩
  rw [hk]
  conv => lhs; unfold goF
  rw [if_pos ⟨h, h2⟩]
  congr 1
  omega
theorem byte_first {s t : ByteArray} {p : Nat} (ht : 0 < t.size) (h : restB s p t = true) : B s p = B t 0 := by
  unfold restB at h
  simp only [Bool.and_eq_true, decide_eq_true_eq, beq_iff_eq, ByteArray.toList_eq] at h
  obtain ⟨h1, h2⟩ := h
  have e : (s.extract p (p + t.size)).data.toList = (s.data.toList.drop p).take t.size := by simp [ByteArray.data_extract]
  rw [e] at h2
  unfold B
  rw [← h2, List.getElem?_take_of_lt ht, List.getElem?_drop]
  rfl
def Plain (s : ByteArray) : Prop := ∀ j, B s j ≠ 47
theorem rest_plain {s t : ByteArray} {p : Nat} (h : Plain s) (ht : 0 < t.size) (h0 : B t 0 = 47) : restB s p t = false := by
  cases hr : restB s p t with
  | false => rfl
  | true => exact absurd ((byte_first ht hr).trans h0) (h p)
theorem idx_p (t : ByteArray) (k : Nat) (hk : k < t.size) (w : World) : (Instr.index 9 (.string t) (.int .i64 (k : Int))).run Tryz.prog w = .ok (.int .u8 (B t k : Nat)) w := idx_at t k hk k rfl w
structure SpI (g : Nat) (s : ByteArray) (S : Pa.Sl) (w wr : World) (p q : Nat) : Prop where
  at_ : LxAt g s q false S wr
  gb : GB g w wr
  le : q ≤ s.size
  eq : goF whiteN s (s.size - q) q = goF whiteN s (s.size - p) p
theorem SpI.step {g p q n : Nat} {s : ByteArray} {S : Pa.Sl} {w wr : World} (h : SpI g s S w wr p q) (hq : q < s.size) (hw : whiteN (B s q) = true) : (∃ q', SpI g s S w ((wr.drewN n).setCell ⟨g, 1, none⟩ (.int .i64 ((q : Int) + 1))) p q') ∧ measL g s.size ((wr.drewN n).setCell ⟨g, 1, none⟩ (.int .i64 ((q : Int) + 1))) < measL g s.size wr := by
  have ha : LxAt g s (q + 1) false S ((wr.drewN n).setCell ⟨g, 1, none⟩ (.int .i64 ((q : Int) + 1))) := LxAt.set1 (show LxAt g s q false S (wr.drewN n) from Blk.drewN h.at_ n) (q + 1)
  refine ⟨⟨q + 1, ha, (h.gb.trans (GB.of (bl_drewN (Below.refl _ wr)))).trans (GB.set _ _ _), by omega, ?_⟩, ?_⟩
  · rw [← goF_go hq hw]; exact h.eq
  · rw [ha.meas, h.at_.meas]; omega
theorem SpI.last {g p q : Nat} {s : ByteArray} {S : Pa.Sl} {w wr w' : World} (h : SpI g s S w wr p q) (hs : ¬ (q < s.size ∧ whiteN (B s q) = true)) (hb : Below wr.heap.size wr w') : LxAt g s (goF whiteN s (s.size - p) p) false S w' ∧ GB g w w' := by
  rw [← h.eq, goF_stop hs]
  exact ⟨Blk.call h.at_ hb, h.gb.trans (GB.of hb)⟩
set_option maxRecDepth 100000 in
set_option maxHeartbeats 4000000 in
theorem space_any {g p : Nat} {s : ByteArray} {S : Pa.Sl} {w : World} (h : LxAt g s p false S w) (hs : s.size ≤ 1000000) (hp : p ≤ s.size) (hpl : Plain s) :
    Calls Tryz.prog 34 #[ptr g] w fun e w' => e = .returned (.tuple #[]) ∧ LxAt g s (goF whiteN s (s.size - p) p) false S w' ∧ GB g w w' := by
  have HST := Lib.hid (SpI.mk (p := p) h (GB.refl g w) hp rfl)
  have HPL := Lib.hid hpl
  clear h hpl
  go_enter Tryz.func34, Tryz.ntmps34
  go_wp2
  go_loopw [] (fun wr => ∃ q, SpI g s S w wr p q) (fun wr => measL g s.size wr)
  case atStart => exact ⟨_, HST.out⟩
  case round =>
    obtain ⟨q, hI⟩ := hrel
    have hm := hI.at_.meas (n := s.size)
    have h0 := hI.at_.c0
    have h1 := hI.at_.c1
    have h2 := hI.at_.c2
    have f1 := hI.at_.fz 1
    have h3 := hI.le
    have HI := Lib.hid hI
    clear hI HST
    by_cases hq : q < s.size
    · have hqi : decide ((q : Int) < (s.size : Int)) = true := by simp; omega
      have hix := idx_p s q hq
      cases hw : whiteN (B s q) with
      | true =>
        have hwr : IntKind.i64.wrap ((q : Int) + 1) = (q : Int) + 1 := by rw [IntKind.wrap_i64]; omega
        have h4 : B s q = 32 ∨ B s q = 9 ∨ B s q = 10 ∨ B s q = 13 := by
          have := hw
          unfold whiteN endN at this
          simp only [Bool.or_eq_true, decide_eq_true_eq] at this
          exact this
        rcases h4 with e | e | e | e
        all_goals (
          rw [e] at hix
          go_wp2
          go_quiet (fail)
          go_wp2
          go_quiet (fail)
          go_wp2
          exact HI.out.step hq hw)
      | false =>
        have hA : ∀ n, LxAt g s q false S (wr.drewN n) := fun n => Blk.drewN HI.out.at_ n
        have hbn : ∀ n, Below wr.heap.size wr (wr.drewN n) := fun n => bl_drewN (Below.refl _ wr)
        have HA := Lib.hid hA
        have HBN := Lib.hid hbn
        have hend := HI.out.last (w' := wr) (fun h => by rw [hw] at h; cases h.2)
        have HEND := Lib.hid (fun w' => HI.out.last (w' := w') (fun h => by rw [hw] at h; cases h.2))
        unfold whiteN endN at hw
        simp only [Bool.or_eq_false_iff, decide_eq_false_iff_not] at hw
        obtain ⟨n32, n9, n10, n13⟩ := hw
        obtain ⟨y, hy⟩ : ∃ y, B s q = y := ⟨_, rfl⟩
        rw [hy] at hix n32 n9 n10 n13
        have m32 : ((y : Int) == 32) = false := by simp; omega
        have m9 : ((y : Int) == 9) = false := by simp; omega
        have m10 : ((y : Int) == 10) = false := by simp; omega
        have m13 : ((y : Int) == 13) = false := by simp; omega
        have r1 := rest_plain (p := q) (t := ⟨#[47, 47]⟩) HPL.out (by decide) rfl
        have r2 := rest_plain (p := q) (t := ⟨#[47, 42]⟩) HPL.out (by decide) rfl
        have hcr : ∀ n, Calls Tryz.prog 55 #[ptr g, .string ⟨#[47, 47]⟩] (wr.drewN n) fun e w' => e = .returned (.bool (restB s q ⟨#[47, 47]⟩)) ∧ Below (wr.drewN n).heap.size (wr.drewN n) w' := fun n => rest_any (hA n) hs (by decide) (by omega)
        have HCR := Lib.hid hcr
        clear hA hbn hend hcr
        go_wp2
        go_quiet (fail)
        go_wp2
        go_quiet (fail)
        go_wp2_with (first | (go_at_call 55; with_reducible refine (HCR.out _).mono ?_; rintro e w1 ⟨rfl, hb⟩; rw [r1]; have hb1 := below_dn hb; have HB1 := Lib.hid hb1; have ha1 := HI.out.at_.below hb1; have c2 := rest_any (t := ⟨#[47, 42]⟩) ha1 hs (by decide) (by omega); clear hb hb1 ha1) | (go_at_call 55; with_reducible refine c2.mono ?_; rintro e w2 ⟨rfl, hb⟩; rw [r2]; have HB2 := Lib.hid (HB1.out.trans (hb.mono HB1.out.size)); clear hb))
        refine bodyPost_ret (results_none rfl _ _ _) rfl ?_
        exact ⟨rfl, HEND.out _ HB2.out⟩
    · have hqi : decide ((q : Int) < (s.size : Int)) = false := by simp; omega
      go_wp2
      go_quiet (fail)
      go_wp2
      go_end0
      exact ⟨rfl, HI.out.last (fun h => hq h.1) (bl_drewN (Below.refl _ wr))⟩
end Go.Proofs.YtinoaajohkafmaaGreat.Rl

/-
  The reference's lexer: a token more.
-/
namespace Go.Proofs.YtinoaajohkafmaaGreat.Rl
open Go Go.RowKit Go.Proofs.YtinoaajohkafmaaGreat.Uni Go.Proofs.YtinoaajohkafmaaGreat.Lx
set_option linter.unusedVariables false
set_option linter.unusedSimpArgs false
theorem kcs_cells : (Value.agg (kcs zeroK)).cells.size = 4 := rfl
theorem tok_cells (W : World) (t : Tok) : (W.alloc (.cells (kcs t) 73)).ownsRow 0 73 4 (.slice (some ⟨W.heap.size, 0, none⟩) 1 1) 1 (kcs t).toList :=
  ⟨rfl, .inr ⟨W.heap.size, 1, kcs t, rfl, Nat.zero_le _, heap_alloc_new W _, Nat.le_refl _, by unfold maxLen; omega, rfl, rfl⟩⟩
theorem grow_tok {lo : Nat} {W : World} {T : List Tok} {v : Value} (G : W.ownsRow lo 73 4 v T.length (tcells T)) (t : Tok) (hlo : lo ≤ W.heap.size) (hn : T.length ≤ 200000) :
    ∃ a n c w', (Builtin.append_ #[49, 49] 49 #[v, .slice (some ⟨W.heap.size, 0, none⟩) 1 1]).run Tryz.prog (W.alloc (.cells (kcs t) 73)) = .ok (.slice a n c) w' ∧ w'.ownsRow lo 73 4 (.slice a n c) (T ++ [t]).length (tcells (T ++ [t])) ∧ (W.alloc (.cells (kcs t) 73)).grownBy w' v.ownBlock ∧ (∀ b, (Value.slice a n c).ownBlock = some b → v.ownBlock = some b ∨ W.heap.size < b) := by
  obtain ⟨i0, hi, hz0, hz1, hz2⟩ := info_parts infoK3
  have G1 := G.alloc (.cells (kcs t) 73)
  have hone : ∀ u ∈ (kcs t).toList, u.oneCell' = true := fun u hu => by
    have := kcs_one t
    rw [Array.all_eq_true_iff_forall_mem] at this
    exact this u (Array.mem_toList_iff.1 hu)
  obtain ⟨v', w', h3, h4, h5, _, h6⟩ := run_append_own_at (P := Tryz.prog) (W.alloc (.cells (kcs t) 73)) lo 49 49 73 i0 (.agg (kcs zeroK)) 4 40 Tryz.underlying49 hi hz0 hz1 hz2 kcs_cells (by decide) v T.length (tcells T) G1 ⟨W.heap.size, 0, none⟩ 1 1 (kcs t).toList rfl ((tok_cells W t).cells (g := W.heap.size) rfl) hone (by unfold maxLen; omega) (by omega) (by simp; omega)
  have h4' : w'.ownsRow lo 73 4 v' (T ++ [t]).length (tcells (T ++ [t])) := by rw [tcells_snoc, List.length_append]; exact h4
  have h7 : ∀ b, v'.ownBlock = some b → v.ownBlock = some b ∨ W.heap.size < b := fun b hb => by
    rcases h6 with e | e
    · exact .inl (e ▸ hb)
    · rw [e] at hb; cases hb; right; simp
  rcases h4.2 with ⟨rfl, -⟩ | ⟨g, cap, cur, rfl, -⟩
  · exact ⟨_, _, _, w', h3, h4', h5, h7⟩
  · exact ⟨_, _, _, w', h3, h4', h5, h7⟩
end Go.Proofs.YtinoaajohkafmaaGreat.Rl

/-
  The reference's lexer: names.
-/
namespace Go.Proofs.YtinoaajohkafmaaGreat.Rl
open Go Go.RowKit Go.Proofs.YtinoaajohkafmaaGreat.Uni Go.Proofs.YtinoaajohkafmaaGreat.Lx
set_option linter.unusedVariables false
set_option linter.unusedSimpArgs false
theorem wpList_app {P : Program} {w w' : World} {ops : Array Oper} {rest : List Oper} {o : Oper} {a : Act} {Q : Exit → Act → World → Prop} (hgd : o.guard = none) (s x : Operand) (t : TypeId)
    (ho : o.op = .call { callee := .builtin .append, args := #[s, x], argTypes := #[t, t] }) (ht : o.type = t) (v1 v2 v' : Value) (hs : a.eval s = v1) (hx : a.eval x = v2) (hr : (Builtin.append_ #[t, t] t #[v1, v2]).run P w = .ok v' w') (h : wpList P ops Q rest (a.put o.dst v') w') : wpList P ops Q (o :: rest) a w := by
  refine wpList_plain hgd fun K hK => ?_
  subst ht
  unfold Oper.wp execOp
  simp only [ho, resolve, invoke, builtin, Sem.run_bind, Sem.run_pure, Result.andThen_ok, List.map_toArray, List.map_cons, List.map_nil, hs, hx, hr]
  exact hK _ _ h
structure LxS (g lo : Nat) (s : ByteArray) (p : Nat) (bad : Bool) (T : List Tok) (w W : World) (S : Pa.Sl) : Prop where
  at_ : LxAt g s p bad S W
  own : W.ownsRow lo 73 4 (.slice S.a S.n S.c) T.length (tcells T)
  ng : (Value.slice S.a S.n S.c).ownBlock ≠ some g
  fr : Below lo w W
  lg : lo ≤ g
theorem LxS.gb {g lo p q : Nat} {s : ByteArray} {b c : Bool} {T : List Tok} {w W W' : World} {S : Pa.Sl} (h : LxS g lo s p b T w W S) (ha : LxAt g s q c S W') (hg : GB g W W') : LxS g lo s q c T w W' S := by
  have hgl : g < W.heap.size := Blk.lt h.at_
  refine ⟨ha, Pa.own_keep h.own (fun k hk => hg.block k (h.own.lt k hk).2 (by intro e; rw [Option.some.injEq] at e; subst e; exact h.ng hk)), h.ng, GB.below h.fr hg (by have := h.lg; omega) h.lg, h.lg⟩
theorem LxS.drewN {g lo p : Nat} {s : ByteArray} {b : Bool} {T : List Tok} {w W : World} {S : Pa.Sl} (h : LxS g lo s p b T w W S) (n : Nat) : LxS g lo s p b T w (W.drewN n) S := h.gb (h.at_.drewN n) (GB.of (bl_drewN (Below.refl _ W)))
theorem LxS.set1 {g lo p : Nat} {s : ByteArray} {b : Bool} {T : List Tok} {w W : World} {S : Pa.Sl} (h : LxS g lo s p b T w W S) (q : Nat) : LxS g lo s q b T w (W.setCell ⟨g, 1, none⟩ (.int .i64 (q : Int))) S := h.gb (h.at_.set1 q) (GB.set _ _ _)
theorem LxS.below {g lo p : Nat} {s : ByteArray} {b : Bool} {T : List Tok} {w W W' : World} {S : Pa.Sl} (h : LxS g lo s p b T w W S) (hb : Below W.heap.size W W') : LxS g lo s p b T w W' S := h.gb (h.at_.below hb) (GB.of hb)
theorem LxS.app {g lo p : Nat} {s : ByteArray} {b : Bool} {T : List Tok} {w W : World} {S : Pa.Sl} (h : LxS g lo s p b T w W S) (hT : T.length ≤ 200000) (t : Tok) :
    ∃ a n c w', (Builtin.append_ #[49, 49] 49 #[.slice S.a S.n S.c, .slice (some ⟨W.heap.size, 0, none⟩) 1 1]).run Tryz.prog (W.alloc (.cells (kcs t) 73)) = .ok (.slice a n c) w' ∧ LxAt g s p b S w' ∧ LxS g lo s p b (T ++ [t]) w (w'.setCell ⟨g, 3, none⟩ (.slice a n c)) ⟨a, n, c⟩ := by
  have hgl : g < W.heap.size := Blk.lt h.at_
  have hlg := h.lg
  have hlo : lo ≤ W.heap.size := by omega
  obtain ⟨a, n, c, w', h1, h2, h3, h4⟩ := grow_tok h.own t hlo hT
  have hat : LxAt g s p b S w' := (h3.block g (by simp; omega) (fun e => h.ng e.symm)).trans (Blk.old h.at_ _)
  have hng : (Value.slice a n c).ownBlock ≠ some g := fun e => by
    rcases h4 g e with e2 | e2
    · exact h.ng e2
    · omega
  refine ⟨a, n, c, w', h1, hat, hat.set3 ⟨a, n, c⟩, Pa.own_keep h2 (fun k hk => heap_setCell_other _ _ _ _ (fun e => hng (by rw [hk]; exact congrArg some e))), hng, ?_, hlg⟩
  have hb : Below lo w (W.alloc (.cells (kcs t) 73)) := h.fr.trans ((bel1 (w := W)).mono hlo)
  have hb2 : Below lo w w' := hb.grown h3 (by simp; omega) (fun k hk => (h.own.lt k hk).1)
  exact GB.below hb2 (GB.set (g := g) w' 3 (.slice a n c)) (by have := Blk.lt hat; omega) hlg
structure NaI (g lo : Nat) (s : ByteArray) (T : List Tok) (w wr : World) (S : Pa.Sl) (p q : Nat) : Prop where
  ls : LxS g lo s q false T w wr S
  le : q ≤ s.size
  eq : goF contN s (s.size - q) q = goF contN s (s.size - p) p
theorem NaI.step {g lo p q n : Nat} {s : ByteArray} {S : Pa.Sl} {T : List Tok} {w wr : World} (h : NaI g lo s T w wr S p q) (hq : q < s.size) (hw : contN (B s q) = true) : (∃ q', NaI g lo s T w ((wr.drewN n).setCell ⟨g, 1, none⟩ (.int .i64 ((q : Int) + 1))) S p q') ∧ measL g s.size ((wr.drewN n).setCell ⟨g, 1, none⟩ (.int .i64 ((q : Int) + 1))) < measL g s.size wr := by
  have ha : LxS g lo s (q + 1) false T w ((wr.drewN n).setCell ⟨g, 1, none⟩ (.int .i64 ((q : Int) + 1))) S := (h.ls.drewN n).set1 (q + 1)
  refine ⟨⟨q + 1, ha, by omega, ?_⟩, ?_⟩
  · rw [← goF_go hq hw]; exact h.eq
  · rw [ha.at_.meas, h.ls.at_.meas]; omega
theorem NaI.last {g lo p q : Nat} {s : ByteArray} {S : Pa.Sl} {T : List Tok} {w wr : World} (h : NaI g lo s T w wr S p q) (hs : ¬ (q < s.size ∧ contN (B s q) = true)) : q = goF contN s (s.size - p) p := by
  rw [← h.eq, goF_stop hs]
set_option maxRecDepth 100000 in
set_option maxHeartbeats 4000000 in
theorem token_name {g lo p : Nat} {s : ByteArray} {S : Pa.Sl} {T : List Tok} {w W : World} (h : LxS g lo s p false T w W S) (hs : s.size ≤ 1000000) (hp : p < s.size) (hl : leadN (B s p) = true) (hT : T.length ≤ 200000) {e : Nat} (he : goF contN s (s.size - p) p = e) {x : ByteArray} (hx : s.extract p e = x) {k : Nat} (hk : wordF x.toList = k) (hk2 : k ≠ 2) :
    Calls Tryz.prog 35 #[ptr g] W fun r w' => r = .returned (.tuple #[]) ∧ ∃ S', LxS g lo s e false (T ++ [⟨1 + (k : Int), p, 0, x⟩]) w w' S' := by
  have h0 := h.at_.c0
  have h1 := h.at_.c1
  have hix := idx_p s p hp
  have cl := rlead_any (B s p) W
  rw [hl] at cl
  have HST := Lib.hid (NaI.mk (p := p) h (Nat.le_of_lt hp) rfl)
  have HE := Lib.hid he
  have HX := Lib.hid hx
  have hk3 : k ≤ 2 := by
    rw [← hk]; unfold wordF; split
    · omega
    · split <;> omega
  have HK := Lib.hid hk
  clear h he hx hk
  go_enter Tryz.func35, Tryz.ntmps35
  go_wp2_with (go_at_call 57; (with_reducible refine cl.mono ?_); rintro r w1 ⟨rfl, rfl⟩)
  go_loopw [] (fun wr => ∃ q, NaI g lo s T w wr S p q) (fun wr => measL g s.size wr)
  case atStart => exact ⟨_, HST.out⟩
  case round =>
    obtain ⟨q, hI⟩ := hrel
    have h0 := hI.ls.at_.c0
    have h1 := hI.ls.at_.c1
    have f1 := hI.ls.at_.fz 1
    have HI := Lib.hid hI
    clear hI HST cl hix
    by_cases hq : q < s.size
    · have hqi : decide ((q : Int) < (s.size : Int)) = true := by simp; omega
      have hix := idx_p s q hq
      cases hw : contN (B s q) with
      | true =>
        have hwr : IntKind.i64.wrap ((q : Int) + 1) = (q : Int) + 1 := by rw [IntKind.wrap_i64]; omega
        cases hl1 : leadN (B s q) with
        | true =>
          have cl : ∀ w, Calls Tryz.prog 57 #[.int .u8 (B s q : Nat)] w fun e w' => e = .returned (.bool true) ∧ w' = w := fun w => by rw [← hl1]; exact (rlead_any _ w).mono fun _ _ h => ⟨h.1, h.2.symm⟩
          have HCL := Lib.hid cl
          clear cl
          go_wp2
          go_quiet ((go_at_call 57; exact Calls.quiet_of_same (HCL.out _)))
          go_wp2
          exact HI.out.step hq hw
        | false =>
          have hd1 : digitN (B s q) = true := by unfold contN at hw; rw [hl1] at hw; exact hw
          have cl : ∀ w, Calls Tryz.prog 57 #[.int .u8 (B s q : Nat)] w fun e w' => e = .returned (.bool false) ∧ w' = w := fun w => by rw [← hl1]; exact (rlead_any _ w).mono fun _ _ h => ⟨h.1, h.2.symm⟩
          have cd : ∀ w, Calls Tryz.prog 58 #[.int .u8 (B s q : Nat)] w fun e w' => e = .returned (.bool true) ∧ w' = w := fun w => by rw [← hd1]; exact (rdig_any _ w).mono fun _ _ h => ⟨h.1, h.2.symm⟩
          have HCL := Lib.hid cl
          have HCD := Lib.hid cd
          clear cl cd
          go_wp2
          go_quiet (first | (go_at_call 57; exact Calls.quiet_of_same (HCL.out _)) | (go_at_call 58; exact Calls.quiet_of_same (HCD.out _)))
          go_wp2
          exact HI.out.step hq hw
      | false =>
        have hl1 : leadN (B s q) = false := by unfold contN at hw; rw [Bool.or_eq_false_iff] at hw; exact hw.1
        have hd1 : digitN (B s q) = false := by unfold contN at hw; rw [Bool.or_eq_false_iff] at hw; exact hw.2
        have cl : ∀ w, Calls Tryz.prog 57 #[.int .u8 (B s q : Nat)] w fun e w' => e = .returned (.bool false) ∧ w' = w := fun w => by rw [← hl1]; exact (rlead_any _ w).mono fun _ _ h => ⟨h.1, h.2.symm⟩
        have cd : ∀ w, Calls Tryz.prog 58 #[.int .u8 (B s q : Nat)] w fun e w' => e = .returned (.bool false) ∧ w' = w := fun w => by rw [← hd1]; exact (rdig_any _ w).mono fun _ _ h => ⟨h.1, h.2.symm⟩
        have HCL := Lib.hid cl
        have HCD := Lib.hid cd
        clear cl cd
        have hqe := HI.out.last (fun h => by rw [hw] at h; cases h.2)
        rw [HE.out] at hqe
        subst hqe
        have hxe := HX.out
        subst hxe
        have hle : p ≤ q := by rw [← HE.out]; exact (goF_le _ _ _ _ (Nat.le_of_lt hp)).1
        have hwk : IntKind.i64.wrap (1 + (k : Int)) = 1 + (k : Int) := by rw [IntKind.wrap_i64]; omega
        have hk2i : ((k : Int) == 2) = false := by simp; omega
        have cw : ∀ n, Calls Tryz.prog 59 #[.string (s.extract p q)] (wr.drewN n) fun e w' => e = .returned (.int .i64 (k : Int)) ∧ Below (wr.drewN n).heap.size (wr.drewN n) w' := fun n => by have := rword_any (s.extract p q) (wr.drewN n); rw [HK.out] at this; exact this
        have HCW := Lib.hid cw
        have hp0 : (p : Int) ≤ (q : Int) := by omega
        have hq1 : (q : Int) ≤ (s.size : Int) := by have := HI.out.le; omega
        clear cw
        go_wp2
        go_quiet (first | (go_at_call 57; exact Calls.quiet_of_same (HCL.out _)) | (go_at_call 58; exact Calls.quiet_of_same (HCD.out _)))
        go_wp2
        go_quiet (fail)
        go_wp2_with (first | (go_at_call 59; (with_reducible refine (HCW.out _).mono ?_); rintro r w1 ⟨rfl, hb⟩; have L1 := HI.out.ls.below (below_dn hb); have h3 := L1.at_.c3; obtain ⟨a6, n6, cc6, w6, hrun, A6, L6⟩ := L1.app hT ⟨1 + (k : Int), p, 0, s.extract p q⟩; have f6 := A6.fz 3; have d6 := A6.c3; have HL6 := Lib.hid L6; clear hb L1 A6 L6) | (at_builtin; refine wpList_app rfl _ _ 49 rfl rfl (.slice S.a S.n S.c) (.slice (some ⟨w1.heap.size, 0, none⟩) 1 1) _ rfl rfl hrun ?_))
        go_end0
        exact ⟨rfl, _, HL6.out⟩
    · have hqi : decide ((q : Int) < (s.size : Int)) = false := by simp; omega
      · have hqe := HI.out.last (fun h => hq h.1)
        rw [HE.out] at hqe
        subst hqe
        have hxe := HX.out
        subst hxe
        have hle : p ≤ q := by rw [← HE.out]; exact (goF_le _ _ _ _ (Nat.le_of_lt hp)).1
        have hwk : IntKind.i64.wrap (1 + (k : Int)) = 1 + (k : Int) := by rw [IntKind.wrap_i64]; omega
        have hk2i : ((k : Int) == 2) = false := by simp; omega
        have cw : ∀ n, Calls Tryz.prog 59 #[.string (s.extract p q)] (wr.drewN n) fun e w' => e = .returned (.int .i64 (k : Int)) ∧ Below (wr.drewN n).heap.size (wr.drewN n) w' := fun n => by have := rword_any (s.extract p q) (wr.drewN n); rw [HK.out] at this; exact this
        have HCW := Lib.hid cw
        have hp0 : (p : Int) ≤ (q : Int) := by omega
        have hq1 : (q : Int) ≤ (s.size : Int) := by have := HI.out.le; omega
        clear cw
        go_wp2
        go_quiet (fail)
        go_wp2
        go_quiet (fail)
        go_wp2_with (first | (go_at_call 59; (with_reducible refine (HCW.out _).mono ?_); rintro r w1 ⟨rfl, hb⟩; have L1 := HI.out.ls.below (below_dn hb); have h3 := L1.at_.c3; obtain ⟨a6, n6, cc6, w6, hrun, A6, L6⟩ := L1.app hT ⟨1 + (k : Int), p, 0, s.extract p q⟩; have f6 := A6.fz 3; have d6 := A6.c3; have HL6 := Lib.hid L6; clear hb L1 A6 L6) | (at_builtin; refine wpList_app rfl _ _ 49 rfl rfl (.slice S.a S.n S.c) (.slice (some ⟨w1.heap.size, 0, none⟩) 1 1) _ rfl rfl hrun ?_))
        go_end0
        exact ⟨rfl, _, HL6.out⟩
end Go.Proofs.YtinoaajohkafmaaGreat.Rl

/-
  The reference's lexer: signs.
-/
namespace Go.Proofs.YtinoaajohkafmaaGreat.Rl
open Go Go.RowKit Go.Proofs.YtinoaajohkafmaaGreat.Uni Go.Proofs.YtinoaajohkafmaaGreat.Lx
set_option linter.unusedVariables false
set_option linter.unusedSimpArgs false
theorem bs26 (ps : Array (Nat × Value)) : Instr.buildSlice 22 26 ps = BsS 26 ps := (rfl)
def sign_cs : Array Value := (strs signs).toArray
theorem run_signs (w : World) : (BsS 26 #[(0, .string ⟨#[61, 61, 61]⟩), (1, .string ⟨#[33, 61, 61]⟩), (2, .string ⟨#[38, 38]⟩), (3, .string ⟨#[124, 124]⟩), (4, .string ⟨#[60, 61]⟩), (5, .string ⟨#[62, 61]⟩), (6, .string ⟨#[123]⟩), (7, .string ⟨#[125]⟩), (8, .string ⟨#[40]⟩), (9, .string ⟨#[41]⟩), (10, .string ⟨#[91]⟩), (11, .string ⟨#[93]⟩), (12, .string ⟨#[59]⟩), (13, .string ⟨#[44]⟩), (14, .string ⟨#[46]⟩), (15, .string ⟨#[63]⟩), (16, .string ⟨#[58]⟩), (17, .string ⟨#[61]⟩), (18, .string ⟨#[60]⟩), (19, .string ⟨#[62]⟩), (20, .string ⟨#[43]⟩), (21, .string ⟨#[45]⟩), (22, .string ⟨#[42]⟩), (23, .string ⟨#[47]⟩), (24, .string ⟨#[37]⟩), (25, .string ⟨#[33]⟩)]).run Tryz.prog w = .ok (.slice (some ⟨w.heap.size, 0, none⟩) 26 26) (w.alloc (.cells sign_cs 9)) := by
  obtain ⟨i, hi, hz, hs, hb⟩ := info_parts infoS
  exact run_buildSlice w 22 9 26 _ sign_cs i (.string ⟨#[]⟩) Tryz.underlying22 hi hz (by rw [hs]; decide) (by rw [hs]; decide) (by rw [hs]; kernel_rfl)
theorem LxS.drew {g lo p : Nat} {s : ByteArray} {b : Bool} {T : List Tok} {w W : World} {S : Pa.Sl} (h : LxS g lo s p b T w W S) : LxS g lo s p b T w W.drew S := h.below (bl_drew (Below.refl _ W))
theorem LxS.appdd {g lo p : Nat} {s : ByteArray} {b : Bool} {T : List Tok} {w W : World} {S : Pa.Sl} (h : LxS g lo s p b T w W S) (hT : T.length ≤ 200000) (t : Tok) :
    ∃ a n c w', (Builtin.append_ #[49, 49] 49 #[.slice S.a S.n S.c, .slice (some ⟨W.heap.size, 0, none⟩) 1 1]).run Tryz.prog (W.alloc (.cells (kcs t) 73)).drew.drew = .ok (.slice a n c) w' ∧ LxAt g s p b S w' ∧ LxS g lo s p b (T ++ [t]) w (w'.setCell ⟨g, 3, none⟩ (.slice a n c)) ⟨a, n, c⟩ := h.drew.drew.app hT t
def sgn (k : Nat) : ByteArray := bs (signs.getD k [])
theorem sgn_size : ∀ k, k < 26 → 0 < (sgn k).size ∧ (sgn k).size ≤ 3 := by decide
structure SgI (g lo : Nat) (s : ByteArray) (p : Nat) (T : List Tok) (w wr : World) (S : Pa.Sl) (o i k : Nat) : Prop where
  ls : LxS g lo s p false T w wr S
  bk : Blk wr o sign_cs 9
  ki : k ≤ i
theorem SgI.go {g lo p o i k : Nat} {s : ByteArray} {T : List Tok} {w wr w1 : World} {S : Pa.Sl} (h : SgI g lo s p T w wr S o i k) (hb : Below wr.heap.size wr w1) (hk : k < i) : SgI g lo s p T w w1 S o i (k + 1) := ⟨h.ls.below hb, Blk.call h.bk hb, hk⟩
attribute [local irreducible] kcs
attribute [local go_sem ↓] bs26 bdK bsK
attribute [local go_sem] run_bdKs run_bsK
attribute [local go_sem] run_signs
set_option maxRecDepth 100000 in
set_option maxHeartbeats 4000000 in
theorem token_sign {g lo p : Nat} {s : ByteArray} {S : Pa.Sl} {T : List Tok} {w W : World} (h : LxS g lo s p false T w W S) (hs : s.size ≤ 1000000) (hp : p < s.size) (hl : leadN (B s p) = false) (hd : digitN (B s p) = false) (hq1 : B s p ≠ 34) (hq2 : B s p ≠ 39) (hT : T.length ≤ 200000) {i : Nat} (hi : i < 26) (hmin : ∀ j, j < i → restB s p (sgn j) = false) (hr : restB s p (sgn i) = true) :
    Calls Tryz.prog 35 #[ptr g] W fun r w' => r = .returned (.tuple #[]) ∧ ∃ S', LxS g lo s (p + (sgn i).size) false (T ++ [⟨5, p, 0, sgn i⟩]) w w' S' := by
  have hgl : g < W.heap.size := Blk.lt h.at_
  have h0 := h.at_.c0
  have h1 := h.at_.c1
  have hix := idx_p s p hp
  obtain ⟨y, hy⟩ : ∃ y, B s p = y := ⟨_, rfl⟩
  rw [hy] at hix hl hd hq1 hq2
  have cl := rlead_any y W
  rw [hl] at cl
  have cd := rdig_any y W
  rw [hd] at cd
  have m1 : ((y : Int) == 34) = false := by simp; omega
  have m2 : ((y : Int) == 39) = false := by simp; omega
  have hrs : p + (sgn i).size ≤ s.size := by
    unfold restB at hr
    simp only [Bool.and_eq_true, decide_eq_true_eq] at hr
    exact hr.1
  have HST := Lib.hid (SgI.mk (i := i) (k := 0) (h.below bel1) (Blk.new W sign_cs 9) (Nat.zero_le _))
  have HMIN := Lib.hid hmin
  clear h hmin hy
  go_enter Tryz.func35, Tryz.ntmps35
  go_wp2_with (first | (go_at_call 57; (with_reducible refine cl.mono ?_); rintro r w1 ⟨rfl, rfl⟩) | (go_at_call 58; (with_reducible refine cd.mono ?_); rintro r w2 ⟨rfl, rfl⟩))
  clear cl cd hix h0 h1
  go_loopw [9] (fun v wr => ∃ k : Nat, v = .int .i64 (k : Int) ∧ SgI g lo s p T w wr S W.heap.size i k) (fun v _ => 26 - (intOf v).toNat)
  case atStart => exact ⟨0, rfl, HST.out⟩
  case round =>
    obtain ⟨k, rfl, hI⟩ := hrel
    have hk26 : k < 26 := by have := hI.ki; omega
    have hki : (k : Int) < 26 := by omega
    have hk0 : (0 : Int) ≤ (k : Int) := by omega
    have hc := cs_at (ws := signs) rfl hI.bk k hk26
    have hsz := sgn_size k hk26
    have cr := rest_any (t := sgn k) hI.ls.at_ hs (by omega) (Nat.le_of_lt hp)
    have HI := Lib.hid hI
    clear hI HST
    have hc2 : _ = some (Value.string (sgn k)) := hc
    clear hc
    by_cases hlt : k < i
    · rw [HMIN.out k hlt] at cr
      go_wp2_with (go_at_call 55; (with_reducible refine cr.mono ?_); rintro r w1 ⟨rfl, hb⟩; have HN := Lib.hid (HI.out.go hb hlt); clear hb)
      go_roundw
      case rel => exact ⟨k + 1, by go_num, HN.out⟩
      case measure => simp [intOf]; omega
    · have hke : k = i := by have := HI.out.ki; omega
      subst hke
      rw [hr] at cr
      have hsz3 : ((sgn k).size : Int) ≤ 3 := by omega
      have hps : (p : Int) + ((sgn k).size : Int) ≤ (s.size : Int) := by omega
      go_wp2_with (go_at_call 55; (with_reducible refine cr.mono ?_); rintro r w1 ⟨rfl, hb⟩; have L1 := HI.out.ls.below hb; have B1 := Blk.call HI.out.bk hb; have e1 := L1.drew.at_.c1; have f1 := L1.drew.at_.fz 1; have k1 : _ = some (Value.string (sgn k)) := cs_at (ws := signs) rfl (Blk.drew B1) k hk26; have L2 := L1.set1 (p + (sgn k).size); rw [Int.natCast_add] at L2; have B3 := Blk.drew (Blk.drew (Blk.other B1 ⟨g, 1, none⟩ (.int .i64 ((p : Int) + ((sgn k).size : Int))) (by simp; omega))); have k3 : _ = some (Value.string (sgn k)) := cs_at (ws := signs) rfl B3 k hk26; have e3 := L2.drew.drew.at_.c3; have e3a := (L2.below (bel1 (o := .cells (kcs ⟨5, p, 0, sgn k⟩) 73))).drew.drew.at_.c3; obtain ⟨a6, n6, cc6, w6, hrun, A6, L6⟩ := L2.appdd hT ⟨5, p, 0, sgn k⟩; have ez : (w1.setCell ⟨g, 1, none⟩ (.int .i64 ((p : Int) + ((sgn k).size : Int)))).heap.size = w1.heap.size := (by simp [World.setCell]); rw [ez] at hrun; have f6 := A6.fz 3; have d6 := A6.c3; have HL6 := Lib.hid L6; clear hb L1 B1 L2 B3 A6 L6 ez)
      clear cr
      go_region
      all_goals go_wp2
      all_goals go_region_law (refine Pa.step_app rfl (.tmp 50) (.tmp 57) 49 rfl rfl _ _ _ (by simp [Act.eval, Act.put]) (by simp [Act.eval, Act.put]) hrun ?_)
      all_goals (
        go_wp2
        refine bodyPost_ret (results_none rfl _ _ _) rfl ?_
        exact ⟨rfl, _, HL6.out⟩)
end Go.Proofs.YtinoaajohkafmaaGreat.Rl
