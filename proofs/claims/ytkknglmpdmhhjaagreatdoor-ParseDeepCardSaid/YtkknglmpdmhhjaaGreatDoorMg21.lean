/-
  Texts of this seat in build order: PaAt, PaTake, PaFail.
-/
import Derived.Test.YtkknglmpdmhhjaaGreatDoorMg20
import Derived.Laws.Slices
/-
  The parser's block, and what its small methods do.
-/
namespace Go.Proofs.YtkknglmpdmhhjaaGreatDoor.Pa
open Go Go.RowKit Go.Proofs.YtkknglmpdmhhjaaGreatDoor.Lx Go.Proofs.YtkknglmpdmhhjaaGreatDoor.Uni
set_option linter.unusedVariables false
set_option linter.unusedSimpArgs false

/-- Tokens in memory. -/
def Tks (g : Nat) (w : World) (v : Sl) (l : List Tok) : Prop :=
  ∃ b o cur, v = ⟨some ⟨b, o, none⟩, l.length, v.c⟩ ∧ b ≠ g ∧ w.heap[b]? = some (.cells cur 79 (0, 0)) ∧ w.rangeAt b o (tcells l) ∧ l.length ≤ v.c
/-- The parser's block. -/
def At (g d : Nat) (s : PS) (w : World) : Prop :=
  OkS s ∧ ∃ v : Sl, w.heap[g]? = some (.cells #[v.v, .int .i64 (d : Int), .int .i64 s.pos, .int .i64 s.fault] 44 (0, 0)) ∧ Tks g w v s.left
theorem At.lt {g d : Nat} {s : PS} {w : World} (h : At g d s w) : g < w.heap.size := by
  obtain ⟨-, v, h1, -⟩ := h
  exact lt_of_block h1
theorem At.ok {g d : Nat} {s : PS} {w : World} (h : At g d s w) : OkS s := h.1
theorem Tks.keep {g : Nat} {w w' : World} {v : Sl} {l : List Tok} (h : Tks g w v l) (hk : ∀ b, b < w.heap.size → b ≠ g → (∃ cur, w.heap[b]? = some (.cells cur 79 (0, 0))) → w'.heap[b]? = w.heap[b]?) : Tks g w' v l := by
  obtain ⟨b, o, cur, h1, h2, h3, h4, h5⟩ := h
  have e := hk b (lt_of_block h3) h2 ⟨cur, h3⟩
  refine ⟨b, o, cur, h1, h2, e.trans h3, fun j u hj => ?_, h5⟩
  have := h4 j u hj
  simp only [World.cell?] at this ⊢
  rw [e]
  exact this
theorem At.below {g d : Nat} {s : PS} {w w' : World} (h : At g d s w) (hb : Below w.heap.size w w') : At g d s w' := by
  have hlt := h.lt
  obtain ⟨h0, v, h1, h2⟩ := h
  exact ⟨h0, v, (hb.block g hlt).trans h1, h2.keep fun b hb1 _ _ => hb.block b hb1⟩
theorem At.alloc {g d : Nat} {s : PS} {w : World} (h : At g d s w) (o : Obj) : At g d s (w.alloc o) := h.below bel1
theorem At.drewN {g d : Nat} {s : PS} {w : World} (h : At g d s w) (n : Nat) : At g d s (w.drewN n) := h
theorem At.drew {g d : Nat} {s : PS} {w : World} (h : At g d s w) : At g d s w.drew := h
/-- A block that holds a node is neither the parser's nor the tokens'. -/
theorem At.row {g d : Nat} {s : PS} {w : World} (h : At g d s w) {b : Nat} {cs cs' : Array Value} (hb : Blk w b cs 27) : At g d s (w.setRow b cs') := by
  obtain ⟨h0, v, h1, h2⟩ := h
  have hne : g ≠ b := by
    rintro rfl
    unfold Blk at hb
    rw [hb] at h1
    simp at h1
  refine ⟨h0, v, (setRow_other w b g cs' hne).trans h1, h2.keep fun b2 _ _ hc => ?_⟩
  obtain ⟨cur, hc⟩ := hc
  refine setRow_other w b b2 cs' ?_
  rintro rfl
  unfold Blk at hb
  rw [hb] at hc
  simp at hc
/-- What every method leaves. -/
def Post (g d : Nat) (w : World) (v : Value) (s : PS) (e : Ending) (w' : World) : Prop := e = .returned v ∧ At g d s w' ∧ GB g w w'
def PostR (w : World) (v : Value) (e : Ending) (w' : World) : Prop := e = .returned v ∧ Below w.heap.size w w'
theorem PostR.post {g d : Nat} {s : PS} {w w' : World} {v : Value} {e : Ending} (h : PostR w v e w') (ha : At g d s w) : Post g d w v s e w' := ⟨h.1, ha.below h.2, GB.of h.2⟩
/-- What a method leaves that gives a node; S: whose blocks its arguments have. -/
def PostS (S : Nat → Prop) (g d : Nat) (w : World) (R : Tree × PS) (e : Ending) (w' : World) : Prop := ∃ N, e = .returned (.agg (ncs N)) ∧ Rep (fun b => S b ∨ w.heap.size ≤ b) w' R.1 N ∧ At g d R.2 w' ∧ GB g w w'
abbrev PostN (g d : Nat) (w : World) (R : Tree × PS) : Ending → World → Prop := PostS (fun _ => False) g d w R

theorem At.cells {g d : Nat} {s : PS} {w : World} (h : At g d s w) : ∃ b o c, w.cell? ⟨g, 0, none⟩ = some (.slice (some ⟨b, o, none⟩) s.left.length c) ∧ w.cell? ⟨g, 1, none⟩ = some (.int .i64 (d : Int)) ∧ w.cell? ⟨g, 2, none⟩ = some (.int .i64 s.pos) ∧ w.cell? ⟨g, 3, none⟩ = some (.int .i64 s.fault) ∧ (∀ i, w.frozen? ⟨g, i, none⟩ = false) ∧ w.rangeAt b o (kcs s.next).toList ∧ s.left.length ≤ c := by
  obtain ⟨h0, v, h1, b, o, cur, h2, h3, h4, h5, h6⟩ := h
  refine ⟨b, o, v.c, ?_, ?_, ?_, ?_, ?_, ?_, h6⟩
  · simp only [World.cell?, h1]
    rw [h2]; rfl
  · simp only [World.cell?, h1]; rfl
  · simp only [World.cell?, h1]; rfl
  · simp only [World.cell?, h1]; rfl
  · intro i; simp [World.frozen?, h1]
  · obtain ⟨r, hr⟩ := h0.cons
    intro j u hj
    refine h5 j u ?_
    rw [hr]
    have : tcells (s.next :: r) = (kcs s.next).toList ++ tcells r := rfl
    rw [this, List.getElem?_append_left (List.getElem?_eq_some_iff.1 hj).1]
    exact hj
theorem run_ldKm {w : World} {b o : Nat} {t : Tok} (h : w.rangeAt b o (kcs t).toList) : (Ld 79 (.pointer (some ⟨b, o, none⟩))).run Tryz.prog w = .ok (.agg (kcs t)) w := by
  have := run_loadAt_mid (P := Tryz.prog) w b o 79 (kcs t).toList _ h Tryz.underlying79 rfl sizeK
  simpa [Ld] using this
attribute [local go_sem ↓] ldK stK alK bdK bsK
attribute [local irreducible] kcs
attribute [local go_sem] run_alK run_bdK0 run_bdKs run_bdKn run_bdKe run_bsK run_fdK0 run_fdK1 run_fdK2 run_fdK3 run_fdN4

set_option maxRecDepth 100000 in
set_option maxHeartbeats 2000000 in
theorem next_any {g d : Nat} {s : PS} {w : World} (h : At g d s w) :
    Calls Tryz.prog 45 #[.pointer (some ⟨g, 0, none⟩)] w (PostR w (.agg (kcs s.next))) := by
  obtain ⟨b, o, c, c0, c1, c2, c3, fz, hr, hc⟩ := h.cells
  have hp : (0 : Int) < s.left.length := by have := h.ok.pos; omega
  have ha : ∀ x, (w.alloc x).cell? ⟨g, 0, none⟩ = some (.slice (some ⟨b, o, none⟩) s.left.length c) := fun x => by rw [World.cell?_alloc_past _ _ _ h.lt]; exact c0
  have hl := run_ldKm (w := w.alloc (.cells (kcs zeroK) 79)) (b := b) (o := o) (t := s.next) (fun j u hj => by have := hr j u hj; rw [World.cell?_alloc_past _ _ _ (World.block_lt_of_cell? w _ this)]; exact this)
  have hs := run_stKg w w.heap.size s.next zeroK rfl
  have HA := Lib.hid h
  clear h
  go_enter Tryz.func45, Tryz.ntmps45
  go_wp2
  refine bodyPost_ret (res_T rfl _ _ w.heap.size s.next rfl (Blk.new w _ _)) rfl ⟨rfl, bel1⟩

theorem At.set1 {g d : Nat} {s : PS} {w : World} (h : At g d s w) {d' : Nat} {n : Int} (hn : n = (d' : Int)) : At g d' s (w.setCell ⟨g, 1, none⟩ (.int .i64 n)) := by
  subst hn
  obtain ⟨h0, v, h1, h2⟩ := h
  refine ⟨h0, v, ?_, h2.keep fun b _ hb _ => heap_setCell_other w ⟨g, 1, none⟩ b _ hb⟩
  exact (heap_setCell_same w g 1 _ _ _ h1)
theorem GB.drew1 {g : Nat} {w w' : World} (h : GB g w w') : GB g w w'.drew := h.drew 1

set_option maxRecDepth 100000 in
set_option maxHeartbeats 2000000 in
theorem failed_any {g d : Nat} {s : PS} {w : World} (h : At g d s w) :
    Calls Tryz.prog 25 #[.pointer (some ⟨g, 0, none⟩)] w (PostR w (.bool (!(s.fault == 0)))) := by
  obtain ⟨b, o, c, c0, c1, c2, c3, fz, hr, hc⟩ := h.cells
  have HA := Lib.hid h
  clear h
  go_enter Tryz.func25, Tryz.ntmps25
  go_wp2
  go_ret
  exact ⟨rfl, Below.refl _ _⟩

set_option maxRecDepth 100000 in
set_option maxHeartbeats 2000000 in
theorem atEnd_any {g d : Nat} {s : PS} {w : World} (h : At g d s w) :
    Calls Tryz.prog 24 #[.pointer (some ⟨g, 0, none⟩)] w (PostR w (.bool (endF s))) := by
  have hn := next_any h
  have ck := kcs_0 s.next
  clear h
  go_enter Tryz.func24, Tryz.ntmps24
  go_wp2_with (first | (go_at_call 45; refine hn.mono ?_; rintro e w1 ⟨rfl, hb⟩; have HB := Lib.hid hb; clear hb))
  go_ret
  exact ⟨rfl, HB.out⟩

set_option maxRecDepth 100000 in
set_option maxHeartbeats 2000000 in
theorem mark_any (t : Tok) (w : World) :
    Calls Tryz.prog 137 #[.agg (kcs t)] w fun e w' => e = .returned (.bool (markF t)) ∧ Below w.heap.size w w' := by
  have ck := (Blk.new w (kcs t) 79).cell 0
  rw [kcs_0] at ck
  cases h2 : t.kind == 2 with
  | true =>
    have e : markF t = true := by unfold markF; rw [h2]; rfl
    rw [e]
    go_enter Tryz.func137, Tryz.ntmps137
    go_wp2
    go_ret
    exact ⟨rfl, bel1⟩
  | false =>
    have e : markF t = (t.kind == 5) := by unfold markF; rw [h2]; rfl
    rw [e]
    clear e
    go_enter Tryz.func137, Tryz.ntmps137
    go_wp2
    go_ret
    exact ⟨rfl, bel1⟩
end Go.Proofs.YtkknglmpdmhhjaaGreatDoor.Pa

/-
  take, sees, takes, fail, needs.
-/
namespace Go.Proofs.YtkknglmpdmhhjaaGreatDoor.Pa
open Go Go.RowKit Go.Proofs.YtkknglmpdmhhjaaGreatDoor.Lx Go.Proofs.YtkknglmpdmhhjaaGreatDoor.Uni
set_option linter.unusedVariables false
set_option linter.unusedSimpArgs false
attribute [local go_sem ↓] ldK stK alK bdK bsK
attribute [local irreducible] kcs
attribute [local go_sem] run_alK run_bdK0 run_bdKs run_bdKn run_bdKe run_bsK run_fdK0 run_fdK1 run_fdK2 run_fdK3 run_fdN4

/-- The parser's block, opened. -/
structure Opn (g d : Nat) (s : PS) (w : World) (b o c : Nat) : Prop where
  ok : OkS s
  hp : w.heap[g]? = some (.cells #[.slice (some ⟨b, o, none⟩) s.left.length c, .int .i64 (d : Int), .int .i64 s.pos, .int .i64 s.fault] 44 (0, 0))
  ne : b ≠ g
  tk : ∃ cur, w.heap[b]? = some (.cells cur 79 (0, 0))
  rg : w.rangeAt b o (tcells s.left)
  le : s.left.length ≤ c
theorem At.opn {g d : Nat} {s : PS} {w : World} (h : At g d s w) : ∃ b o c, Opn g d s w b o c := by
  obtain ⟨h0, v, h1, b, o, cur, h2, h3, h4, h5, h6⟩ := h
  exact ⟨b, o, v.c, h0, by rw [h1, h2]; rfl, h3, ⟨cur, h4⟩, h5, h6⟩
theorem Opn.at {g d : Nat} {s : PS} {w : World} {b o c : Nat} (h : Opn g d s w b o c) : At g d s w := by
  obtain ⟨h0, h1, h2, ⟨cur, h3⟩, h4, h5⟩ := h
  exact ⟨h0, ⟨some ⟨b, o, none⟩, s.left.length, c⟩, h1, b, o, cur, rfl, h2, h3, h4, h5⟩
theorem elemT : Tryz.prog.elem 40 = 79 := by kernel_rfl
theorem sizeT (w : World) : (sizeOf (Tryz.prog.elem 40)).run Tryz.prog w = .ok 4 w := by kernel_rfl
theorem run_from1 (b o n c : Nat) (h1 : 1 ≤ n) (h2 : n ≤ c) (h3 : 2 ≤ c) (w : World) : (Instr.slice 40 (.slice (some ⟨b, o, none⟩) n c) (some (.int .i64 1)) none none).run Tryz.prog w = .ok (.slice (some ⟨b, o + 4, none⟩) (n - 1) (c - 1)) w := by
  rw [run_slice_l _ _ (some ⟨b, o, none⟩) n c (by rw [elemT]; exact Tryz.underlying40) .i64 1 (by omega) (by omega), sizeT]
  have e : ¬ c = 1 := by omega
  simp [Result.andThen, sliced, e, Addr.add]
/-- What is left behind a token. -/
theorem Opn.tail {g d : Nat} {s : PS} {w W : World} {b o c : Nat} (h : Opn g d s w b o c) (hk : ¬ (s.next.kind = 0 ∨ s.next.kind = -1)) (hW : GB g w W) (hg : W.heap[g]? = some (.cells #[.slice (some ⟨b, o + 4, none⟩) (s.left.length - 1) (c - 1), .int .i64 (d : Int), .int .i64 s.pos, .int .i64 s.fault] 44 (0, 0))) : At g d s.take W := by
  obtain ⟨h1, h2⟩ := h.ok.take hk
  obtain ⟨cur, h3⟩ := h.tk
  have hb := hW.block b (lt_of_block h3) (by simpa using h.ne)
  obtain ⟨r, hr⟩ := h.ok.cons
  have hl : s.take.left = r := by unfold PS.take; simp only; rw [hr]; rfl
  have hlen := h.le
  refine Opn.at (b := b) (o := o + 4) (c := c - 1) ⟨h1, ?_, h.ne, ⟨cur, hb.trans h3⟩, ?_, ?_⟩
  · rw [hg, show s.left.length - 1 = s.take.left.length from by omega]
    rfl
  · intro j u hj
    have := h.rg (4 + j) u (by
      rw [hr]
      have e : tcells (s.next :: r) = (kcs s.next).toList ++ tcells r := rfl
      rw [e, List.getElem?_append_right (by rw [kcs_list]; omega), kcs_list, ← hl]
      rw [show 4 + j - 4 = j from by omega]
      exact hj)
    simp only [World.cell?] at this ⊢
    rw [hb, show o + 4 + j = o + (4 + j) from by omega]
    exact this
  · omega

set_option maxRecDepth 100000 in
set_option maxHeartbeats 2000000 in
theorem take_any {g d : Nat} {s : PS} {w : World} (h : At g d s w) (hk : ¬ (s.next.kind = 0 ∨ s.next.kind = -1)) :
    Calls Tryz.prog 139 #[.pointer (some ⟨g, 0, none⟩)] w (Post g d w (.agg (kcs s.next)) s.take) := by
  have hlt := h.lt
  obtain ⟨hk1, hk2⟩ := h.ok.take hk
  have hk3 := hk1.pos
  have hn := next_any (h.alloc (.cells (kcs zeroK) 79))
  obtain ⟨b, o, c, hO⟩ := h.opn
  have hle := hO.le
  have hsl := run_from1 b o s.left.length c (by omega) hle (by omega)
  have HO := Lib.hid hO
  have HK := Lib.hid hk
  clear h hk hO
  go_enter Tryz.func139, Tryz.ntmps139
  go_wp2_with (first | (go_at_call 45; refine hn.mono ?_; rintro e w1 ⟨rfl, hb⟩; refine Hid.out ?_))
  refine Lib.hid ?_
  have hr0 : Blk w1 w.heap.size (kcs zeroK) 79 := (Blk.new w _ _).call hb
  have hsz : w.heap.size < w1.heap.size := hr0.lt
  have hbw : Below w.heap.size w w1 := bel1.trans (hb.mono (by simp))
  have hg1 : w1.heap[g]? = _ := (hbw.block g hlt).trans HO.out.hp
  have hs := fun o => run_stKg w1 w1.heap.size s.next o rfl
  have c0 : ∀ x, (w1.alloc x).cell? ⟨g, 0, none⟩ = some (.slice (some ⟨b, o, none⟩) s.left.length c) := fun x => by rw [World.cell?_alloc_past _ _ _ (by show g < _; omega)]; simp only [World.cell?, hg1]; rfl
  have f0 : ∀ x, (w1.alloc x).frozen? ⟨g, 0, none⟩ = false := fun x => by
    have e : (w1.alloc x).heap[g]? = _ := (heap_alloc_old w1 x (by omega)).trans hg1
    simp [World.frozen?, e]
  have hl := run_ldK (w := (w1.alloc (.cells (kcs s.next) 79)).setCell ⟨g, 0, none⟩ (.slice (some ⟨b, o + 4, none⟩) (s.left.length - 1) (c - 1))) (b := w1.heap.size) (t := s.next) ((Blk.new w1 _ _).other _ _ (by show _ ≠ g; omega))
  have hB0 : Blk ((w1.alloc (.cells (kcs s.next) 79)).setCell ⟨g, 0, none⟩ (.slice (some ⟨b, o + 4, none⟩) (s.left.length - 1) (c - 1))) w.heap.size (kcs zeroK) 79 := (hr0.old _).other _ _ (by show _ ≠ g; omega)
  have hst := run_stK (t := s.next) hB0
  have HB := Lib.hid hB0
  have HG1 := Lib.hid hg1
  have HBW := Lib.hid hbw
  clear hb hr0 hg1 hbw hB0 hn
  go_wp2
  refine bodyPost_ret (res_T rfl _ _ w.heap.size s.next rfl (HB.out.row _)) rfl ⟨rfl, ?_, ?_⟩
  · refine HO.out.tail HK.out ((((GB.of HBW.out).trans (GB.of bel1)).trans (GB.set _ _ _)).row _ (Nat.le_refl _)) ?_
    refine (setRow_other _ w.heap.size g _ (by omega)).trans ?_
    exact heap_setCell_same _ g 0 _ _ _ ((heap_alloc_old w1 _ (by omega)).trans HG1.out)
  · exact ((((GB.of HBW.out).trans (GB.of bel1)).trans (GB.set _ _ _)).row _ (Nat.le_refl _))

set_option maxRecDepth 100000 in
set_option maxHeartbeats 2000000 in
theorem sees_any {g d : Nat} {s : PS} {w : World} (h : At g d s w) (x : ByteArray) :
    Calls Tryz.prog 84 #[.pointer (some ⟨g, 0, none⟩), .string x] w (PostR w (.bool (seesF x s))) := by
  have hn := next_any h
  have hm := fun w => mark_any s.next w
  unfold seesF
  have e : eqT s.next.text x = (s.next.text.toList == x.toList) := by unfold eqT; rw [ByteArray.toList_eq, ByteArray.toList_eq]
  rw [e]
  clear e
  have c3 : ∀ w : World, (w.alloc (.cells (kcs s.next) 79)).cell? ⟨w.heap.size, 3, none⟩ = some (.string s.next.text) := fun w => ((Blk.new w (kcs s.next) 79).cell 3).trans (kcs_3 _)
  cases hk : markF s.next with
  | false =>
    rw [hk] at hm
    clear h hk
    go_enter Tryz.func84, Tryz.ntmps84
    go_wp2_with (first | (go_at_call 45; refine hn.mono ?_; rintro e w1 ⟨rfl, hb⟩; have hs := (fun o => run_stKg w1 w1.heap.size s.next o rfl); have hl := (run_ldK (Blk.new w1 (kcs s.next) 79)); have HB := Lib.hid hb; clear hb) | (go_at_call 137; refine (hm _).mono ?_; rintro e w2 ⟨rfl, hb2⟩; have HB2 := Lib.hid hb2; clear hb2))
    go_ret
    exact ⟨rfl, HB.out.trans ((bel1.trans (HB2.out.mono (by simp))).mono HB.out.size)⟩
  | true =>
    rw [hk] at hm
    clear h hk
    go_enter Tryz.func84, Tryz.ntmps84
    go_wp2_with (first | (go_at_call 45; refine hn.mono ?_; rintro e w1 ⟨rfl, hb⟩; have hs := (fun o => run_stKg w1 w1.heap.size s.next o rfl); have hl := (run_ldK (Blk.new w1 (kcs s.next) 79)); have cc := c3 w1; have HB := Lib.hid hb; clear hb) | (go_at_call 137; refine (hm _).mono ?_; rintro e w2 ⟨rfl, hb2⟩; have cd := (cell_keep cc (fun hl => hb2.block _ hl)); have HB2 := Lib.hid hb2; clear hb2))
    go_ret
    exact ⟨by rw [Bool.true_and]; rfl, HB.out.trans ((bel1.trans (HB2.out.mono (by simp))).mono HB.out.size)⟩

set_option maxRecDepth 100000 in
set_option maxHeartbeats 2000000 in
theorem takes_any {g d : Nat} {s : PS} {w : World} (h : At g d s w) (x : ByteArray) :
    Calls Tryz.prog 86 #[.pointer (some ⟨g, 0, none⟩), .string x] w (Post g d w (.bool (seesF x s)) (takesF x s).2) := by
  have hs := sees_any h x
  unfold takesF
  cases hk : seesF x s with
  | false =>
    rw [hk] at hs
    have HA := Lib.hid h
    clear h hk
    go_enter Tryz.func86, Tryz.ntmps86
    go_wp2_with (first | (go_at_call 84; refine hs.mono ?_; rintro e w1 ⟨rfl, hb⟩; have HB := Lib.hid hb; clear hb))
    go_ret
    exact ⟨rfl, HA.out.below HB.out, GB.of HB.out⟩
  | true =>
    have ht := fun (w' : World) (h' : At g d s w') => take_any h' (sees_kind hk)
    rw [hk] at hs
    have HA := Lib.hid h
    clear h hk
    go_enter Tryz.func86, Tryz.ntmps86
    go_wp2_with (first | (go_at_call 84; refine hs.mono ?_; rintro e w1 ⟨rfl, hb⟩; have HB := Lib.hid hb; clear hb) | (go_at_call 139; refine (ht _ (HA.out.below HB.out)).mono ?_; rintro e w2 ⟨rfl, ha2, hg2⟩; have HA2 := Lib.hid ha2; have HG2 := Lib.hid hg2; clear ha2 hg2))
    go_ret
    exact ⟨rfl, HA2.out, (GB.of HB.out).trans HG2.out⟩
end Go.Proofs.YtkknglmpdmhhjaaGreatDoor.Pa

/-
  fail, needs, name, member, enter, leave, optionalName, isMember, node.
-/
namespace Go.Proofs.YtkknglmpdmhhjaaGreatDoor.Pa
open Go Go.RowKit Go.Proofs.YtkknglmpdmhhjaaGreatDoor.Lx Go.Proofs.YtkknglmpdmhhjaaGreatDoor.Uni
set_option linter.unusedVariables false
set_option linter.unusedSimpArgs false
attribute [local go_sem ↓] ldK stK alK bdK bsK ldN stN alN bdN bsN
attribute [local irreducible] kcs ncs
attribute [local go_sem] run_alK run_bdK0 run_bdKs run_bdKn run_bdKe run_bsK run_fdK0 run_fdK1 run_fdK2 run_fdK3 run_fdN4 run_alN run_stNg run_ldNg run_bdN0 run_bdN04 run_bdN02 run_bdN01 run_bdN024 run_bdN03 run_bdN0234 run_bsN1 run_bsN2 run_bsN3

theorem kcs_def (t : Tok) : kcs t = #[.int .i64 t.kind, .int .i64 t.pos, .int .i64 t.num, .string t.text] := by unfold kcs; rfl
theorem run_bdKd (w : World) : (Bd 79 #[(0, .int .i64 (-1))]).run Tryz.prog w = .ok (.agg (kcs stopK)) w := by
  rw [kcs_def]
  exact run_build w _ _ _ (by kernel_rfl)
theorem Opn.stopped {g d : Nat} {s : PS} {w W : World} {b o c : Nat} (h : Opn g d s w b o c) {e : Int} (he : e ≠ 0) (hf : s.fault = 0) (b' : Nat) (hb' : b' ≠ g) (hB : Blk W b' (kcs stopK) 79) (hg : W.heap[g]? = some (.cells #[.slice (some ⟨b', 0, none⟩) 1 1, .int .i64 (d : Int), .int .i64 s.next.pos, .int .i64 e] 44 (0, 0))) : At g d (s.fail e) W := by
  have e1 : s.fail e = ⟨[stopK], s.next.pos, e⟩ := by unfold PS.fail; rw [if_pos hf]
  rw [e1]
  refine Opn.at (b := b') (o := 0) (c := 1) ⟨stop_ok _ _ he, hg, hb', ⟨_, hB⟩, ?_, Nat.le_refl _⟩
  exact hB.range (r := []) (by simp [tcells])

set_option maxRecDepth 100000 in
set_option maxHeartbeats 2000000 in
theorem fail_any {g d : Nat} {s : PS} {w : World} (h : At g d s w) {e : Int} (he : e ≠ 0) :
    Calls Tryz.prog 136 #[.pointer (some ⟨g, 0, none⟩), .int .i64 e] w (Post g d w (.tuple #[]) (s.fail e)) := by
  have hlt := h.lt
  have hf := failed_any h
  by_cases hz : s.fault = 0
  · have hn := fun (w' : World) (hb : Below w.heap.size w w') => next_any (h.below hb)
    obtain ⟨b, o, c, hO⟩ := h.opn
    have e0 : (s.fault == 0) = true := by rw [hz]; rfl
    rw [e0] at hf
    have HO := Lib.hid hO
    have HE := Lib.hid he
    have HZ := Lib.hid hz
    have hbd := run_bdKd
    clear h hO he hz e0
    go_enter Tryz.func136, Tryz.ntmps136
    go_wp2_with (first | (go_at_call 25; refine hf.mono ?_; rintro e1 w1 ⟨rfl, hb1⟩; have HB1 := Lib.hid hb1; clear hb1) | (go_at_call 45; refine (hn _ HB1.out).mono ?_; rintro e2 w2 ⟨rfl, hb2⟩; refine Hid.out ?_))
    refine Lib.hid ?_
    have hB := HB1.out.trans (hb2.mono HB1.out.size)
    have hg2 : w2.heap[g]? = _ := (hB.block g hlt).trans HO.out.hp
    have fz : ∀ i, w2.frozen? ⟨g, i, none⟩ = false := fun i => by simp [World.frozen?, hg2]
    have c0 : w2.cell? ⟨g, 0, none⟩ = some (.slice (some ⟨b, o, none⟩) s.left.length c) := by simp only [World.cell?, hg2]; rfl
    have c2 : w2.cell? ⟨g, 2, none⟩ = some (.int .i64 s.pos) := by simp only [World.cell?, hg2]; rfl
    have c3 : w2.cell? ⟨g, 3, none⟩ = some (.int .i64 s.fault) := by simp only [World.cell?, hg2]; rfl
    have hgl : g < w2.heap.size := lt_of_block hg2
    have HB := Lib.hid hB
    have HG := Lib.hid hg2
    clear hb2 hB hg2 hn
    go_wp2
    go_end0
    have hg3 := (heap_setCell_same _ g 0 _ _ (.slice (some ⟨w2.heap.size, 0, none⟩) 1 1) (heap_setCell_same _ g 3 _ _ (.int .i64 e) (heap_setCell_same w2 g 2 _ _ (.int .i64 s.next.pos) HG.out)))
    refine ⟨rfl, HO.out.stopped HE.out HZ.out w2.heap.size (by omega) ?_ ?_, ?_⟩
    · exact blk_newg (by simp [World.setCell])
    · refine (heap_alloc_old _ _ ?_).trans hg3
      simpa [World.setCell] using hgl
    · exact ((((GB.of HB.out).trans (GB.set _ _ _)).trans (GB.set _ _ _)).trans (GB.set _ _ _)).trans (GB.of bel1)
  · have e0 : (s.fault == 0) = false := by simpa using hz
    have e1 : s.fail e = s := by unfold PS.fail; rw [if_neg hz]
    rw [e0] at hf
    rw [e1]
    have HA := Lib.hid h
    clear h hz e0 e1
    go_enter Tryz.func136, Tryz.ntmps136
    go_wp2_with (first | (go_at_call 25; refine hf.mono ?_; rintro e w1 ⟨rfl, hb⟩; have HB := Lib.hid hb; clear hb))
    refine bodyPost_ret (results_none rfl _ _ _) rfl ?_
    exact ⟨rfl, HA.out.below HB.out, GB.of HB.out⟩

set_option maxRecDepth 100000 in
set_option maxHeartbeats 2000000 in
theorem needs_any {g d : Nat} {s : PS} {w : World} (h : At g d s w) (x : ByteArray) :
    Calls Tryz.prog 93 #[.pointer (some ⟨g, 0, none⟩), .string x] w (Post g d w (.tuple #[]) (needsF x s)) := by
  have ht := takes_any h x
  unfold takesF at ht
  unfold needsF
  cases hk : seesF x s with
  | true =>
    rw [hk] at ht
    clear h hk
    go_enter Tryz.func93, Tryz.ntmps93
    go_wp2_with (first | (go_at_call 86; refine ht.mono ?_; rintro e w1 ⟨rfl, ha, hg⟩; have HA := Lib.hid ha; have HG := Lib.hid hg; clear ha hg))
    go_end0
    exact ⟨rfl, HA.out, HG.out⟩
  | false =>
    have hf := fun (w' : World) (h' : At g d s w') => fail_any h' (e := 2) (by decide)
    rw [hk] at ht
    clear h hk
    go_enter Tryz.func93, Tryz.ntmps93
    go_wp2_with (first | (go_at_call 86; refine ht.mono ?_; rintro e w1 ⟨rfl, ha, hg⟩; have HA := Lib.hid ha; have HG := Lib.hid hg; clear ha hg) | (go_at_call 136; refine (hf _ HA.out).mono ?_; rintro e w2 ⟨rfl, ha2, hg2⟩; have HA2 := Lib.hid ha2; have HG2 := Lib.hid hg2; clear ha2 hg2))
    go_end0
    exact ⟨rfl, HA2.out, HG.out.trans HG2.out⟩

set_option maxRecDepth 100000 in
set_option maxHeartbeats 2000000 in
theorem name_any {g d : Nat} {s : PS} {w : World} (h : At g d s w) :
    Calls Tryz.prog 88 #[.pointer (some ⟨g, 0, none⟩)] w (Post g d w (.string (nameF s).1) (nameF s).2) := by
  have hn := next_any h
  unfold nameF
  by_cases hk : s.next.kind = 1
  · have ht := fun (w' : World) (h' : At g d s w') => take_any h' (by rw [hk]; decide)
    have e1 : (s.next.kind == 1) = true := by rw [hk]; rfl
    rw [if_pos hk]
    have HA := Lib.hid h
    clear h hk
    go_enter Tryz.func88, Tryz.ntmps88
    go_wp2_with (first | (go_at_call 45; refine hn.mono ?_; rintro e w1 ⟨rfl, hb⟩; have HB := Lib.hid hb; clear hb) | (go_at_call 139; refine (ht _ (HA.out.below HB.out)).mono ?_; rintro e w2 ⟨rfl, ha2, hg2⟩; have HA2 := Lib.hid ha2; have HG2 := Lib.hid hg2; clear ha2 hg2))
    go_ret
    exact ⟨rfl, HA2.out, (GB.of HB.out).trans HG2.out⟩
  · have ht := fun (w' : World) (h' : At g d s w') => fail_any h' (e := 2) (by decide)
    have e1 : (s.next.kind == 1) = false := by simpa using hk
    rw [if_neg hk]
    have HA := Lib.hid h
    clear h hk
    go_enter Tryz.func88, Tryz.ntmps88
    go_wp2_with (first | (go_at_call 45; refine hn.mono ?_; rintro e w1 ⟨rfl, hb⟩; have HB := Lib.hid hb; clear hb) | (go_at_call 136; refine (ht _ (HA.out.below HB.out)).mono ?_; rintro e w2 ⟨rfl, ha2, hg2⟩; have HA2 := Lib.hid ha2; have HG2 := Lib.hid hg2; clear ha2 hg2))
    go_ret
    exact ⟨rfl, HA2.out, (GB.of HB.out).trans HG2.out⟩

set_option maxRecDepth 100000 in
set_option maxHeartbeats 2000000 in
theorem member_any {g d : Nat} {s : PS} {w : World} (h : At g d s w) :
    Calls Tryz.prog 267 #[.pointer (some ⟨g, 0, none⟩)] w (Post g d w (.string (memF s).1) (memF s).2) := by
  have hn := next_any h
  unfold memF
  by_cases hk : s.next.kind = 1
  · have ht := fun (w' : World) (h' : At g d s w') => take_any h' (by rw [hk]; decide)
    have e1 : (s.next.kind != 1) = false := by rw [hk]; rfl
    rw [if_pos (.inl hk)]
    have HA := Lib.hid h
    clear h hk
    go_enter Tryz.func267, Tryz.ntmps267
    go_wp2_with (first | (go_at_call 45; refine hn.mono ?_; rintro e w1 ⟨rfl, hb⟩; have HB := Lib.hid hb; clear hb) | (go_at_call 139; refine (ht _ (HA.out.below HB.out)).mono ?_; rintro e w2 ⟨rfl, ha2, hg2⟩; have HA2 := Lib.hid ha2; have HG2 := Lib.hid hg2; clear ha2 hg2))
    go_ret
    exact ⟨rfl, HA2.out, (GB.of HB.out).trans HG2.out⟩
  · have e1 : (s.next.kind != 1) = true := by simpa using hk
    by_cases hk2 : s.next.kind = 2
    · have ht := fun (w' : World) (h' : At g d s w') => take_any h' (by rw [hk2]; decide)
      have e2 : (s.next.kind != 2) = false := by rw [hk2]; rfl
      rw [if_pos (.inr hk2)]
      have HA := Lib.hid h
      clear h hk hk2
      go_enter Tryz.func267, Tryz.ntmps267
      go_wp2_with (first | (go_at_call 45; refine hn.mono ?_; rintro e w1 ⟨rfl, hb⟩; have HB := Lib.hid hb; clear hb) | (go_at_call 139; refine (ht _ (HA.out.below HB.out)).mono ?_; rintro e w2 ⟨rfl, ha2, hg2⟩; have HA2 := Lib.hid ha2; have HG2 := Lib.hid hg2; clear ha2 hg2))
      go_ret
      exact ⟨rfl, HA2.out, (GB.of HB.out).trans HG2.out⟩
    · have ht := fun (w' : World) (h' : At g d s w') => fail_any h' (e := 2) (by decide)
      have e2 : (s.next.kind != 2) = true := by simpa using hk2
      rw [if_neg (fun h => h.elim hk hk2)]
      have HA := Lib.hid h
      clear h hk hk2
      go_enter Tryz.func267, Tryz.ntmps267
      go_wp2_with (first | (go_at_call 45; refine hn.mono ?_; rintro e w1 ⟨rfl, hb⟩; have HB := Lib.hid hb; clear hb) | (go_at_call 136; refine (ht _ (HA.out.below HB.out)).mono ?_; rintro e w2 ⟨rfl, ha2, hg2⟩; have HA2 := Lib.hid ha2; have HG2 := Lib.hid hg2; clear ha2 hg2))
      go_ret
      exact ⟨rfl, HA2.out, (GB.of HB.out).trans HG2.out⟩

set_option maxRecDepth 100000 in
set_option maxHeartbeats 2000000 in
theorem opt_any {g d : Nat} {s : PS} {w : World} (h : At g d s w) :
    Calls Tryz.prog 274 #[.pointer (some ⟨g, 0, none⟩)] w (Post g d w (.string (optF s).1) (optF s).2) := by
  have hs := sees_any h ⟨#[40]⟩
  unfold optF
  cases hk : seesF ⟨#[40]⟩ s with
  | true =>
    rw [hk] at hs
    have HA := Lib.hid h
    clear h hk
    go_enter Tryz.func274, Tryz.ntmps274
    go_wp2_with (first | (go_at_call 84; refine hs.mono ?_; rintro e w1 ⟨rfl, hb⟩; have HB := Lib.hid hb; clear hb))
    go_ret
    exact ⟨rfl, HA.out.below HB.out, GB.of HB.out⟩
  | false =>
    have hn := fun (w' : World) (h' : At g d s w') => name_any h'
    rw [hk] at hs
    have HA := Lib.hid h
    clear h hk
    go_enter Tryz.func274, Tryz.ntmps274
    go_wp2_with (first | (go_at_call 84; refine hs.mono ?_; rintro e w1 ⟨rfl, hb⟩; have HB := Lib.hid hb; clear hb) | (go_at_call 88; refine (hn _ (HA.out.below HB.out)).mono ?_; rintro e w2 ⟨rfl, ha2, hg2⟩; have HA2 := Lib.hid ha2; have HG2 := Lib.hid hg2; clear ha2 hg2))
    go_ret
    exact ⟨rfl, HA2.out, (GB.of HB.out).trans HG2.out⟩

set_option maxRecDepth 100000 in
set_option maxHeartbeats 2000000 in
theorem enter_any {g d : Nat} {s : PS} {w : World} (h : At g d s w) (hd : d ≤ 100) :
    Calls Tryz.prog 82 #[.pointer (some ⟨g, 0, none⟩)] w (if d = 100 then Post g d w (.bool false) (s.fail 4) else Post g (d + 1) w (.bool true) s) := by
  obtain ⟨b, o, c, c0, c1, c2, c3, fz, hr, hc⟩ := h.cells
  by_cases hk : d = 100
  · have hf := fail_any h (e := 4) (by decide)
    rw [if_pos hk]
    have e1 : ((d : Int) == 100) = true := by simp; omega
    clear h
    go_enter Tryz.func82, Tryz.ntmps82
    go_wp2_with (first | (go_at_call 136; refine hf.mono ?_; rintro e w2 ⟨rfl, ha2, hg2⟩; have HA2 := Lib.hid ha2; have HG2 := Lib.hid hg2; clear ha2 hg2))
    go_ret
    exact ⟨rfl, HA2.out, HG2.out⟩
  · rw [if_neg hk]
    have e1 : ((d : Int) == 100) = false := by simp; omega
    have hdi : (d : Int) ≤ 100 := by omega
    have HA := Lib.hid h
    clear h hk
    go_enter Tryz.func82, Tryz.ntmps82
    go_wp2
    go_ret
    exact ⟨rfl, HA.out.set1 (by omega), GB.set _ _ _⟩

set_option maxRecDepth 100000 in
set_option maxHeartbeats 2000000 in
theorem leave_d {g d : Nat} {s : PS} {w : World} (h : At g (d + 1) s w) (hd : d ≤ 100) (u : FrameMode) :
    CallsD Tryz.prog 83 #[.pointer (some ⟨g, 0, none⟩)] u w fun e u' w' => u' = u ∧ Post g d w (.tuple #[]) s e w' := by
  obtain ⟨b, o, c, c0, c1, c2, c3, fz, hr, hc⟩ := h.cells
  have hdi : (d : Int) ≤ 100 := by omega
  have HA := Lib.hid h
  have c1' : w.cell? ⟨g, 1, none⟩ = some (.int .i64 ((d : Int) + 1)) := by rw [c1]; rfl
  clear h c1 hd
  go_enter_d Tryz.func83, Tryz.ntmps83
  go_wp2
  go_end0
  exact ⟨rfl, HA.out.set1 (by omega), GB.set _ _ _⟩

set_option maxRecDepth 100000 in
set_option maxHeartbeats 2000000 in
theorem isMember_any (N : Nd) (w : World) :
    Calls Tryz.prog 192 #[.agg (ncs N)] w fun e w' => e = .returned (.bool (N.kind == 15 || N.kind == 16)) ∧ Below w.heap.size w w' := by
  have ck := (Blk.new w (ncs N) 27).cell 0
  rw [ncs_0] at ck
  cases h2 : N.kind == 15 with
  | true =>
    go_enter Tryz.func192, Tryz.ntmps192
    go_wp2
    go_ret
    exact ⟨rfl, bel1⟩
  | false =>
    go_enter Tryz.func192, Tryz.ntmps192
    go_wp2
    go_ret
    exact ⟨rfl, bel1⟩

set_option maxRecDepth 100000 in
set_option maxHeartbeats 2000000 in
theorem node_any (k : Int) (a : Option Addr) (n c : Nat) (w : World) :
    Calls Tryz.prog 22 #[.int .i64 k, .slice a n c] w fun e w' => e = .returned (.agg (ncs (kidN k ⟨a, n, c⟩))) ∧ w' = w.alloc (.cells (ncs (kidN k ⟨a, n, c⟩)) 27) := by
  go_enter Tryz.func22, Tryz.ntmps22
  go_wp2
  exact bodyPost_ret (res_N rfl _ _ w.heap.size _ rfl (Blk.new w _ _)) rfl ⟨rfl, rfl⟩
end Go.Proofs.YtkknglmpdmhhjaaGreatDoor.Pa
