/-
  The reference's parser: the levels of binary operators.
-/
import Derived.Test.YtinoaajohkafmaaGreatMw21
import Derived.Test.YtinoaajohkafmaaGreatMw05
import Derived.BigQuiet
namespace Go.Proofs.YtinoaajohkafmaaGreat.Rp
open Go Go.RowKit Go.Proofs.YtinoaajohkafmaaGreat.Uni Go.Proofs.YtinoaajohkafmaaGreat.Pa
open Go.Proofs.YtinoaajohkafmaaGreat.Lx
set_option linter.unusedVariables false
set_option linter.unusedSimpArgs false
attribute [local go_sem ↓] ldK stK alK bdK bsK ldN stN alN bdN bsN
attribute [local irreducible] kcs ncs ncells
attribute [local go_sem] run_alK run_bdK0 run_bdKs run_bdKn run_bdKe run_bsK run_fdK0 run_fdK1 run_fdK2 run_fdK3 run_fdN4 run_alN run_stNg run_ldNg run_bdN0 run_bdN04 run_bdN02 run_bdN01 run_bdN024 run_bdN03 run_bdN0234 run_bsN1 run_bsN2 run_bsN3
attribute [local go_sem ↓] bsS
attribute [local go_sem] run_bsS1 run_stKg
theorem run_r2 (w : World) : (Pa.BsS 2 #[(0, .string ⟨#[61, 61, 61]⟩), (1, .string ⟨#[33, 61, 61]⟩)]).run Tryz.prog w = .ok (.slice (some ⟨w.heap.size, 0, none⟩) 2 2) (w.alloc (.cells #[.string ⟨#[61, 61, 61]⟩, .string ⟨#[33, 61, 61]⟩] 9)) := by
  obtain ⟨i, hi, hz, hs, hb⟩ := info_parts infoS3
  exact run_buildSlice w 22 9 2 _ _ i (.string noS) Tryz.underlying22 hi hz (by rw [hs]; decide) (by rw [hs]; decide) (by rw [hs]; kernel_rfl)
theorem run_r3 (w : World) : (Pa.BsS 5 #[(0, .string ⟨#[60]⟩), (1, .string ⟨#[62]⟩), (2, .string ⟨#[60, 61]⟩), (3, .string ⟨#[62, 61]⟩), (4, .string ⟨#[105, 110]⟩)]).run Tryz.prog w = .ok (.slice (some ⟨w.heap.size, 0, none⟩) 5 5) (w.alloc (.cells #[.string ⟨#[60]⟩, .string ⟨#[62]⟩, .string ⟨#[60, 61]⟩, .string ⟨#[62, 61]⟩, .string ⟨#[105, 110]⟩] 9)) := by
  obtain ⟨i, hi, hz, hs, hb⟩ := info_parts infoS3
  exact run_buildSlice w 22 9 5 _ _ i (.string noS) Tryz.underlying22 hi hz (by rw [hs]; decide) (by rw [hs]; decide) (by rw [hs]; kernel_rfl)
theorem run_r4 (w : World) : (Pa.BsS 2 #[(0, .string ⟨#[43]⟩), (1, .string ⟨#[45]⟩)]).run Tryz.prog w = .ok (.slice (some ⟨w.heap.size, 0, none⟩) 2 2) (w.alloc (.cells #[.string ⟨#[43]⟩, .string ⟨#[45]⟩] 9)) := by
  obtain ⟨i, hi, hz, hs, hb⟩ := info_parts infoS3
  exact run_buildSlice w 22 9 2 _ _ i (.string noS) Tryz.underlying22 hi hz (by rw [hs]; decide) (by rw [hs]; decide) (by rw [hs]; kernel_rfl)
theorem run_r5 (w : World) : (Pa.BsS 3 #[(0, .string ⟨#[42]⟩), (1, .string ⟨#[47]⟩), (2, .string ⟨#[37]⟩)]).run Tryz.prog w = .ok (.slice (some ⟨w.heap.size, 0, none⟩) 3 3) (w.alloc (.cells #[.string ⟨#[42]⟩, .string ⟨#[47]⟩, .string ⟨#[37]⟩] 9)) := by
  obtain ⟨i, hi, hz, hs, hb⟩ := info_parts infoS3
  exact run_buildSlice w 22 9 3 _ _ i (.string noS) Tryz.underlying22 hi hz (by rw [hs]; decide) (by rw [hs]; decide) (by rw [hs]; kernel_rfl)
theorem infoSS : (Tryz.prog.info? 22).map (fun i => (i.zero, i.size, i.bytes)) = some (some (.slice none 0 0), 1, 24) := by kernel_rfl
def BsL (n : Nat) (ps : Array (Nat × Value)) : Sem Value := Instr.buildSlice 115 n ps
theorem bsL (n : Nat) (ps : Array (Nat × Value)) : Instr.buildSlice 115 n ps = BsL n ps := (rfl)
def sl (b n : Nat) : Value := .slice (some ⟨b, 0, none⟩) n n
theorem run_bsL (w : World) (b0 b1 b2 b3 b4 b5 : Nat) : (BsL 6 #[(0, .slice (some ⟨b0, 0, none⟩) 1 1), (1, .slice (some ⟨b1, 0, none⟩) 1 1), (2, .slice (some ⟨b2, 0, none⟩) 2 2), (3, .slice (some ⟨b3, 0, none⟩) 5 5), (4, .slice (some ⟨b4, 0, none⟩) 2 2), (5, .slice (some ⟨b5, 0, none⟩) 3 3)]).run Tryz.prog w = .ok (.slice (some ⟨w.heap.size, 0, none⟩) 6 6) (w.alloc (.cells #[sl b0 1, sl b1 1, sl b2 2, sl b3 5, sl b4 2, sl b5 3] 22)) := by
  obtain ⟨i, hi, hz, hs, hb⟩ := info_parts infoSS
  exact run_buildSlice w 115 22 6 _ #[sl b0 1, sl b1 1, sl b2 2, sl b3 5, sl b4 2, sl b5 3] i (.slice none 0 0) Tryz.underlying115 hi hz (by rw [hs]; decide) (by rw [hs]; decide) (by rw [hs]; kernel_rfl)
attribute [local go_sem ↓] bsL
attribute [local go_sem] run_r2 run_r3 run_r4 run_r5 run_bsL
def levW : Nat → List By
  | 0 => [[124, 124]]
  | 1 => [[38, 38]]
  | 2 => [[61, 61, 61], [33, 61, 61]]
  | 3 => [[60], [62], [60, 61], [62, 61], [105, 110]]
  | 4 => [[43], [45]]
  | _ => [[42], [47], [37]]
def levN : Nat → Nat
  | 0 => 1
  | 1 => 1
  | 2 => 2
  | 3 => 5
  | 4 => 2
  | _ => 3
theorem six {n : Nat} (h : n < 6) : n = 0 ∨ n = 1 ∨ n = 2 ∨ n = 3 ∨ n = 4 ∨ n = 5 := by omega
theorem lev_has (n : Nat) (h : n < 6) (x : ByteArray) : hasF (levelT n) x = decide (x.toList ∈ levW n) := by
  have e : partsF [] (levelT n).data.toList = levW n := by rcases six h with rfl | rfl | rfl | rfl | rfl | rfl <;> decide
  unfold hasF
  rw [e, ByteArray.toList_eq]
  exact List.contains_eq_mem _ _
theorem lev_len (n : Nat) (h : n < 6) : (levW n).length = levN n ∧ levN n ≤ 5 := by rcases six h with rfl | rfl | rfl | rfl | rfl | rfl <;> decide
def levA (w : World) : World := ((((((w.alloc (.cells #[.string ⟨#[124, 124]⟩] 9)).alloc (.cells #[.string ⟨#[38, 38]⟩] 9)).alloc (.cells #[.string ⟨#[61, 61, 61]⟩, .string ⟨#[33, 61, 61]⟩] 9)).alloc (.cells #[.string ⟨#[60]⟩, .string ⟨#[62]⟩, .string ⟨#[60, 61]⟩, .string ⟨#[62, 61]⟩, .string ⟨#[105, 110]⟩] 9)).alloc (.cells #[.string ⟨#[43]⟩, .string ⟨#[45]⟩] 9)).alloc (.cells #[.string ⟨#[42]⟩, .string ⟨#[47]⟩, .string ⟨#[37]⟩] 9))
def levB (w : World) : World := (levA w).alloc (.cells #[sl w.heap.size 1, sl (w.heap.size + 1) 1, sl (w.heap.size + 1 + 1) 2, sl (w.heap.size + 1 + 1 + 1) 5, sl (w.heap.size + 1 + 1 + 1 + 1) 2, sl (w.heap.size + 1 + 1 + 1 + 1 + 1) 3] 22)
theorem levA_size (w : World) : (levA w).heap.size = w.heap.size + 1 + 1 + 1 + 1 + 1 + 1 := by unfold levA; simp
theorem levB_below (w : World) : Below w.heap.size w (levB w) := by
  unfold levB levA
  exact bl_alloc (bl_alloc (bl_alloc (bl_alloc (bl_alloc (bl_alloc bel1)))))
theorem cell_up {w : World} {b i : Nat} {v : Value} (h : w.cell? ⟨b, i, none⟩ = some v) (o : Obj) : (w.alloc o).cell? ⟨b, i, none⟩ = some v := (World.cell?_alloc_past _ _ _ (World.block_lt_of_cell? w _ h)).trans h
theorem lev_row (w : World) (n : Nat) (h : n < 6) : (levB w).cell? ⟨w.heap.size + 1 + 1 + 1 + 1 + 1 + 1, n, none⟩ = some (sl (w.heap.size + n) (levN n)) := by
  have := (Blk.new (levA w) #[sl w.heap.size 1, sl (w.heap.size + 1) 1, sl (w.heap.size + 1 + 1) 2, sl (w.heap.size + 1 + 1 + 1) 5, sl (w.heap.size + 1 + 1 + 1 + 1) 2, sl (w.heap.size + 1 + 1 + 1 + 1 + 1) 3] 22).cell n
  rw [levA_size] at this
  unfold levB
  rw [this]
  rcases six h with rfl | rfl | rfl | rfl | rfl | rfl <;> rfl
theorem lev_blk (w : World) (n : Nat) (h : n < 6) : Blk (levB w) (w.heap.size + n) (Lx.strs (levW n)).toArray 9 := by
  unfold levB levA
  rcases six h with rfl | rfl | rfl | rfl | rfl | rfl
  · have h := (Blk.new w #[.string ⟨#[124, 124]⟩] 9)
    exact (((((h.old (.cells #[.string ⟨#[38, 38]⟩] 9)).old (.cells #[.string ⟨#[61, 61, 61]⟩, .string ⟨#[33, 61, 61]⟩] 9)).old (.cells #[.string ⟨#[60]⟩, .string ⟨#[62]⟩, .string ⟨#[60, 61]⟩, .string ⟨#[62, 61]⟩, .string ⟨#[105, 110]⟩] 9)).old (.cells #[.string ⟨#[43]⟩, .string ⟨#[45]⟩] 9)).old (.cells #[.string ⟨#[42]⟩, .string ⟨#[47]⟩, .string ⟨#[37]⟩] 9)).old _
  · have h := (Blk.new (w.alloc (.cells #[.string ⟨#[124, 124]⟩] 9)) #[.string ⟨#[38, 38]⟩] 9)
    rw [show (w.alloc (.cells #[.string ⟨#[124, 124]⟩] 9)).heap.size = w.heap.size + 1 from by simp] at h
    exact ((((h.old (.cells #[.string ⟨#[61, 61, 61]⟩, .string ⟨#[33, 61, 61]⟩] 9)).old (.cells #[.string ⟨#[60]⟩, .string ⟨#[62]⟩, .string ⟨#[60, 61]⟩, .string ⟨#[62, 61]⟩, .string ⟨#[105, 110]⟩] 9)).old (.cells #[.string ⟨#[43]⟩, .string ⟨#[45]⟩] 9)).old (.cells #[.string ⟨#[42]⟩, .string ⟨#[47]⟩, .string ⟨#[37]⟩] 9)).old _
  · have h := (Blk.new ((w.alloc (.cells #[.string ⟨#[124, 124]⟩] 9)).alloc (.cells #[.string ⟨#[38, 38]⟩] 9)) #[.string ⟨#[61, 61, 61]⟩, .string ⟨#[33, 61, 61]⟩] 9)
    rw [show ((w.alloc (.cells #[.string ⟨#[124, 124]⟩] 9)).alloc (.cells #[.string ⟨#[38, 38]⟩] 9)).heap.size = w.heap.size + 2 from by simp] at h
    exact (((h.old (.cells #[.string ⟨#[60]⟩, .string ⟨#[62]⟩, .string ⟨#[60, 61]⟩, .string ⟨#[62, 61]⟩, .string ⟨#[105, 110]⟩] 9)).old (.cells #[.string ⟨#[43]⟩, .string ⟨#[45]⟩] 9)).old (.cells #[.string ⟨#[42]⟩, .string ⟨#[47]⟩, .string ⟨#[37]⟩] 9)).old _
  · have h := (Blk.new (((w.alloc (.cells #[.string ⟨#[124, 124]⟩] 9)).alloc (.cells #[.string ⟨#[38, 38]⟩] 9)).alloc (.cells #[.string ⟨#[61, 61, 61]⟩, .string ⟨#[33, 61, 61]⟩] 9)) #[.string ⟨#[60]⟩, .string ⟨#[62]⟩, .string ⟨#[60, 61]⟩, .string ⟨#[62, 61]⟩, .string ⟨#[105, 110]⟩] 9)
    rw [show (((w.alloc (.cells #[.string ⟨#[124, 124]⟩] 9)).alloc (.cells #[.string ⟨#[38, 38]⟩] 9)).alloc (.cells #[.string ⟨#[61, 61, 61]⟩, .string ⟨#[33, 61, 61]⟩] 9)).heap.size = w.heap.size + 3 from by simp] at h
    exact ((h.old (.cells #[.string ⟨#[43]⟩, .string ⟨#[45]⟩] 9)).old (.cells #[.string ⟨#[42]⟩, .string ⟨#[47]⟩, .string ⟨#[37]⟩] 9)).old _
  · have h := (Blk.new ((((w.alloc (.cells #[.string ⟨#[124, 124]⟩] 9)).alloc (.cells #[.string ⟨#[38, 38]⟩] 9)).alloc (.cells #[.string ⟨#[61, 61, 61]⟩, .string ⟨#[33, 61, 61]⟩] 9)).alloc (.cells #[.string ⟨#[60]⟩, .string ⟨#[62]⟩, .string ⟨#[60, 61]⟩, .string ⟨#[62, 61]⟩, .string ⟨#[105, 110]⟩] 9)) #[.string ⟨#[43]⟩, .string ⟨#[45]⟩] 9)
    rw [show ((((w.alloc (.cells #[.string ⟨#[124, 124]⟩] 9)).alloc (.cells #[.string ⟨#[38, 38]⟩] 9)).alloc (.cells #[.string ⟨#[61, 61, 61]⟩, .string ⟨#[33, 61, 61]⟩] 9)).alloc (.cells #[.string ⟨#[60]⟩, .string ⟨#[62]⟩, .string ⟨#[60, 61]⟩, .string ⟨#[62, 61]⟩, .string ⟨#[105, 110]⟩] 9)).heap.size = w.heap.size + 4 from by simp] at h
    exact (h.old (.cells #[.string ⟨#[42]⟩, .string ⟨#[47]⟩, .string ⟨#[37]⟩] 9)).old _
  · have h := (Blk.new (((((w.alloc (.cells #[.string ⟨#[124, 124]⟩] 9)).alloc (.cells #[.string ⟨#[38, 38]⟩] 9)).alloc (.cells #[.string ⟨#[61, 61, 61]⟩, .string ⟨#[33, 61, 61]⟩] 9)).alloc (.cells #[.string ⟨#[60]⟩, .string ⟨#[62]⟩, .string ⟨#[60, 61]⟩, .string ⟨#[62, 61]⟩, .string ⟨#[105, 110]⟩] 9)).alloc (.cells #[.string ⟨#[43]⟩, .string ⟨#[45]⟩] 9)) #[.string ⟨#[42]⟩, .string ⟨#[47]⟩, .string ⟨#[37]⟩] 9)
    rw [show (((((w.alloc (.cells #[.string ⟨#[124, 124]⟩] 9)).alloc (.cells #[.string ⟨#[38, 38]⟩] 9)).alloc (.cells #[.string ⟨#[61, 61, 61]⟩, .string ⟨#[33, 61, 61]⟩] 9)).alloc (.cells #[.string ⟨#[60]⟩, .string ⟨#[62]⟩, .string ⟨#[60, 61]⟩, .string ⟨#[62, 61]⟩, .string ⟨#[105, 110]⟩] 9)).alloc (.cells #[.string ⟨#[43]⟩, .string ⟨#[45]⟩] 9)).heap.size = w.heap.size + 5 from by simp] at h
    exact h.old _
theorem lev_sig (w : World) (n : Nat) (h : n < 6) : ∀ k, k < levN n → (levB w).cell? ⟨w.heap.size + n, k, none⟩ = some (.string (bs ((levW n).getD k []))) := fun k hk => Lx.cs_at (ws := levW n) rfl (lev_blk w n h) k (by rw [(lev_len n h).1]; exact hk)
theorem PostSgb {S : Nat → Prop} {g d : Nat} {w w' : World} {R : Tree × PS} {e : Ending} (h : PostS S g d w R e w') : GB g w w' := by
  obtain ⟨_, _, _, _, hg⟩ := h
  exact hg
theorem gb_cell {g : Nat} {w w' : World} (h : GB g w w') {b i : Nat} {v : Value} (hb : w.cell? ⟨b, i, none⟩ = some v) (hne : b ≠ g) : w'.cell? ⟨b, i, none⟩ = some v := by
  have e := h.block b (World.block_lt_of_cell? w _ hb) (by simpa using hne)
  simp only [World.cell?, e] at hb ⊢
  exact hb
def BinC (d : Nat) (F : PS → Tree × PS) (lv : Nat) : Prop := ∀ (g : Nat) (s : PS) (w : World) (i : Int), i = (lv : Int) → At g d s w → Calls Tryz.prog 104 #[.pointer (some ⟨g, 0, none⟩), .int .i64 i] w (PostN g d w (F s))
set_option maxRecDepth 100000 in
set_option maxHeartbeats 4000000 in
theorem bin_zero {d : Nat} {L : Low} (hL : LowC d L) : BinC d (binF L 0) 6 := by
  intro g s w i hi h
  subst hi
  have E0 := ((Env.start h).new zeroN).callB (levB_below _)
  have c0 := hL.un E0.at_
  have HE0 := Lib.hid E0
  clear E0 h
  unfold levB levA at c0 HE0
  rw [show (w.alloc (.cells (ncs zeroN) 25)).heap.size = w.heap.size + 1 from by simp] at c0 HE0
  go_enter Tryz.func104, Tryz.ntmps104
  go_wp2_with ((go_at_call 113; (with_reducible refine c0.mono ?_); intro e w1 hp; obtain ⟨N1, rfl, E1⟩ := HE0.out.callN hp; have s1 := E1.sto 0 rfl; have HE1 := Lib.hid E1; clear hp E1))
  exact ((HE1.out.store 0 rfl _).fin List.mem_cons_self List.mem_cons_self rfl rfl)
theorem op_lv {n : Nat} (h : n < 6) {s : PS} (hs : seesOneF (levelT n) s = true) (l r : Tree) : opF s.next.text l r = .mk (if n = 0 then 22 else if n = 1 then 21 else 20) 0 (if n < 2 then noS else s.next.text) [] [l, r] := by
  unfold seesOneF at hs
  rw [lev_has n h, Bool.and_eq_true] at hs
  have hm := of_decide_eq_true hs.2
  rw [ByteArray.toList_eq] at hm
  unfold opF eqT
  rcases six h with rfl | rfl | rfl | rfl | rfl | rfl <;> simp [levW] at hm
  · rw [hm]; rfl
  · rw [hm]; rfl
  · rcases hm with hm | hm <;> (rw [hm]; rfl)
  · rcases hm with hm | hm | hm | hm | hm <;> (rw [hm]; rfl)
  · rcases hm with hm | hm <;> (rw [hm]; rfl)
  · rcases hm with hm | hm | hm <;> (rw [hm]; rfl)
theorem binl_cons {lev : Nat} {F : PS → Tree × PS} {k : Nat} {l : Tree} {s : PS} (h : seesOneF (levelT lev) s = true) : binLoop lev F (k + 1) l s = binLoop lev F k (opF s.next.text l (F s.take).1) (F s.take).2 := by
  conv => lhs; unfold binLoop
  rw [h]; rfl
theorem binl_end {lev : Nat} {F : PS → Tree × PS} {k : Nat} {l : Tree} {s : PS} (h : seesOneF (levelT lev) s = false) : binLoop lev F k l s = (l, s) := by
  cases k with
  | zero => rfl
  | succ k => unfold binLoop; rw [h]; rfl
theorem one_bad {s : PS} (h : OkS s) (hf : s.fault ≠ 0) (x : ByteArray) : seesOneF x s = false := by
  have hn : s.next = stopK := by unfold PS.next; rw [h.st hf]; rfl
  unfold seesOneF
  rw [hn]
  rfl
theorem mk_yes {T : Tok} {x : Bool} (h : (markF T && x) = true) : x = true ∧ ((T.kind != 5) = false ∨ ((T.kind != 5) = true ∧ (T.kind != 2) = false)) := by
  unfold markF at h
  cases h2 : (T.kind == 2) <;> cases h5 : (T.kind == 5) <;> simp_all
theorem mk_no {T : Tok} {x : Bool} (h : (markF T && x) = false) : ((T.kind != 5) = true ∧ (T.kind != 2) = true) ∨ (x = false ∧ ((T.kind != 5) = false ∨ ((T.kind != 5) = true ∧ (T.kind != 2) = false))) := by
  unfold markF at h
  cases h2 : (T.kind == 2) <;> cases h5 : (T.kind == 5) <;> simp_all
structure BI (F : PS → Tree × PS) (lev : Nat) (g d : Nat) (w W7 wr : World) (R : Tree × PS) (T : Tree) (N : Nd) (b5 : Nat) (s : PS) (f : Nat) : Prop where
  env : Env g d s (fun _ => False) w wr [(b5, N), (w.heap.size, zeroN)] [(T, N)]
  gb1 : GB g W7 wr
  b5w : W7.heap.size ≤ b5
  fu : s.left.length ≤ f
  eq : R = binLoop lev F f T s
set_option maxRecDepth 100000 in
set_option maxHeartbeats 4000000 in
theorem bin_succ {d : Nat} {L : Low} (hL : LowC d L) {n : Nat} (hn : n < 6) (ih : BinC d (binF L n) (6 - n)) : BinC d (binF L (n + 1)) (5 - n) := by
  intro g s w i hi h
  obtain ⟨lv, hlv⟩ : ∃ lv, 5 - n = lv := ⟨_, rfl⟩
  have had := bin_adv hL.ad n
  obtain ⟨F, hF⟩ : ∃ F, binF L n = F := ⟨_, rfl⟩
  have hR0 : binF L (n + 1) s = binLoop lv F (F s).2.left.length (F s).1 (F s).2 := by
    conv => lhs; unfold binF
    rw [hF, hlv]
  rw [show 6 - n = lv + 1 from by omega, hF] at ih
  rw [hF] at had
  rw [hlv] at hi
  subst hi
  have hl6 : lv < 6 := by omega
  have hli : (lv : Int) ≤ 5 := by omega
  have hl0 : (0 : Int) ≤ (lv : Int) := by omega
  have hwr : IntKind.i64.wrap ((lv : Int) + 1) = (lv : Int) + 1 := by rw [IntKind.wrap_i64]; omega
  have e6 : ((lv : Int) == 6) = false := by simp; omega
  obtain ⟨R, hR⟩ : ∃ R, R = binF L (n + 1) s := ⟨_, rfl⟩
  rw [← hR]
  rw [hR0] at hR
  obtain ⟨X, hXe⟩ : ∃ X, F s = X := ⟨_, rfl⟩
  rw [hXe] at hR
  have hgl := h.lt
  have E0 := ((Env.start h).new zeroN).callB (levB_below _)
  have c0 := ih _ _ _ ((lv : Int) + 1) (by omega) E0.at_
  rw [hXe] at c0
  have hrow := lev_row (w.alloc (.cells (ncs zeroN) 25)) lv hl6
  have hsig := lev_sig (w.alloc (.cells (ncs zeroN) 25)) lv hl6
  obtain ⟨W7, hW7⟩ : ∃ W7, levB (w.alloc (.cells (ncs zeroN) 25)) = W7 := ⟨_, rfl⟩
  have hW7s : W7.heap.size = w.heap.size + 1 + 1 + 1 + 1 + 1 + 1 + 1 + 1 := by rw [← hW7]; unfold levB; simp [levA_size]
  rw [hW7] at hrow hsig
  rw [show (w.alloc (.cells (ncs zeroN) 25)).heap.size = w.heap.size + 1 from by simp] at hrow hsig
  have HW7 := Lib.hid hW7
  have HE0 := Lib.hid (show Env g d s (fun _ => False) w W7 [(w.heap.size, zeroN)] [] from hW7 ▸ E0)
  unfold levB levA at c0
  rw [show (w.alloc (.cells (ncs zeroN) 25)).heap.size = w.heap.size + 1 from by simp] at c0
  have hW7e := hW7
  unfold levB levA at hW7e
  rw [show (w.alloc (.cells (ncs zeroN) 25)).heap.size = w.heap.size + 1 from by simp] at hW7e
  have HWE := Lib.hid hW7e
  have HR := Lib.hid hR
  have HIH := Lib.hid ih
  have HAD := Lib.hid had
  have HRW := Lib.hid hrow
  have HSG := Lib.hid hsig
  clear E0 h hR hR0 hF hlv ih had hXe hn hW7 hW7e hrow hsig
  go_enter Tryz.func104, Tryz.ntmps104
  go_wp2_with (go_at_call 104; (with_reducible refine c0.mono ?_); intro e w1 hp; rw [HWE.out] at hp; have hg1 := PostSgb hp; obtain ⟨N1, rfl, E1⟩ := HE0.out.callN hp; have E1 := E1.new N1; have HG1 := Lib.hid (hg1.trans (GB.of (bel1 (o := .cells (ncs N1) 25)))); have HE1 := Lib.hid (E1.only List.mem_cons_self); have HS1 := Lib.hid hg1.size; clear hp E1 hg1)
  have hst : BI F lv g d w W7 (w1.alloc (.cells (ncs N1) 25)) R X.1 N1 w1.heap.size X.2 X.2.left.length := ⟨HE1.out, HG1.out, HS1.out, Nat.le_refl _, HR.out⟩
  have HST := Lib.hid hst
  clear hst c0
  go_loopw [] (fun wr => ∃ T N s f, BI F lv g d w W7 wr R T N w1.heap.size s f) (fun wr => measS g wr)
  case atStart => exact ⟨_, _, _, _, HST.out⟩
  case round =>
    obtain ⟨T, N, s', f, hI⟩ := hrel
    have hmeas := hI.env.at_.meas
    have hgr : g < w.heap.size := hgl
    have hrow := gb_cell hI.gb1 HRW.out (by omega)
    have hsig : ∀ k, k < levN lv → wr.cell? ⟨w.heap.size + 1 + lv, k, none⟩ = _ := fun k hk => gb_cell hI.gb1 (HSG.out k hk) (by omega)
    have hnl := (lev_len lv hl6).2
    by_cases hf : s'.fault = 0
    · have x3 := hI.env.e30 hf
      have cn := now_any hI.env.at_ hf
      rw [if_pos hf] at hmeas
      cases k1 : seesOneF (levelT lv) s' with
      | true =>
        obtain ⟨hh, hm⟩ := mk_yes (T := s'.next) (x := hasF (levelT lv) s'.next.text) k1
        rw [lev_has lv hl6] at hh
        have hk := one_kind k1
        obtain ⟨f', rfl⟩ : ∃ f', f = f' + 1 := ⟨f - 1, by have := hI.fu; have := hI.env.at_.ok.pos; omega⟩
        have he := hI.eq
        rw [binl_cons k1] at he
        obtain ⟨Y, hY⟩ : ∃ Y, F s'.take = Y := ⟨_, rfl⟩
        have hadv := ad_take (HAD.out s'.take) hI.env.at_.ok hk
        rw [hY] at he hadv
        have hop := op_lv hl6 k1 T Y.1
        have HI := Lib.hid hI
        have HH := Lib.hid hh
        have HK := Lib.hid hk
        have HY := Lib.hid hY
        have HV := Lib.hid hadv
        have HM := Lib.hid hmeas
        have HFU := Lib.hid hI.fu
        clear hI hh hk hY hadv hmeas k1 hf
        rcases (show lv = 0 ∨ lv = 1 ∨ 2 ≤ lv by omega) with e0 | e0 | e0
        · have hop2 : opF s'.next.text T Y.1 = .mk 22 0 ⟨#[]⟩ [] [T, Y.1] := by rw [hop]; rw [if_pos e0, if_pos (by omega)]; rfl
          have q0 : ((lv : Int) == 0) = true := by simp [e0]
          rw [hop2] at he
          have HEQ := Lib.hid he
          clear hop hop2 he e0
          rcases hm with m5 | ⟨m5, m2⟩
          all_goals (
            go_wp2_with (go_at_call 36; (with_reducible refine cn.mono ?_); intro e w2 hp; have hb2 := hp.2; obtain ⟨rfl, E2⟩ := HI.out.env.callR hp; have hr2 := cell_up (gb_cell (GB.of (g := g) hb2) hrow (by omega)) (.cells (kcs s'.next) 73); have t0 := ((Blk.new w2 (kcs s'.next) 73).cell 0).trans (kcs_0 s'.next); have t3 := ((Blk.new w2 (kcs s'.next) 73).cell 3).trans (kcs_3 s'.next); have hc : ∀ m, Calls Tryz.prog 53 #[sl (w.heap.size + 1 + lv) (levN lv), .string s'.next.text] ((w2.alloc (.cells (kcs s'.next) 73)).drewN m) (fun e w' => e = .returned (.bool true) ∧ w' = (w2.alloc (.cells (kcs s'.next) 73)).drewN m) := (fun m => by have := Lx.has_any (w.heap.size + 1 + lv) (levN lv) (levW lv) s'.next.text ((w2.alloc (.cells (kcs s'.next) 73)).drewN m) (lev_len lv hl6).1 (by omega) (fun k hk => cell_up (gb_cell (GB.of (g := g) hb2) (hsig k hk) (by omega)) _); rw [HH.out] at this; exact this.mono (fun e w' q => ⟨q.1, q.2.symm⟩)); have HC := Lib.hid hc; clear hc; have HE2 := Lib.hid (E2.alloc (.cells (kcs s'.next) 73)); have HB2 := Lib.hid hb2; clear hp hb2 E2)
            go_quiet ((go_at_call 53; exact Calls.quiet_of_same (HC.out _)))
            have E3 := HE2.out.drew nq
            have z3 : ((w2.alloc (.cells (kcs s'.next) 73)).drewN nq).cell? ⟨w2.heap.size, 3, none⟩ = some (.string s'.next.text) := t3
            obtain ⟨k, k5, a1, af, E4⟩ := E3.adv HK.out
            have z4 : (((w2.alloc (.cells (kcs s'.next) 73)).drewN nq).setCell ⟨g, 1, none⟩ (.int .i64 ((k : Int) + 1))).cell? ⟨w2.heap.size, 3, none⟩ = some (.string s'.next.text) := by rw [World.cell?_setCell_other _ _ _ _ (by simp)]; exact z3
            have hsz2 := HB2.out.size
            have hwr0 := HI.out.env.size
            have hb5g : w2.heap.size ≠ g := by omega
            have c5 := HIH.out _ _ _ ((lv : Int) + 1) (by omega) E4.at_
            rw [HY.out] at c5
            have HE4 := Lib.hid E4
            clear E3 E4 hr2
            go_wp2_with (first | (go_at_call 104; (with_reducible refine c5.mono ?_); intro e w5 hp; have hg5 := PostSgb hp; have z5 := cell_up (gb_cell hg5 z4 hb5g) ; obtain ⟨N5, rfl, E5⟩ := HE4.out.callN hp; have E5 := E5.new N5; have z6 := z5 (.cells (ncs N5) 25); have l5 := E5.ld 0 rfl; have l5a := E5.ld 1 rfl; have c6 := two_any (N := N) (N' := N5) (E5.rp _ (List.mem_cons_of_mem _ List.mem_cons_self)) (E5.rp _ List.mem_cons_self) 22 ⟨#[]⟩; have HG5 := Lib.hid hg5; have HE5 := Lib.hid E5; clear hp E5 hg5 z5) | (go_at_call 105; (with_reducible refine c6.mono ?_); intro e w6 hp; have hb6 : Below _ _ w6 := (by obtain ⟨_, _, _, hb⟩ := hp; exact hb); obtain ⟨N6, rfl, E6⟩ := HE5.out.callO hp (fun b h => h); have s6 := E6.sto 1 rfl; have HF := Lib.hid ((E6.store 1 rfl N6).only List.mem_cons_self).drop; have HB6 := Lib.hid hb6; clear hp E6 hb6))
            go_roundw
            case rel => exact ⟨_, _, _, f', HF.out, (((((((HI.out.gb1.trans (GB.of HB2.out)).trans (GB.of bel1)).drew nq).trans (GB.set _ _ _)).trans HG5.out).trans (GB.of bel1)).trans (GB.of HB6.out)).row _ HI.out.b5w, HI.out.b5w, by have := HV.out; have := HFU.out; omega, HEQ.out⟩
            case measure => rw [HF.out.at_.meas, HM.out]; have := HV.out; split <;> omega)
        · have hop2 : opF s'.next.text T Y.1 = .mk 21 0 ⟨#[]⟩ [] [T, Y.1] := by rw [hop]; rw [if_neg (by omega), if_pos e0, if_pos (by omega)]; rfl
          have q0 : ((lv : Int) == 0) = false := by simp [e0]
          have q1 : ((lv : Int) == 1) = true := by simp [e0]
          rw [hop2] at he
          have HEQ := Lib.hid he
          clear hop hop2 he e0
          rcases hm with m5 | ⟨m5, m2⟩
          all_goals (
            go_wp2_with (go_at_call 36; (with_reducible refine cn.mono ?_); intro e w2 hp; have hb2 := hp.2; obtain ⟨rfl, E2⟩ := HI.out.env.callR hp; have hr2 := cell_up (gb_cell (GB.of (g := g) hb2) hrow (by omega)) (.cells (kcs s'.next) 73); have t0 := ((Blk.new w2 (kcs s'.next) 73).cell 0).trans (kcs_0 s'.next); have t3 := ((Blk.new w2 (kcs s'.next) 73).cell 3).trans (kcs_3 s'.next); have hc : ∀ m, Calls Tryz.prog 53 #[sl (w.heap.size + 1 + lv) (levN lv), .string s'.next.text] ((w2.alloc (.cells (kcs s'.next) 73)).drewN m) (fun e w' => e = .returned (.bool true) ∧ w' = (w2.alloc (.cells (kcs s'.next) 73)).drewN m) := (fun m => by have := Lx.has_any (w.heap.size + 1 + lv) (levN lv) (levW lv) s'.next.text ((w2.alloc (.cells (kcs s'.next) 73)).drewN m) (lev_len lv hl6).1 (by omega) (fun k hk => cell_up (gb_cell (GB.of (g := g) hb2) (hsig k hk) (by omega)) _); rw [HH.out] at this; exact this.mono (fun e w' q => ⟨q.1, q.2.symm⟩)); have HC := Lib.hid hc; clear hc; have HE2 := Lib.hid (E2.alloc (.cells (kcs s'.next) 73)); have HB2 := Lib.hid hb2; clear hp hb2 E2)
            go_quiet ((go_at_call 53; exact Calls.quiet_of_same (HC.out _)))
            have E3 := HE2.out.drew nq
            have z3 : ((w2.alloc (.cells (kcs s'.next) 73)).drewN nq).cell? ⟨w2.heap.size, 3, none⟩ = some (.string s'.next.text) := t3
            obtain ⟨k, k5, a1, af, E4⟩ := E3.adv HK.out
            have z4 : (((w2.alloc (.cells (kcs s'.next) 73)).drewN nq).setCell ⟨g, 1, none⟩ (.int .i64 ((k : Int) + 1))).cell? ⟨w2.heap.size, 3, none⟩ = some (.string s'.next.text) := by rw [World.cell?_setCell_other _ _ _ _ (by simp)]; exact z3
            have hsz2 := HB2.out.size
            have hwr0 := HI.out.env.size
            have hb5g : w2.heap.size ≠ g := by omega
            have c5 := HIH.out _ _ _ ((lv : Int) + 1) (by omega) E4.at_
            rw [HY.out] at c5
            have HE4 := Lib.hid E4
            clear E3 E4 hr2
            go_wp2_with (first | (go_at_call 104; (with_reducible refine c5.mono ?_); intro e w5 hp; have hg5 := PostSgb hp; have z5 := cell_up (gb_cell hg5 z4 hb5g) ; obtain ⟨N5, rfl, E5⟩ := HE4.out.callN hp; have E5 := E5.new N5; have z6 := z5 (.cells (ncs N5) 25); have l5 := E5.ld 0 rfl; have l5a := E5.ld 1 rfl; have c6 := two_any (N := N) (N' := N5) (E5.rp _ (List.mem_cons_of_mem _ List.mem_cons_self)) (E5.rp _ List.mem_cons_self) 21 ⟨#[]⟩; have HG5 := Lib.hid hg5; have HE5 := Lib.hid E5; clear hp E5 hg5 z5) | (go_at_call 105; (with_reducible refine c6.mono ?_); intro e w6 hp; have hb6 : Below _ _ w6 := (by obtain ⟨_, _, _, hb⟩ := hp; exact hb); obtain ⟨N6, rfl, E6⟩ := HE5.out.callO hp (fun b h => h); have s6 := E6.sto 1 rfl; have HF := Lib.hid ((E6.store 1 rfl N6).only List.mem_cons_self).drop; have HB6 := Lib.hid hb6; clear hp E6 hb6))
            go_roundw
            case rel => exact ⟨_, _, _, f', HF.out, (((((((HI.out.gb1.trans (GB.of HB2.out)).trans (GB.of bel1)).drew nq).trans (GB.set _ _ _)).trans HG5.out).trans (GB.of bel1)).trans (GB.of HB6.out)).row _ HI.out.b5w, HI.out.b5w, by have := HV.out; have := HFU.out; omega, HEQ.out⟩
            case measure => rw [HF.out.at_.meas, HM.out]; have := HV.out; split <;> omega)
        · have hop2 : opF s'.next.text T Y.1 = .mk 20 0 s'.next.text [] [T, Y.1] := by rw [hop]; rw [if_neg (by omega), if_neg (by omega), if_neg (by omega)]
          have q0 : ((lv : Int) == 0) = false := by simp; omega
          have q1 : ((lv : Int) == 1) = false := by simp; omega
          rw [hop2] at he
          have HEQ := Lib.hid he
          clear hop hop2 he e0
          rcases hm with m5 | ⟨m5, m2⟩
          all_goals (
            go_wp2_with (go_at_call 36; (with_reducible refine cn.mono ?_); intro e w2 hp; have hb2 := hp.2; obtain ⟨rfl, E2⟩ := HI.out.env.callR hp; have hr2 := cell_up (gb_cell (GB.of (g := g) hb2) hrow (by omega)) (.cells (kcs s'.next) 73); have t0 := ((Blk.new w2 (kcs s'.next) 73).cell 0).trans (kcs_0 s'.next); have t3 := ((Blk.new w2 (kcs s'.next) 73).cell 3).trans (kcs_3 s'.next); have hc : ∀ m, Calls Tryz.prog 53 #[sl (w.heap.size + 1 + lv) (levN lv), .string s'.next.text] ((w2.alloc (.cells (kcs s'.next) 73)).drewN m) (fun e w' => e = .returned (.bool true) ∧ w' = (w2.alloc (.cells (kcs s'.next) 73)).drewN m) := (fun m => by have := Lx.has_any (w.heap.size + 1 + lv) (levN lv) (levW lv) s'.next.text ((w2.alloc (.cells (kcs s'.next) 73)).drewN m) (lev_len lv hl6).1 (by omega) (fun k hk => cell_up (gb_cell (GB.of (g := g) hb2) (hsig k hk) (by omega)) _); rw [HH.out] at this; exact this.mono (fun e w' q => ⟨q.1, q.2.symm⟩)); have HC := Lib.hid hc; clear hc; have HE2 := Lib.hid (E2.alloc (.cells (kcs s'.next) 73)); have HB2 := Lib.hid hb2; clear hp hb2 E2)
            go_quiet ((go_at_call 53; exact Calls.quiet_of_same (HC.out _)))
            have E3 := HE2.out.drew nq
            have z3 : ((w2.alloc (.cells (kcs s'.next) 73)).drewN nq).cell? ⟨w2.heap.size, 3, none⟩ = some (.string s'.next.text) := t3
            obtain ⟨k, k5, a1, af, E4⟩ := E3.adv HK.out
            have z4 : (((w2.alloc (.cells (kcs s'.next) 73)).drewN nq).setCell ⟨g, 1, none⟩ (.int .i64 ((k : Int) + 1))).cell? ⟨w2.heap.size, 3, none⟩ = some (.string s'.next.text) := by rw [World.cell?_setCell_other _ _ _ _ (by simp)]; exact z3
            have hsz2 := HB2.out.size
            have hwr0 := HI.out.env.size
            have hb5g : w2.heap.size ≠ g := by omega
            have c5 := HIH.out _ _ _ ((lv : Int) + 1) (by omega) E4.at_
            rw [HY.out] at c5
            have HE4 := Lib.hid E4
            clear E3 E4 hr2
            go_wp2_with (first | (go_at_call 104; (with_reducible refine c5.mono ?_); intro e w5 hp; have hg5 := PostSgb hp; have z5 := cell_up (gb_cell hg5 z4 hb5g) ; obtain ⟨N5, rfl, E5⟩ := HE4.out.callN hp; have E5 := E5.new N5; have z6 := z5 (.cells (ncs N5) 25); have l5 := E5.ld 0 rfl; have l5a := E5.ld 1 rfl; have c6 := two_any (N := N) (N' := N5) (E5.rp _ (List.mem_cons_of_mem _ List.mem_cons_self)) (E5.rp _ List.mem_cons_self) 20 s'.next.text; have HG5 := Lib.hid hg5; have HE5 := Lib.hid E5; clear hp E5 hg5 z5) | (go_at_call 105; (with_reducible refine c6.mono ?_); intro e w6 hp; have hb6 : Below _ _ w6 := (by obtain ⟨_, _, _, hb⟩ := hp; exact hb); obtain ⟨N6, rfl, E6⟩ := HE5.out.callO hp (fun b h => h); have s6 := E6.sto 1 rfl; have HF := Lib.hid ((E6.store 1 rfl N6).only List.mem_cons_self).drop; have HB6 := Lib.hid hb6; clear hp E6 hb6))
            go_roundw
            case rel => exact ⟨_, _, _, f', HF.out, (((((((HI.out.gb1.trans (GB.of HB2.out)).trans (GB.of bel1)).drew nq).trans (GB.set _ _ _)).trans HG5.out).trans (GB.of bel1)).trans (GB.of HB6.out)).row _ HI.out.b5w, HI.out.b5w, by have := HV.out; have := HFU.out; omega, HEQ.out⟩
            case measure => rw [HF.out.at_.meas, HM.out]; have := HV.out; split <;> omega)
      | false =>
        have he := hI.eq
        rw [binl_end k1] at he
        have hm := mk_no (T := s'.next) (x := hasF (levelT lv) s'.next.text) k1
        rw [lev_has lv hl6] at hm
        have HI := Lib.hid hI
        have HEQ := Lib.hid he
        clear hI he hmeas k1 hf
        rcases hm with ⟨m5, m2⟩ | ⟨hh, hm⟩
        · go_wp2_with (go_at_call 36; (with_reducible refine cn.mono ?_); intro e w2 hp; have hb2 := hp.2; obtain ⟨rfl, E2⟩ := HI.out.env.callR hp; have hr2 := cell_up (gb_cell (GB.of (g := g) hb2) hrow (by omega)) (.cells (kcs s'.next) 73); have t0 := ((Blk.new w2 (kcs s'.next) 73).cell 0).trans (kcs_0 s'.next); have t3 := ((Blk.new w2 (kcs s'.next) 73).cell 3).trans (kcs_3 s'.next); have HE2 := Lib.hid (E2.alloc (.cells (kcs s'.next) 73)); have HB2 := Lib.hid hb2; clear hp hb2 E2)
          go_quiet (fail)
          have E3 := HE2.out.drew nq
          have l3 := E3.ld 0 rfl
          have s3 := E3.sto 1 rfl
          have HE3 := Lib.hid E3
          clear E3 hr2
          go_wp2
          rw [HEQ.out]
          exact ((HE3.out.store 1 rfl _).fin (List.mem_cons_of_mem _ List.mem_cons_self) List.mem_cons_self rfl rfl)
        · have HH := Lib.hid hh
          clear hh
          rcases hm with m5 | ⟨m5, m2⟩
          all_goals (
            go_wp2_with (go_at_call 36; (with_reducible refine cn.mono ?_); intro e w2 hp; have hb2 := hp.2; obtain ⟨rfl, E2⟩ := HI.out.env.callR hp; have hr2 := cell_up (gb_cell (GB.of (g := g) hb2) hrow (by omega)) (.cells (kcs s'.next) 73); have t0 := ((Blk.new w2 (kcs s'.next) 73).cell 0).trans (kcs_0 s'.next); have t3 := ((Blk.new w2 (kcs s'.next) 73).cell 3).trans (kcs_3 s'.next); have hc : ∀ m, Calls Tryz.prog 53 #[sl (w.heap.size + 1 + lv) (levN lv), .string s'.next.text] ((w2.alloc (.cells (kcs s'.next) 73)).drewN m) (fun e w' => e = .returned (.bool false) ∧ w' = (w2.alloc (.cells (kcs s'.next) 73)).drewN m) := (fun m => by have := Lx.has_any (w.heap.size + 1 + lv) (levN lv) (levW lv) s'.next.text ((w2.alloc (.cells (kcs s'.next) 73)).drewN m) (lev_len lv hl6).1 (by omega) (fun k hk => cell_up (gb_cell (GB.of (g := g) hb2) (hsig k hk) (by omega)) _); rw [HH.out] at this; exact this.mono (fun e w' q => ⟨q.1, q.2.symm⟩)); have HC := Lib.hid hc; clear hc; have HE2 := Lib.hid (E2.alloc (.cells (kcs s'.next) 73)); have HB2 := Lib.hid hb2; clear hp hb2 E2)
            go_quiet ((go_at_call 53; exact Calls.quiet_of_same (HC.out _)))
            have E3 := HE2.out.drew nq
            have l3 := E3.ld 0 rfl
            have s3 := E3.sto 1 rfl
            have HE3 := Lib.hid E3
            clear E3 hr2
            go_wp2
            rw [HEQ.out]
            exact ((HE3.out.store 1 rfl _).fin (List.mem_cons_of_mem _ List.mem_cons_self) List.mem_cons_self rfl rfl))
    · have hq : (s'.fault == 0) = false := by simpa using hf
      have x3 := hI.env.e3
      have he := hI.eq
      rw [binl_end (one_bad hI.env.at_.ok hf _)] at he
      have l1 := hI.env.ld 0 rfl
      have s1 := hI.env.sto 1 rfl
      have HE := Lib.hid he
      have HE0 := Lib.hid hI.env
      clear hI he hf hmeas
      go_wp2
      rw [HE.out]
      exact ((HE0.out.store 1 rfl _).fin (List.mem_cons_of_mem _ List.mem_cons_self) List.mem_cons_self rfl rfl)
end Go.Proofs.YtinoaajohkafmaaGreat.Rp
