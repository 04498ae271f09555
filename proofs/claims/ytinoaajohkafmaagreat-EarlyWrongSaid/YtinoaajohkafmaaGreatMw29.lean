/-
  The reference's parser: unary, entered.
-/
import Derived.Test.YtinoaajohkafmaaGreatMw21
import Derived.Test.YtinoaajohkafmaaGreatMw05
namespace Go.Proofs.YtinoaajohkafmaaGreat.Rp
open Go Go.RowKit Go.Proofs.YtinoaajohkafmaaGreat.Uni Go.Proofs.YtinoaajohkafmaaGreat.Pa
open Go.Proofs.YtinoaajohkafmaaGreat.Lx
set_option linter.unusedVariables false
set_option linter.unusedSimpArgs false
attribute [local go_sem ↓] ldK stK alK bdK bsK ldN stN alN bdN bsN
attribute [local irreducible] kcs ncs ncells
attribute [local go_sem] run_alK run_bdK0 run_bdKs run_bdKn run_bdKe run_bsK run_fdK0 run_fdK1 run_fdK2 run_fdK3 run_fdN4 run_alN run_stNg run_ldNg run_bdN0 run_bdN04 run_bdN02 run_bdN01 run_bdN024 run_bdN03 run_bdN0234 run_bsN1 run_bsN2 run_bsN3
def PostC (d : Nat) (L : Low) : Prop := ∀ {g : Nat} {s : PS} {w : World}, At g d s w → Calls Tryz.prog 124 #[.pointer (some ⟨g, 0, none⟩)] w (PostN g d w (rpostF L s))
def pre_cs : Array Value := #[.string ⟨#[33]⟩, .string ⟨#[45]⟩, .string ⟨#[116, 121, 112, 101, 111, 102]⟩, .string ⟨#[100, 101, 108, 101, 116, 101]⟩]
def pre_ws : List By := [[33], [45], [116, 121, 112, 101, 111, 102], [100, 101, 108, 101, 116, 101]]
theorem bs4 (ps : Array (Nat × Value)) : Instr.buildSlice 22 4 ps = Lx.BsS 4 ps := (rfl)
theorem run_pre (w : World) : (Lx.BsS 4 #[(0, .string ⟨#[33]⟩), (1, .string ⟨#[45]⟩), (2, .string ⟨#[116, 121, 112, 101, 111, 102]⟩), (3, .string ⟨#[100, 101, 108, 101, 116, 101]⟩)]).run Tryz.prog w = .ok (.slice (some ⟨w.heap.size, 0, none⟩) 4 4) (w.alloc (.cells pre_cs 9)) := by
  obtain ⟨i, hi, hz, hs, hb⟩ := info_parts Lx.infoS
  exact run_buildSlice w 22 9 4 _ pre_cs i (.string ⟨#[]⟩) Tryz.underlying22 hi hz (by rw [hs]; decide) (by rw [hs]; decide) (by rw [hs]; kernel_rfl)
theorem pre_has (x : ByteArray) : hasF prefixT x = decide (x.data.toList ∈ pre_ws) := by
  have e : partsF [] prefixT.data.toList = pre_ws := by decide
  unfold hasF
  rw [e]
  exact List.contains_eq_mem _ _
theorem cell_upU {w : World} {b i : Nat} {v : Value} (h : w.cell? ⟨b, i, none⟩ = some v) (o : Obj) : (w.alloc o).cell? ⟨b, i, none⟩ = some v := (World.cell?_alloc_past _ _ _ (World.block_lt_of_cell? w _ h)).trans h
theorem rep_kind {S : Nat → Prop} {w : World} {T : Tree} {N : Nd} (h : Rep S w T N) : N.kind = T.kind := by
  cases T
  unfold Rep at h
  exact h.1
theorem gb_cellU {g : Nat} {w w' : World} (h : GB g w w') {b i : Nat} {v : Value} (hb : w.cell? ⟨b, i, none⟩ = some v) (hne : b ≠ g) : w'.cell? ⟨b, i, none⟩ = some v := by
  have e := h.block b (World.block_lt_of_cell? w _ hb) (by simpa using hne)
  simp only [World.cell?, e] at hb ⊢
  exact hb
theorem PostS.gb {S : Nat → Prop} {g d : Nat} {w w' : World} {R : Tree × PS} {e : Ending} (h : PostS S g d w R e w') : GB g w w' := by
  obtain ⟨_, _, _, _, hg⟩ := h
  exact hg
theorem pre_at {w : World} {b : Nat} (h : Blk w b pre_cs 9) : ∀ k, k < 4 → w.cell? ⟨b, k, none⟩ = some (.string (bs (pre_ws.getD k []))) := Lx.cs_at (ws := pre_ws) rfl h
theorem mark_cases {T : Tok} {x : Bool} (h : (markF T && x) = true) : x = true ∧ ((T.kind == 5) = true ∨ ((T.kind == 5) = false ∧ (T.kind == 2) = true)) := by
  unfold markF at h
  cases h2 : (T.kind == 2) <;> cases h5 : (T.kind == 5) <;> simp_all
theorem mark_not {T : Tok} {x : Bool} (h : (markF T && x) = false) : ((T.kind == 5) = false ∧ (T.kind == 2) = false) ∨ (x = false ∧ ((T.kind == 5) = true ∨ ((T.kind == 5) = false ∧ (T.kind == 2) = true))) := by
  unfold markF at h
  cases h2 : (T.kind == 2) <;> cases h5 : (T.kind == 5) <;> simp_all
attribute [local go_sem ↓] bs4
attribute [local go_sem] run_pre run_stKg
set_option maxRecDepth 100000 in
set_option maxHeartbeats 4000000 in
theorem un_fail {d : Nat} {L : Low} (hL : LowC (d + 1) L) (hd : d < 100) {g : Nat} {s : PS} {w : World} (h : At g d s w) (hf : s.fault = 0) (hs : seesOneF prefixT s = true) {X : Tree × PS} (hX : L.un s.take = X)  (h0 : X.2.fault = 0) (h1 : (s.next.text.toList == [100, 101, 108, 101, 116, 101]) = true) (h2 : memberB X.1 = false) :
    Calls Tryz.prog 113 #[.pointer (some ⟨g, 0, none⟩)] w (PostN g d w (.mk 19 0 s.next.text [] [X.1], X.2.fail 2)) := by
  obtain ⟨hh, hm⟩ := mark_cases (T := s.next) (x := hasF prefixT s.next.text) hs
  rw [pre_has, ← ByteArray.toList_eq] at hh
  have hk := one_kind hs
  have HH := Lib.hid hh
  have HK := Lib.hid hk
  have HX := Lib.hid hX
  clear hs hh hk hX
  have hq : ∀ k : Int, X.1.kind = k → (k != 15) = true ∧ (k != 16) = true := fun k hk => by unfold memberB at h2; rw [hk] at h2; cases h15 : (k == 15) <;> cases h16 : (k == 16) <;> simp_all
  have HQ := Lib.hid hq
  have H0 := Lib.hid h0
  clear h0 h2 hq
  have E0 := (Env.start h).new zeroN
  have c1 := enter_t E0.at_ hf hd
  have HE0 := Lib.hid E0
  have HF := Lib.hid hf
  clear E0 h hf
  rcases hm with h5 | ⟨h5, h5b⟩
  all_goals (
    go_enter Tryz.func113, Tryz.ntmps113
    go_wp2_with (first | (go_at_call 61; (with_reducible refine c1.mono ?_); intro e w1 hp; obtain ⟨rfl, E1⟩ := HE0.out.call hp; have E1 := E1.new zeroN; have c2 := now_any E1.at_ HF.out; have HE1 := Lib.hid E1; clear hp E1) | (go_at_call 36; (with_reducible refine c2.mono ?_); intro e w2 hp; obtain ⟨rfl, E2⟩ := HE1.out.callR hp; have hlt2 := HE1.out.at_.lt; have hb5 : w2.heap.size ≠ g := (by have := E2.gl; have := E2.size; omega); have E2 := E2.alloc (.cells (kcs s.next) 73); have t0 := ((Blk.new w2 (kcs s.next) 73).cell 0).trans (kcs_0 s.next); have t3 := (((Blk.new w2 (kcs s.next) 73).old (.cells pre_cs 9)).cell 3).trans (kcs_3 s.next); have E3 := E2.alloc (.cells pre_cs 9); have ch := Lx.has_any (w2.heap.size + 1) 4 pre_ws s.next.text ((w2.alloc (.cells (kcs s.next) 73)).alloc (.cells pre_cs 9)) rfl (by decide) (pre_at (blk_2 w2 _ _ _ _)); rw [HH.out] at ch; obtain ⟨k, k5, a1, af, E4⟩ := E3.adv HK.out; have t3w : (((w2.alloc (.cells (kcs s.next) 73)).alloc (.cells pre_cs 9)).setCell ⟨g, 1, none⟩ (.int .i64 ((k : Int) + 1))).cell? ⟨w2.heap.size, 3, none⟩ = some (.string s.next.text) := (by rw [World.cell?_setCell_other _ _ _ _ (by simp)]; exact t3); have c5 := hL.un E4.at_; have HE4 := Lib.hid E4; clear E4; clear hp E2 E3) | (go_at_call 53; (with_reducible refine ch.mono ?_); rintro e w3 ⟨rfl, rfl⟩) | (go_at_call 113; (with_reducible refine c5.mono ?_); intro e w5 hp; have t3z := gb_cellU (PostS.gb hp) t3w hb5; have t3y := fun o : Obj => cell_upU t3z o; rw [HX.out] at hp; obtain ⟨N5, rfl, E5⟩ := HE4.out.callN hp; have t3a := t3y (.cells (ncs N5) 25); have t3c := fun o : Obj => cell_upU t3a o; have E5 := E5.new N5; have kc := E5.c0 0 rfl; obtain ⟨q15, q16⟩ := HQ.out N5.kind (rep_kind (E5.rp _ List.mem_cons_self)).symm; have x3 := E5.e30 H0.out; have cf := fail_any E5.at_ (e := 2) (by decide); have HT3 := Lib.hid t3a; have HE5 := Lib.hid E5; clear hp E5 t3z t3y) | (go_at_call 78; (with_reducible refine cf.mono ?_); intro e w6 hp; have t3b := gb_cellU hp.2.2 HT3.out hb5; obtain ⟨rfl, E6⟩ := HE5.out.call hp; have l6 := E6.ld 0 rfl; have E7 := E6.kids1 List.mem_cons_self 19 0 s.next.text; have s7 := E7.sto 1 rfl; have E8 := (E7.store 1 rfl ⟨19, 0, s.next.text, nilSl, newSl w6.heap.size 1⟩).only List.mem_cons_self; obtain ⟨D, M, dc, df, dw, EZ⟩ := E8.deep hd; have lz := EZ.ld 1 rfl; have sz := EZ.sto 2 rfl; have HEZ := Lib.hid EZ; clear hp E6 E7 E8 EZ))
    exact ((HEZ.out.store 2 rfl _).fin (List.mem_cons_of_mem _ (List.mem_cons_of_mem _ List.mem_cons_self)) List.mem_cons_self rfl rfl))
set_option maxRecDepth 100000 in
set_option maxHeartbeats 4000000 in
theorem un_fine {d : Nat} {L : Low} (hL : LowC (d + 1) L) (hd : d < 100) {g : Nat} {s : PS} {w : World} (h : At g d s w) (hf : s.fault = 0) (hs : seesOneF prefixT s = true) {X : Tree × PS} (hX : L.un s.take = X)  (hn : X.2.fault ≠ 0 ∨ (X.2.fault = 0 ∧ (s.next.text.toList == [100, 101, 108, 101, 116, 101]) = false) ∨ (X.2.fault = 0 ∧ (s.next.text.toList == [100, 101, 108, 101, 116, 101]) = true ∧ memberB X.1 = true)) :
    Calls Tryz.prog 113 #[.pointer (some ⟨g, 0, none⟩)] w (PostN g d w (.mk 19 0 s.next.text [] [X.1], X.2)) := by
  obtain ⟨hh, hm⟩ := mark_cases (T := s.next) (x := hasF prefixT s.next.text) hs
  rw [pre_has, ← ByteArray.toList_eq] at hh
  have hk := one_kind hs
  have HH := Lib.hid hh
  have HK := Lib.hid hk
  have HX := Lib.hid hX
  clear hs hh hk hX
  have E0 := (Env.start h).new zeroN
  have c1 := enter_t E0.at_ hf hd
  have HE0 := Lib.hid E0
  have HF := Lib.hid hf
  clear E0 h hf
  obtain ⟨K, hK⟩ : ∃ K, X.1.kind = K := ⟨_, rfl⟩
  have hq : (X.2.fault == 0) = false ∨ ((X.2.fault == 0) = true ∧ (s.next.text.toList == [100, 101, 108, 101, 116, 101]) = false) ∨ ((X.2.fault == 0) = true ∧ (s.next.text.toList == [100, 101, 108, 101, 116, 101]) = true ∧ (K != 15) = false) ∨ ((X.2.fault == 0) = true ∧ (s.next.text.toList == [100, 101, 108, 101, 116, 101]) = true ∧ (K != 15) = true ∧ (K != 16) = false) := by
    rcases hn with h0 | ⟨h0, h1⟩ | ⟨h0, h1, h2⟩
    · exact .inl (by simpa using h0)
    · exact .inr (.inl ⟨by simpa using h0, h1⟩)
    · refine .inr (.inr ?_)
      unfold memberB at h2
      rw [hK] at h2
      cases h15 : (K == 15)
      · exact .inr ⟨by simpa using h0, h1, by simp_all, by simp_all⟩
      · exact .inl ⟨by simpa using h0, h1, by simp_all⟩
  have HKK := Lib.hid hK
  clear hK
  clear hn
  rcases hm with h5 | ⟨h5, h5b⟩ <;> rcases hq with q0 | ⟨q0, q1⟩ | ⟨q0, q1, q15⟩ | ⟨q0, q1, q15, q16⟩
  all_goals (
    go_enter Tryz.func113, Tryz.ntmps113
    go_wp2_with (first | (go_at_call 61; (with_reducible refine c1.mono ?_); intro e w1 hp; obtain ⟨rfl, E1⟩ := HE0.out.call hp; have E1 := E1.new zeroN; have c2 := now_any E1.at_ HF.out; have HE1 := Lib.hid E1; clear hp E1) | (go_at_call 36; (with_reducible refine c2.mono ?_); intro e w2 hp; obtain ⟨rfl, E2⟩ := HE1.out.callR hp; have hlt2 := HE1.out.at_.lt; have hb5 : w2.heap.size ≠ g := (by have := E2.gl; have := E2.size; omega); have E2 := E2.alloc (.cells (kcs s.next) 73); have t0 := ((Blk.new w2 (kcs s.next) 73).cell 0).trans (kcs_0 s.next); have t3 := (((Blk.new w2 (kcs s.next) 73).old (.cells pre_cs 9)).cell 3).trans (kcs_3 s.next); have E3 := E2.alloc (.cells pre_cs 9); have ch := Lx.has_any (w2.heap.size + 1) 4 pre_ws s.next.text ((w2.alloc (.cells (kcs s.next) 73)).alloc (.cells pre_cs 9)) rfl (by decide) (pre_at (blk_2 w2 _ _ _ _)); rw [HH.out] at ch; obtain ⟨k, k5, a1, af, E4⟩ := E3.adv HK.out; have t3w : (((w2.alloc (.cells (kcs s.next) 73)).alloc (.cells pre_cs 9)).setCell ⟨g, 1, none⟩ (.int .i64 ((k : Int) + 1))).cell? ⟨w2.heap.size, 3, none⟩ = some (.string s.next.text) := (by rw [World.cell?_setCell_other _ _ _ _ (by simp)]; exact t3); have c5 := hL.un E4.at_; have HE4 := Lib.hid E4; clear E4; clear hp E2 E3) | (go_at_call 53; (with_reducible refine ch.mono ?_); rintro e w3 ⟨rfl, rfl⟩) | (go_at_call 113; (with_reducible refine c5.mono ?_); intro e w5 hp; have t3z := gb_cellU (PostS.gb hp) t3w hb5; have t3y := fun o : Obj => cell_upU t3z o; rw [HX.out] at hp; obtain ⟨N5, rfl, E5⟩ := HE4.out.callN hp; have t3a := t3y (.cells (ncs N5) 25); have t3c := fun o : Obj => cell_upU t3a o; have E5 := E5.new N5; have kc := E5.c0 0 rfl; have hkd : K = N5.kind := HKK.out.symm.trans (rep_kind (E5.rp _ List.mem_cons_self)).symm; subst hkd; have x3 := E5.e3; have l6 := E5.ld 0 rfl; have E7 := E5.kids1 List.mem_cons_self 19 0 s.next.text; rw [show (w5.alloc (.cells (ncs N5) 25)).heap.size = w5.heap.size + 1 from by simp] at E7; have s7 := E7.sto 1 rfl; have E8 := (E7.store 1 rfl ⟨19, 0, s.next.text, nilSl, newSl (w5.heap.size + 1) 1⟩).only List.mem_cons_self; obtain ⟨D, M, dc, df, dw, EZ⟩ := E8.deep hd; have lz := EZ.ld 1 rfl; have sz := EZ.sto 2 rfl; have HEZ := Lib.hid EZ; clear E7 E8 EZ; have HE5 := Lib.hid E5; clear hp E5 t3z t3y))
    exact ((HEZ.out.store 2 rfl _).fin (List.mem_cons_of_mem _ (List.mem_cons_of_mem _ List.mem_cons_self)) List.mem_cons_self rfl rfl))
set_option maxRecDepth 100000 in
set_option maxHeartbeats 4000000 in
theorem un_post {d : Nat} {L : Low} (hP : PostC (d + 1) L) (hd : d < 100) {g : Nat} {s : PS} {w : World} (h : At g d s w) (hf : s.fault = 0) (hs : seesOneF prefixT s = false) :
    Calls Tryz.prog 113 #[.pointer (some ⟨g, 0, none⟩)] w (PostN g d w (rpostF L s)) := by
  have hm := mark_not (T := s.next) (x := hasF prefixT s.next.text) hs
  rw [pre_has, ← ByteArray.toList_eq] at hm
  clear hs
  have E0 := (Env.start h).new zeroN
  have c1 := enter_t E0.at_ hf hd
  have HE0 := Lib.hid E0
  have HF := Lib.hid hf
  clear E0 h hf
  rcases hm with ⟨h5, h2⟩ | ⟨hh, hm⟩
  · go_enter Tryz.func113, Tryz.ntmps113
    go_wp2_with (first | (go_at_call 61; (with_reducible refine c1.mono ?_); intro e w1 hp; obtain ⟨rfl, E1⟩ := HE0.out.call hp; have E1 := E1.new zeroN; have c2 := now_any E1.at_ HF.out; have HE1 := Lib.hid E1; clear hp E1) | (go_at_call 36; (with_reducible refine c2.mono ?_); intro e w2 hp; obtain ⟨rfl, E2⟩ := HE1.out.callR hp; have E3 := E2.alloc (.cells (kcs s.next) 73); have t0 := ((Blk.new w2 (kcs s.next) 73).cell 0).trans (kcs_0 s.next); have c5 := hP E3.at_; have HE3 := Lib.hid E3; clear hp E2 E3) | (go_at_call 124; (with_reducible refine c5.mono ?_); intro e w5 hp; obtain ⟨N5, rfl, E5⟩ := HE3.out.callN hp; have s5 := E5.sto 0 rfl; have E6 := E5.store 0 rfl N5; obtain ⟨D, M, dc, df, dw, EZ⟩ := E6.deep hd; have lz := EZ.ld 0 rfl; have sz := EZ.sto 1 rfl; have HEZ := Lib.hid EZ; clear hp E5 E6 EZ))
    exact ((HEZ.out.store 1 rfl _).fin (List.mem_cons_of_mem _ List.mem_cons_self) List.mem_cons_self rfl rfl)
  · have HH := Lib.hid hh
    clear hh
    rcases hm with h5 | ⟨h5, h5b⟩
    all_goals (
      go_enter Tryz.func113, Tryz.ntmps113
      go_wp2_with (first | (go_at_call 61; (with_reducible refine c1.mono ?_); intro e w1 hp; obtain ⟨rfl, E1⟩ := HE0.out.call hp; have E1 := E1.new zeroN; have c2 := now_any E1.at_ HF.out; have HE1 := Lib.hid E1; clear hp E1) | (go_at_call 36; (with_reducible refine c2.mono ?_); intro e w2 hp; obtain ⟨rfl, E2⟩ := HE1.out.callR hp; have hlt2 := HE1.out.at_.lt; have hb5 : w2.heap.size ≠ g := (by have := E2.gl; have := E2.size; omega); have E2 := E2.alloc (.cells (kcs s.next) 73); have t0 := ((Blk.new w2 (kcs s.next) 73).cell 0).trans (kcs_0 s.next); have t3 := (((Blk.new w2 (kcs s.next) 73).old (.cells pre_cs 9)).cell 3).trans (kcs_3 s.next); have E3 := E2.alloc (.cells pre_cs 9); have ch := Lx.has_any (w2.heap.size + 1) 4 pre_ws s.next.text ((w2.alloc (.cells (kcs s.next) 73)).alloc (.cells pre_cs 9)) rfl (by decide) (pre_at (blk_2 w2 _ _ _ _)); rw [HH.out] at ch; have c5 := hP E3.at_; have HE3 := Lib.hid E3; clear hp E2 E3) | (go_at_call 53; (with_reducible refine ch.mono ?_); rintro e w3 ⟨rfl, rfl⟩) | (go_at_call 124; (with_reducible refine c5.mono ?_); intro e w5 hp; obtain ⟨N5, rfl, E5⟩ := HE3.out.callN hp; have s5 := E5.sto 0 rfl; have E6 := E5.store 0 rfl N5; obtain ⟨D, M, dc, df, dw, EZ⟩ := E6.deep hd; have lz := EZ.ld 0 rfl; have sz := EZ.sto 1 rfl; have HEZ := Lib.hid EZ; clear hp E5 E6 EZ))
      exact ((HEZ.out.store 1 rfl _).fin (List.mem_cons_of_mem _ List.mem_cons_self) List.mem_cons_self rfl rfl))
theorem un_any {d : Nat} {L : Low} (hL : LowC (d + 1) L) (hP : PostC (d + 1) L) (hd : d < 100) {g : Nat} {s : PS} {w : World} (h : At g d s w) (hf : s.fault = 0) :
    Calls Tryz.prog 113 #[.pointer (some ⟨g, 0, none⟩)] w (PostN g d w (runF L s)) := by
  unfold runF
  cases hs : seesOneF prefixT s with
  | false => rw [if_neg (by decide)]; exact un_post hP hd h hf hs
  | true =>
    rw [if_pos rfl]
    obtain ⟨X, hX⟩ : ∃ X, L.un s.take = X := ⟨_, rfl⟩
    rw [hX]
    have e : eqT s.next.text ⟨#[100, 101, 108, 101, 116, 101]⟩ = (s.next.text.toList == [100, 101, 108, 101, 116, 101]) := by unfold eqT; rw [ByteArray.toList_eq]
    simp only
    rw [e]
    by_cases h0 : X.2.fault = 0
    · cases h1 : (s.next.text.toList == [100, 101, 108, 101, 116, 101]) with
      | false => rw [Bool.false_and, if_neg (by decide)]; exact un_fine hL hd h hf hs hX (.inr (.inl ⟨h0, h1⟩))
      | true =>
        cases h2 : memberB X.1 with
        | true => exact un_fine hL hd h hf hs hX (.inr (.inr ⟨h0, h1, h2⟩))
        | false => exact un_fail hL hd h hf hs hX h0 h1 h2
    · have e2 : (if ((s.next.text.toList == [100, 101, 108, 101, 116, 101]) && !memberB X.1) = true then X.2.fail 2 else X.2) = X.2 := by
        split
        · unfold PS.fail; rw [if_neg h0]
        · rfl
      rw [e2]
      exact un_fine hL hd h hf hs hX (.inl h0)
end Go.Proofs.YtinoaajohkafmaaGreat.Rp
