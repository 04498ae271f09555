/-
  reader.next.
-/
import Derived.Test.YtkknglmpdmhhjaaGreatDoorMg16
namespace Go.Proofs.YtkknglmpdmhhjaaGreatDoor.Lx
open Go Go.RowKit Go.Proofs.YtkknglmpdmhhjaaGreatDoor.Uni
set_option linter.unusedVariables false
set_option linter.unusedSimpArgs false
attribute [local go_sem ↓] ldK stK alK bdK
attribute [local irreducible] kcs
attribute [local go_sem] run_alK run_bdK0 run_bdKs run_bdKn run_bdKe

/-- What has been read, as a token, a bool and what is left. -/
def Got.tok : Got → Nat → Tok
  | .ok tk _, a => ⟨tk.kind, a, tk.num, tk.text⟩
  | .bad _, _ => zeroK
def Got.fine : Got → Bool
  | .ok _ _ => true
  | .bad _ => false
def Got.left : Got → By
  | .ok _ l => l
  | .bad l => l
theorem gotP_iff {g : Nat} {t : ByteArray} {a : Nat} {w : World} {R : Got} {e : Ending} {w' : World} : GotP g t a w R e w' ↔ (e = .returned (.tuple #[.agg (kcs (R.tok a)), .bool R.fine]) ∧ ∃ b, R.left = t.data.toList.drop b ∧ On g t b w w') := by
  cases R <;> rfl

/-- Behind the call that has read a token: it is laid into the result's cell. -/
theorem next_fin {g b0 : Nat} {t : ByteArray} {w w3 w4 : World} {R : Got} (hlt : g < w.heap.size) (h3 : GB g w w3) (hres : Blk w4 w.heap.size (kcs zeroK) 79) (hon : ∃ b, R.left = t.data.toList.drop b ∧ On g t b w3 w4) {fn : Func} {p q : Tmp} (hf : fn.results = #[.cell p 79, .tmp q]) {tmps : Array Value} (hp : tmps.getD p undef = .pointer (some ⟨w.heap.size, 0, none⟩)) (hq : tmps.getD q undef = .bool R.fine) : bodyPost Tryz.prog fn (GotP g t b0 w R) .ret ⟨tmps, []⟩ (w4.setRow w.heap.size (kcs (R.tok b0))) := by
  obtain ⟨b, h1, h2, h4, h5⟩ := hon
  refine bodyPost_ret (res_K hf _ _ w.heap.size _ _ hp hq (hres.row _)) rfl (gotP_iff.2 ⟨rfl, b, h1, h2, h4.row _ (by omega), (h3.trans h5).row _ (Nat.le_refl _)⟩)

set_option maxRecDepth 100000 in
set_option maxHeartbeats 4000000 in
theorem next_name (g : Nat) (t : ByteArray) (a b : Nat) (w : World) (hr : Rd w g t a) (ha : a ≤ t.size) (ht : t.size ≤ 1000000) (hF : Fa w) (hg : 7 ≤ g) (hsk : skipL (t.data.toList.drop a) = (true, t.data.toList.drop b)) (hb : b ≤ t.size) (c : UInt8) (r : By) (hl : t.data.toList.drop b = c :: r) (hc1 : leadN c.toNat = true) :
    Calls Tryz.prog 43 #[.pointer (some ⟨g, 0, none⟩)] w (GotP g t b w (nextF (t.data.toList.drop a))) := by
  have hlt : b < t.size := by
    rcases Nat.lt_or_ge b t.size with h | h
    · exact h
    · rw [List.drop_eq_nil_of_le (by rw [lsz]; exact h)] at hl; cases hl
  have hskip := fun (w' : World) (hb : Below w.heap.size w w') => skip_any g t a w' (hr.below hb) ha ht (hF.below hb).ml
  rw [hsk] at hskip
  have hgl := hr.lt
  have hnx : nextF (t.data.toList.drop a) = oneF (c :: r) := by unfold nextF; rw [hsk, hl]
  have hidx : ∀ w, (Instr.index 9 (.string (bs (c :: r))) (.int .i64 0)).run Tryz.prog w = .ok (.int .u8 (c.toNat : Nat)) w := by
    intro w
    have h := idx_at (bs (c :: r)) 0 (by rw [bs_size]; simp) 0 rfl w
    have e : B (bs (c :: r)) 0 = c.toNat := by unfold B; rw [bs_list]; rfl
    rw [e] at h
    exact h
  obtain ⟨y, hy⟩ : ∃ y, c.toNat = y := ⟨_, rfl⟩
  have hyi : (y : Int) ≤ 255 := by have := c.toNat_lt; omega
  have hem : (bs (c :: r)).toList.isEmpty = false := by rw [ByteArray.toList_eq, bs_list]; rfl
  have hem2 : (bs (c :: r)).toList ≠ [] := fun h => by rw [h] at hem; cases hem
  rw [hy] at hidx
  have hone : oneF (c :: r) = nameF (c :: r) := by simp only [oneF]; rw [if_pos hc1]
  rw [hy] at hc1
  have hc2 : digitN y = digitN y := rfl
  rw [hnx, hone]
  have tN : ∀ n, Blk ((w.alloc (.cells (kcs zeroK) 79)).drewN n) w.heap.size (kcs zeroK) 79 := fun n => Blk.drewN (Blk.new w _ _) n
  have HF := Lib.hid hF
  have HR := Lib.hid hr
  have HL := Lib.hid hl
  have HLT := Lib.hid hlt
  clear hnx hsk hF hr hl hlt hone
  go_enter Tryz.func43, Tryz.ntmps43
  go_wp2_with (first | (go_at_call 74; refine (hskip _ bel1).mono ?_; rintro e1 w1 ⟨rfl, b1, hb1, hon1⟩; refine Hid.out ?_))
  refine Lib.hid ?_
  have hbb : t.data.toList.drop b = t.data.toList.drop b1 := hb1
  have hb1l : b = b1 := by
    have h2 := congrArg List.length hbb
    rw [List.length_drop, List.length_drop, lsz] at h2
    have := hon1.1
    omega
  subst hb1l
  obtain ⟨-, hrd1, hgb1⟩ := hon1
  have hgw : GB g w w1 := (GB.of bel1).trans hgb1
  have ht1 : Blk w1 w.heap.size (kcs zeroK) 79 := (tN 0).gb hgb1 (by omega)
  have hF1 := HF.out.gb hg hgw
  have hrest := rest_any g t b w1 hrd1 hb ht
  rw [HL.out] at hrest
  have HGW := Lib.hid hgw
  have HT1 := Lib.hid ht1
  have HF1 := Lib.hid hF1
  have HR1 := Lib.hid hrd1
  clear hb1 hbb hgb1 hgw ht1 hF1 hrd1 hskip tN
  go_wp2_with (first | (go_at_call 75; refine hrest.mono ?_; rintro e2 w2 ⟨rfl, n1, rfl⟩) | (go_at_call 76; refine (start_any _ _).mono ?_; rintro e3 w3 ⟨rfl, rfl⟩; rw [hc1]) | (go_at_call 78; refine (digit_any _ _).mono ?_; rintro e3 w3 ⟨rfl, rfl⟩; rw [hc2]) | (go_at_call 77; refine (name_any g t b _ (HR1.out.drew n1) hb ht).mono ?_; rw [HL.out]; intro e3 w3 hpost; have hx := (gotP_iff.1 hpost).2; have ht3 : Blk w3 w.heap.size (kcs zeroK) 79 := (by obtain ⟨_, _, hq⟩ := hx; exact (HT1.out.drewN n1).gb hq.2.2 (by omega)); have sv := run_stK (t := Got.tok (nameF (c :: r)) b) ht3; obtain ⟨rfl, -⟩ := gotP_iff.1 hpost; have HX := Lib.hid hx; have HT3 := Lib.hid ht3; clear hx ht3 hpost))
  exact next_fin hgl (HGW.out.trans (GB.of (below_drewN (Below.refl _ _) n1))) HT3.out HX.out rfl rfl rfl

set_option maxRecDepth 100000 in
set_option maxHeartbeats 4000000 in
theorem next_numb (g : Nat) (t : ByteArray) (a b : Nat) (w : World) (hr : Rd w g t a) (ha : a ≤ t.size) (ht : t.size ≤ 1000000) (hF : Fa w) (hg : 7 ≤ g) (hsk : skipL (t.data.toList.drop a) = (true, t.data.toList.drop b)) (hb : b ≤ t.size) (c : UInt8) (r : By) (hl : t.data.toList.drop b = c :: r) (hc1 : leadN c.toNat = false) (hc2 : digitN c.toNat = true) :
    Calls Tryz.prog 43 #[.pointer (some ⟨g, 0, none⟩)] w (GotP g t b w (nextF (t.data.toList.drop a))) := by
  have hlt : b < t.size := by
    rcases Nat.lt_or_ge b t.size with h | h
    · exact h
    · rw [List.drop_eq_nil_of_le (by rw [lsz]; exact h)] at hl; cases hl
  have hskip := fun (w' : World) (hb : Below w.heap.size w w') => skip_any g t a w' (hr.below hb) ha ht (hF.below hb).ml
  rw [hsk] at hskip
  have hgl := hr.lt
  have hnx : nextF (t.data.toList.drop a) = oneF (c :: r) := by unfold nextF; rw [hsk, hl]
  have hidx : ∀ w, (Instr.index 9 (.string (bs (c :: r))) (.int .i64 0)).run Tryz.prog w = .ok (.int .u8 (c.toNat : Nat)) w := by
    intro w
    have h := idx_at (bs (c :: r)) 0 (by rw [bs_size]; simp) 0 rfl w
    have e : B (bs (c :: r)) 0 = c.toNat := by unfold B; rw [bs_list]; rfl
    rw [e] at h
    exact h
  obtain ⟨y, hy⟩ : ∃ y, c.toNat = y := ⟨_, rfl⟩
  have hyi : (y : Int) ≤ 255 := by have := c.toNat_lt; omega
  have hem : (bs (c :: r)).toList.isEmpty = false := by rw [ByteArray.toList_eq, bs_list]; rfl
  have hem2 : (bs (c :: r)).toList ≠ [] := fun h => by rw [h] at hem; cases hem
  rw [hy] at hidx
  have hone : oneF (c :: r) = numbF (c :: r) := by simp only [oneF]; rw [if_neg (by simp [hc1]), if_pos hc2]
  rw [hy] at hc1 hc2
  rw [hnx, hone]
  have tN : ∀ n, Blk ((w.alloc (.cells (kcs zeroK) 79)).drewN n) w.heap.size (kcs zeroK) 79 := fun n => Blk.drewN (Blk.new w _ _) n
  have HF := Lib.hid hF
  have HR := Lib.hid hr
  have HL := Lib.hid hl
  have HLT := Lib.hid hlt
  clear hnx hsk hF hr hl hlt hone
  go_enter Tryz.func43, Tryz.ntmps43
  go_wp2_with (first | (go_at_call 74; refine (hskip _ bel1).mono ?_; rintro e1 w1 ⟨rfl, b1, hb1, hon1⟩; refine Hid.out ?_))
  refine Lib.hid ?_
  have hbb : t.data.toList.drop b = t.data.toList.drop b1 := hb1
  have hb1l : b = b1 := by
    have h2 := congrArg List.length hbb
    rw [List.length_drop, List.length_drop, lsz] at h2
    have := hon1.1
    omega
  subst hb1l
  obtain ⟨-, hrd1, hgb1⟩ := hon1
  have hgw : GB g w w1 := (GB.of bel1).trans hgb1
  have ht1 : Blk w1 w.heap.size (kcs zeroK) 79 := (tN 0).gb hgb1 (by omega)
  have hF1 := HF.out.gb hg hgw
  have hrest := rest_any g t b w1 hrd1 hb ht
  rw [HL.out] at hrest
  have HGW := Lib.hid hgw
  have HT1 := Lib.hid ht1
  have HF1 := Lib.hid hF1
  have HR1 := Lib.hid hrd1
  clear hb1 hbb hgb1 hgw ht1 hF1 hrd1 hskip tN
  go_wp2_with (first | (go_at_call 75; refine hrest.mono ?_; rintro e2 w2 ⟨rfl, n1, rfl⟩) | (go_at_call 76; refine (start_any _ _).mono ?_; rintro e3 w3 ⟨rfl, rfl⟩; rw [hc1]) | (go_at_call 78; refine (digit_any _ _).mono ?_; rintro e3 w3 ⟨rfl, rfl⟩; rw [hc2]) | (go_at_call 79; refine (numb_any g t b _ (HR1.out.drew n1) hb ht (HF1.out.below (below_drewN (Below.refl _ _) n1)).lw).mono ?_; rw [HL.out]; intro e3 w3 hpost; have hx := (gotP_iff.1 hpost).2; have ht3 : Blk w3 w.heap.size (kcs zeroK) 79 := (by obtain ⟨_, _, hq⟩ := hx; exact (HT1.out.drewN n1).gb hq.2.2 (by omega)); have sv := run_stK (t := Got.tok (numbF (c :: r)) b) ht3; obtain ⟨rfl, -⟩ := gotP_iff.1 hpost; have HX := Lib.hid hx; have HT3 := Lib.hid ht3; clear hx ht3 hpost))
  exact next_fin hgl (HGW.out.trans (GB.of (below_drewN (Below.refl _ _) n1))) HT3.out HX.out rfl rfl rfl

set_option maxRecDepth 100000 in
set_option maxHeartbeats 4000000 in
theorem next_q34 (g : Nat) (t : ByteArray) (a b : Nat) (w : World) (hr : Rd w g t a) (ha : a ≤ t.size) (ht : t.size ≤ 1000000) (hF : Fa w) (hg : 7 ≤ g) (hsk : skipL (t.data.toList.drop a) = (true, t.data.toList.drop b)) (hb : b ≤ t.size) (c : UInt8) (r : By) (hl : t.data.toList.drop b = c :: r) (hc1 : leadN c.toNat = false) (hc2 : digitN c.toNat = false) (hc3 : c = 34) :
    Calls Tryz.prog 43 #[.pointer (some ⟨g, 0, none⟩)] w (GotP g t b w (nextF (t.data.toList.drop a))) := by
  have hlt : b < t.size := by
    rcases Nat.lt_or_ge b t.size with h | h
    · exact h
    · rw [List.drop_eq_nil_of_le (by rw [lsz]; exact h)] at hl; cases hl
  have hskip := fun (w' : World) (hb : Below w.heap.size w w') => skip_any g t a w' (hr.below hb) ha ht (hF.below hb).ml
  rw [hsk] at hskip
  have hgl := hr.lt
  have hnx : nextF (t.data.toList.drop a) = oneF (c :: r) := by unfold nextF; rw [hsk, hl]
  have hidx : ∀ w, (Instr.index 9 (.string (bs (c :: r))) (.int .i64 0)).run Tryz.prog w = .ok (.int .u8 (c.toNat : Nat)) w := by
    intro w
    have h := idx_at (bs (c :: r)) 0 (by rw [bs_size]; simp) 0 rfl w
    have e : B (bs (c :: r)) 0 = c.toNat := by unfold B; rw [bs_list]; rfl
    rw [e] at h
    exact h
  obtain ⟨y, hy⟩ : ∃ y, c.toNat = y := ⟨_, rfl⟩
  have hyi : (y : Int) ≤ 255 := by have := c.toNat_lt; omega
  have hem : (bs (c :: r)).toList.isEmpty = false := by rw [ByteArray.toList_eq, bs_list]; rfl
  have hem2 : (bs (c :: r)).toList ≠ [] := fun h => by rw [h] at hem; cases hem
  rw [hy] at hidx
  have hone : oneF (c :: r) = quotF y (c :: r) (r.length + 1) [] r := by simp only [oneF]; rw [if_neg (by simp [hc1]), if_neg (by simp [hc2]), if_pos (by simp [hc3]), hy]
  have hy2 : y = 34 := by rw [← hy, hc3]; rfl
  rw [hy] at hc1 hc2
  have hr1 : t.data.toList.drop (b + 1) = r := by rw [← List.drop_drop, hl]; rfl
  have hrl : r.length = t.size - (b + 1) := by rw [← hr1, List.length_drop, lsz]
  have e34 : ((y : Int) == 34) = true := by simp; omega
  have HQ : Hid (y < 128 ∧ t.size < b + 1 + (r.length + 1)) := Lib.hid ⟨by omega, by omega⟩
  obtain ⟨RQ, hRQ⟩ : ∃ RQ, quotF y (c :: r) (r.length + 1) [] r = RQ := ⟨_, rfl⟩
  have hquo := fun (w' : World) (h1 : Rd w' g t b) (h2 : Nums.Lw w') => quoted_any g t b y w' h1 hlt ht h2 HQ.out.1 (r.length + 1) HQ.out.2 RQ (by rw [hl, hr1]; exact hRQ)
  rw [hRQ] at hone
  clear hy2 hrl hr1 hc3 hRQ
  rw [hnx, hone]
  have tN : ∀ n, Blk ((w.alloc (.cells (kcs zeroK) 79)).drewN n) w.heap.size (kcs zeroK) 79 := fun n => Blk.drewN (Blk.new w _ _) n
  have HF := Lib.hid hF
  have HR := Lib.hid hr
  have HL := Lib.hid hl
  have HLT := Lib.hid hlt
  clear hnx hsk hF hr hl hlt hone
  go_enter Tryz.func43, Tryz.ntmps43
  go_wp2_with (first | (go_at_call 74; refine (hskip _ bel1).mono ?_; rintro e1 w1 ⟨rfl, b1, hb1, hon1⟩; refine Hid.out ?_))
  refine Lib.hid ?_
  have hbb : t.data.toList.drop b = t.data.toList.drop b1 := hb1
  have hb1l : b = b1 := by
    have h2 := congrArg List.length hbb
    rw [List.length_drop, List.length_drop, lsz] at h2
    have := hon1.1
    omega
  subst hb1l
  obtain ⟨-, hrd1, hgb1⟩ := hon1
  have hgw : GB g w w1 := (GB.of bel1).trans hgb1
  have ht1 : Blk w1 w.heap.size (kcs zeroK) 79 := (tN 0).gb hgb1 (by omega)
  have hF1 := HF.out.gb hg hgw
  have hrest := rest_any g t b w1 hrd1 hb ht
  rw [HL.out] at hrest
  have HGW := Lib.hid hgw
  have HT1 := Lib.hid ht1
  have HF1 := Lib.hid hF1
  have HR1 := Lib.hid hrd1
  clear hb1 hbb hgb1 hgw ht1 hF1 hrd1 hskip tN
  go_wp2_with (first | (go_at_call 75; refine hrest.mono ?_; rintro e2 w2 ⟨rfl, n1, rfl⟩) | (go_at_call 76; refine (start_any _ _).mono ?_; rintro e3 w3 ⟨rfl, rfl⟩; rw [hc1]) | (go_at_call 78; refine (digit_any _ _).mono ?_; rintro e3 w3 ⟨rfl, rfl⟩; rw [hc2]) | (go_at_call 80; refine (hquo _ (HR1.out.drew n1) (HF1.out.below (below_drewN (Below.refl _ _) n1)).lw).mono ?_; intro e3 w3 hpost; have hx := (gotP_iff.1 hpost).2; have ht3 : Blk w3 w.heap.size (kcs zeroK) 79 := (by obtain ⟨_, _, hq⟩ := hx; exact (HT1.out.drewN n1).gb hq.2.2 (by omega)); have sv := run_stK (t := Got.tok RQ b) ht3; obtain ⟨rfl, -⟩ := gotP_iff.1 hpost; have HX := Lib.hid hx; have HT3 := Lib.hid ht3; clear hx ht3 hpost))
  exact next_fin hgl (HGW.out.trans (GB.of (below_drewN (Below.refl _ _) n1))) HT3.out HX.out rfl rfl rfl

set_option maxRecDepth 100000 in
set_option maxHeartbeats 4000000 in
theorem next_q39 (g : Nat) (t : ByteArray) (a b : Nat) (w : World) (hr : Rd w g t a) (ha : a ≤ t.size) (ht : t.size ≤ 1000000) (hF : Fa w) (hg : 7 ≤ g) (hsk : skipL (t.data.toList.drop a) = (true, t.data.toList.drop b)) (hb : b ≤ t.size) (c : UInt8) (r : By) (hl : t.data.toList.drop b = c :: r) (hc1 : leadN c.toNat = false) (hc2 : digitN c.toNat = false) (hc3 : c = 39) :
    Calls Tryz.prog 43 #[.pointer (some ⟨g, 0, none⟩)] w (GotP g t b w (nextF (t.data.toList.drop a))) := by
  have hlt : b < t.size := by
    rcases Nat.lt_or_ge b t.size with h | h
    · exact h
    · rw [List.drop_eq_nil_of_le (by rw [lsz]; exact h)] at hl; cases hl
  have hskip := fun (w' : World) (hb : Below w.heap.size w w') => skip_any g t a w' (hr.below hb) ha ht (hF.below hb).ml
  rw [hsk] at hskip
  have hgl := hr.lt
  have hnx : nextF (t.data.toList.drop a) = oneF (c :: r) := by unfold nextF; rw [hsk, hl]
  have hidx : ∀ w, (Instr.index 9 (.string (bs (c :: r))) (.int .i64 0)).run Tryz.prog w = .ok (.int .u8 (c.toNat : Nat)) w := by
    intro w
    have h := idx_at (bs (c :: r)) 0 (by rw [bs_size]; simp) 0 rfl w
    have e : B (bs (c :: r)) 0 = c.toNat := by unfold B; rw [bs_list]; rfl
    rw [e] at h
    exact h
  obtain ⟨y, hy⟩ : ∃ y, c.toNat = y := ⟨_, rfl⟩
  have hyi : (y : Int) ≤ 255 := by have := c.toNat_lt; omega
  have hem : (bs (c :: r)).toList.isEmpty = false := by rw [ByteArray.toList_eq, bs_list]; rfl
  have hem2 : (bs (c :: r)).toList ≠ [] := fun h => by rw [h] at hem; cases hem
  rw [hy] at hidx
  have hone : oneF (c :: r) = quotF y (c :: r) (r.length + 1) [] r := by simp only [oneF]; rw [if_neg (by simp [hc1]), if_neg (by simp [hc2]), if_pos (by simp [hc3]), hy]
  have hy2 : y = 39 := by rw [← hy, hc3]; rfl
  rw [hy] at hc1 hc2
  have hr1 : t.data.toList.drop (b + 1) = r := by rw [← List.drop_drop, hl]; rfl
  have hrl : r.length = t.size - (b + 1) := by rw [← hr1, List.length_drop, lsz]
  have e34 : ((y : Int) == 34) = false := by simp; omega
  have e39 : ((y : Int) == 39) = true := by simp; omega
  have HQ : Hid (y < 128 ∧ t.size < b + 1 + (r.length + 1)) := Lib.hid ⟨by omega, by omega⟩
  obtain ⟨RQ, hRQ⟩ : ∃ RQ, quotF y (c :: r) (r.length + 1) [] r = RQ := ⟨_, rfl⟩
  have hquo := fun (w' : World) (h1 : Rd w' g t b) (h2 : Nums.Lw w') => quoted_any g t b y w' h1 hlt ht h2 HQ.out.1 (r.length + 1) HQ.out.2 RQ (by rw [hl, hr1]; exact hRQ)
  rw [hRQ] at hone
  clear hy2 hrl hr1 hc3 hRQ
  rw [hnx, hone]
  have tN : ∀ n, Blk ((w.alloc (.cells (kcs zeroK) 79)).drewN n) w.heap.size (kcs zeroK) 79 := fun n => Blk.drewN (Blk.new w _ _) n
  have HF := Lib.hid hF
  have HR := Lib.hid hr
  have HL := Lib.hid hl
  have HLT := Lib.hid hlt
  clear hnx hsk hF hr hl hlt hone
  go_enter Tryz.func43, Tryz.ntmps43
  go_wp2_with (first | (go_at_call 74; refine (hskip _ bel1).mono ?_; rintro e1 w1 ⟨rfl, b1, hb1, hon1⟩; refine Hid.out ?_))
  refine Lib.hid ?_
  have hbb : t.data.toList.drop b = t.data.toList.drop b1 := hb1
  have hb1l : b = b1 := by
    have h2 := congrArg List.length hbb
    rw [List.length_drop, List.length_drop, lsz] at h2
    have := hon1.1
    omega
  subst hb1l
  obtain ⟨-, hrd1, hgb1⟩ := hon1
  have hgw : GB g w w1 := (GB.of bel1).trans hgb1
  have ht1 : Blk w1 w.heap.size (kcs zeroK) 79 := (tN 0).gb hgb1 (by omega)
  have hF1 := HF.out.gb hg hgw
  have hrest := rest_any g t b w1 hrd1 hb ht
  rw [HL.out] at hrest
  have HGW := Lib.hid hgw
  have HT1 := Lib.hid ht1
  have HF1 := Lib.hid hF1
  have HR1 := Lib.hid hrd1
  clear hb1 hbb hgb1 hgw ht1 hF1 hrd1 hskip tN
  go_wp2_with (first | (go_at_call 75; refine hrest.mono ?_; rintro e2 w2 ⟨rfl, n1, rfl⟩) | (go_at_call 76; refine (start_any _ _).mono ?_; rintro e3 w3 ⟨rfl, rfl⟩; rw [hc1]) | (go_at_call 78; refine (digit_any _ _).mono ?_; rintro e3 w3 ⟨rfl, rfl⟩; rw [hc2]) | (go_at_call 80; refine (hquo _ (HR1.out.drew n1) (HF1.out.below (below_drewN (Below.refl _ _) n1)).lw).mono ?_; intro e3 w3 hpost; have hx := (gotP_iff.1 hpost).2; have ht3 : Blk w3 w.heap.size (kcs zeroK) 79 := (by obtain ⟨_, _, hq⟩ := hx; exact (HT1.out.drewN n1).gb hq.2.2 (by omega)); have sv := run_stK (t := Got.tok RQ b) ht3; obtain ⟨rfl, -⟩ := gotP_iff.1 hpost; have HX := Lib.hid hx; have HT3 := Lib.hid ht3; clear hx ht3 hpost))
  exact next_fin hgl (HGW.out.trans (GB.of (below_drewN (Below.refl _ _) n1))) HT3.out HX.out rfl rfl rfl

set_option maxRecDepth 100000 in
set_option maxHeartbeats 4000000 in
theorem next_sign (g : Nat) (t : ByteArray) (a b : Nat) (w : World) (hr : Rd w g t a) (ha : a ≤ t.size) (ht : t.size ≤ 1000000) (hF : Fa w) (hg : 7 ≤ g) (hsk : skipL (t.data.toList.drop a) = (true, t.data.toList.drop b)) (hb : b ≤ t.size) (c : UInt8) (r : By) (hl : t.data.toList.drop b = c :: r) (hc1 : leadN c.toNat = false) (hc2 : digitN c.toNat = false) (hc3 : c ≠ 34) (hc4 : c ≠ 39) :
    Calls Tryz.prog 43 #[.pointer (some ⟨g, 0, none⟩)] w (GotP g t b w (nextF (t.data.toList.drop a))) := by
  have hlt : b < t.size := by
    rcases Nat.lt_or_ge b t.size with h | h
    · exact h
    · rw [List.drop_eq_nil_of_le (by rw [lsz]; exact h)] at hl; cases hl
  have hskip := fun (w' : World) (hb : Below w.heap.size w w') => skip_any g t a w' (hr.below hb) ha ht (hF.below hb).ml
  rw [hsk] at hskip
  have hgl := hr.lt
  have hnx : nextF (t.data.toList.drop a) = oneF (c :: r) := by unfold nextF; rw [hsk, hl]
  have hidx : ∀ w, (Instr.index 9 (.string (bs (c :: r))) (.int .i64 0)).run Tryz.prog w = .ok (.int .u8 (c.toNat : Nat)) w := by
    intro w
    have h := idx_at (bs (c :: r)) 0 (by rw [bs_size]; simp) 0 rfl w
    have e : B (bs (c :: r)) 0 = c.toNat := by unfold B; rw [bs_list]; rfl
    rw [e] at h
    exact h
  obtain ⟨y, hy⟩ : ∃ y, c.toNat = y := ⟨_, rfl⟩
  have hyi : (y : Int) ≤ 255 := by have := c.toNat_lt; omega
  have hem : (bs (c :: r)).toList.isEmpty = false := by rw [ByteArray.toList_eq, bs_list]; rfl
  have hem2 : (bs (c :: r)).toList ≠ [] := fun h => by rw [h] at hem; cases hem
  rw [hy] at hidx
  have hone : oneF (c :: r) = signT (c :: r) := by simp only [oneF]; rw [if_neg (by simp [hc1]), if_neg (by simp [hc2]), if_neg (by simp [hc3, hc4])]
  have h34 : y ≠ 34 := fun h => hc3 (UInt8.toNat_inj.1 (by rw [hy, h]; rfl))
  have h39 : y ≠ 39 := fun h => hc4 (UInt8.toNat_inj.1 (by rw [hy, h]; rfl))
  have e34 : ((y : Int) == 34) = false := by simp; omega
  have e39 : ((y : Int) == 39) = false := by simp; omega
  rw [hy] at hc1 hc2
  clear h34 h39 hc3 hc4
  rw [hnx, hone]
  have tN : ∀ n, Blk ((w.alloc (.cells (kcs zeroK) 79)).drewN n) w.heap.size (kcs zeroK) 79 := fun n => Blk.drewN (Blk.new w _ _) n
  have HF := Lib.hid hF
  have HR := Lib.hid hr
  have HL := Lib.hid hl
  have HLT := Lib.hid hlt
  clear hnx hsk hF hr hl hlt hone
  go_enter Tryz.func43, Tryz.ntmps43
  go_wp2_with (first | (go_at_call 74; refine (hskip _ bel1).mono ?_; rintro e1 w1 ⟨rfl, b1, hb1, hon1⟩; refine Hid.out ?_))
  refine Lib.hid ?_
  have hbb : t.data.toList.drop b = t.data.toList.drop b1 := hb1
  have hb1l : b = b1 := by
    have h2 := congrArg List.length hbb
    rw [List.length_drop, List.length_drop, lsz] at h2
    have := hon1.1
    omega
  subst hb1l
  obtain ⟨-, hrd1, hgb1⟩ := hon1
  have hgw : GB g w w1 := (GB.of bel1).trans hgb1
  have ht1 : Blk w1 w.heap.size (kcs zeroK) 79 := (tN 0).gb hgb1 (by omega)
  have hF1 := HF.out.gb hg hgw
  have hrest := rest_any g t b w1 hrd1 hb ht
  rw [HL.out] at hrest
  have HGW := Lib.hid hgw
  have HT1 := Lib.hid ht1
  have HF1 := Lib.hid hF1
  have HR1 := Lib.hid hrd1
  clear hb1 hbb hgb1 hgw ht1 hF1 hrd1 hskip tN
  go_wp2_with (first | (go_at_call 75; refine hrest.mono ?_; rintro e2 w2 ⟨rfl, n1, rfl⟩) | (go_at_call 76; refine (start_any _ _).mono ?_; rintro e3 w3 ⟨rfl, rfl⟩; rw [hc1]) | (go_at_call 78; refine (digit_any _ _).mono ?_; rintro e3 w3 ⟨rfl, rfl⟩; rw [hc2]) | (go_at_call 81; refine (sgn_any g t b _ (HR1.out.drew n1) hb ht (HF1.out.below (below_drewN (Below.refl _ _) n1)).sg).mono ?_; rw [HL.out]; intro e3 w3 hpost; have hx := (gotP_iff.1 hpost).2; have ht3 : Blk w3 w.heap.size (kcs zeroK) 79 := (by obtain ⟨_, _, hq⟩ := hx; exact (HT1.out.drewN n1).gb hq.2.2 (by omega)); have sv := run_stK (t := Got.tok (signT (c :: r)) b) ht3; obtain ⟨rfl, -⟩ := gotP_iff.1 hpost; have HX := Lib.hid hx; have HT3 := Lib.hid ht3; clear hx ht3 hpost))
  exact next_fin hgl (HGW.out.trans (GB.of (below_drewN (Below.refl _ _) n1))) HT3.out HX.out rfl rfl rfl

set_option maxRecDepth 100000 in
set_option maxHeartbeats 4000000 in
theorem next_bad (g : Nat) (t : ByteArray) (a b0 : Nat) (w : World) (hr : Rd w g t a) (ha : a ≤ t.size) (ht : t.size ≤ 1000000) (hF : Fa w) (r : By) (hsk : skipL (t.data.toList.drop a) = (false, r)) :
    Calls Tryz.prog 43 #[.pointer (some ⟨g, 0, none⟩)] w (GotP g t b0 w (nextF (t.data.toList.drop a))) := by
  have hskip := fun (w' : World) (hb : Below w.heap.size w w') => skip_any g t a w' (hr.below hb) ha ht (hF.below hb).ml
  rw [hsk] at hskip
  have hgl := hr.lt
  have hnx : nextF (t.data.toList.drop a) = .bad r := by unfold nextF; rw [hsk]
  rw [hnx]
  have tN : Blk (w.alloc (.cells (kcs zeroK) 79)) w.heap.size (kcs zeroK) 79 := Blk.new w _ _
  clear hnx hsk hF hr
  go_enter Tryz.func43, Tryz.ntmps43
  go_wp2_with (first | (go_at_call 74; refine (hskip _ bel1).mono ?_; rintro e1 w1 ⟨rfl, b1, hb1, hon1⟩; have ht1 : Blk w1 w.heap.size (kcs zeroK) 79 := tN.gb hon1.2.2 (by omega); have sv := run_stK (t := zeroK) ht1; have HT1 := Lib.hid ht1; have HO := Lib.hid hon1; have HB := Lib.hid hb1; clear ht1 hon1 hb1))
  exact next_fin (R := .bad r) hgl (GB.of bel1) HT1.out ⟨b1, HB.out, HO.out⟩ rfl rfl rfl

set_option maxRecDepth 100000 in
set_option maxHeartbeats 4000000 in
theorem next_end (g : Nat) (t : ByteArray) (a : Nat) (w : World) (hr : Rd w g t a) (ha : a ≤ t.size) (ht : t.size ≤ 1000000) (hF : Fa w) (hsk : skipL (t.data.toList.drop a) = (true, [])) :
    Calls Tryz.prog 43 #[.pointer (some ⟨g, 0, none⟩)] w (GotP g t t.size w (nextF (t.data.toList.drop a))) := by
  have hskip := fun (w' : World) (hb : Below w.heap.size w w') => skip_any g t a w' (hr.below hb) ha ht (hF.below hb).ml
  rw [hsk] at hskip
  have hgl := hr.lt
  have hnx : nextF (t.data.toList.drop a) = .ok ⟨0, 0, ⟨#[]⟩⟩ [] := by unfold nextF; rw [hsk]; rfl
  rw [hnx]
  have e0 : (bs ([] : By)).toList.isEmpty = true := by rw [ByteArray.toList_eq, bs_list]; rfl
  have e1 : (bs ([] : By)).toList = [] := by rw [ByteArray.toList_eq, bs_list]
  have tN : Blk (w.alloc (.cells (kcs zeroK) 79)) w.heap.size (kcs zeroK) 79 := Blk.new w _ _
  clear hnx hsk hF hr
  go_enter Tryz.func43, Tryz.ntmps43
  go_wp2_with (first | (go_at_call 74; refine (hskip _ bel1).mono ?_; rintro e1 w1 ⟨rfl, b1, hb1, hon1⟩; refine Hid.out ?_))
  refine Lib.hid ?_
  have hbe : b1 = t.size := by
    have h2 := congrArg List.length (show ([] : By) = _ from hb1)
    rw [List.length_drop, lsz] at h2
    have := hon1.1
    simp at h2
    omega
  subst hbe
  obtain ⟨hx1, hrd1, hgb1⟩ := hon1
  have ht1 : Blk w1 w.heap.size (kcs zeroK) 79 := tN.gb hgb1 (by omega)
  have hrest := rest_any g t t.size w1 hrd1 (Nat.le_refl _) ht
  rw [← (show ([] : By) = _ from hb1)] at hrest
  have c1 := hrd1.c1
  have sv := fun n => run_stK (t := ⟨0, t.size, 0, ⟨#[]⟩⟩) (ht1.drewN n)
  have HT1 := Lib.hid ht1
  have HR1 := Lib.hid hrd1
  have HG1 := Lib.hid hgb1
  have HB1 := Lib.hid hb1
  clear hb1 hgb1 ht1 hrd1 hskip tN
  go_wp2_with (first | (go_at_call 75; refine hrest.mono ?_; rintro e2 w2 ⟨rfl, n1, rfl⟩))
  exact next_fin (R := .ok ⟨0, 0, ⟨#[]⟩⟩ []) (b0 := t.size) hgl ((GB.of bel1).trans (HG1.out.drew n1)) (HT1.out.drewN n1) ⟨t.size, HB1.out, Nat.le_refl _, HR1.out.drew n1, GB.refl _ _⟩ rfl rfl rfl

theorem sk_suffix {l x : By} {o : Bool} (h : Sk l o x) : ∃ k, l = k ++ x := by
  induction h with
  | stop l _ => exact ⟨[], rfl⟩
  | white c r o x _ _ ih => obtain ⟨k, rfl⟩ := ih; exact ⟨c :: k, rfl⟩
  | line m r o x _ _ _ ih => obtain ⟨k, rfl⟩ := ih; exact ⟨47 :: 47 :: (m ++ k), by simp⟩
  | block m r o x _ _ ih => obtain ⟨k, rfl⟩ := ih; exact ⟨47 :: 42 :: (m ++ 42 :: 47 :: k), by simp⟩
  | bad r _ => exact ⟨[], rfl⟩
theorem skip_drop (t : ByteArray) (a : Nat) (ha : a ≤ t.size) : (skipL (t.data.toList.drop a)).2 = t.data.toList.drop (t.size - (skipL (t.data.toList.drop a)).2.length) ∧ t.size - (skipL (t.data.toList.drop a)).2.length ≤ t.size := by
  obtain ⟨k, hk⟩ := sk_suffix (skipL_sk (t.data.toList.drop a))
  have h1 := congrArg List.length hk
  rw [List.length_drop, lsz, List.length_append] at h1
  refine ⟨?_, Nat.sub_le _ _⟩
  have e : t.size - (skipL (t.data.toList.drop a)).2.length = a + k.length := by omega
  rw [e, ← List.drop_drop]
  conv => rhs; rw [hk]
  rw [List.drop_left]

/-- Where the next token stands. -/
def atOf (t : ByteArray) (a : Nat) : Nat := t.size - (skipL (t.data.toList.drop a)).2.length
theorem next_any (g : Nat) (t : ByteArray) (a : Nat) (w : World) (hr : Rd w g t a) (ha : a ≤ t.size) (ht : t.size ≤ 1000000) (hF : Fa w) (hg : 7 ≤ g) :
    Calls Tryz.prog 43 #[.pointer (some ⟨g, 0, none⟩)] w (GotP g t (atOf t a) w (nextF (t.data.toList.drop a))) := by
  obtain ⟨h1, h2⟩ := skip_drop t a ha
  obtain ⟨o, x, hsk⟩ : ∃ o x, skipL (t.data.toList.drop a) = (o, x) := ⟨_, _, rfl⟩
  rw [hsk] at h1 h2
  have hat : atOf t a = t.size - x.length := by unfold atOf; rw [hsk]
  rw [hat]
  simp only at h1 h2
  cases o with
  | false => exact next_bad g t a _ w hr ha ht hF x hsk
  | true =>
    cases x with
    | nil => exact next_end g t a w hr ha ht hF hsk
    | cons c r =>
      generalize hb : t.size - (c :: r).length = b at h1 h2 ⊢
      have hsk2 : skipL (t.data.toList.drop a) = (true, t.data.toList.drop b) := by rw [hsk, ← h1]
      cases c1 : leadN c.toNat with
      | true => exact next_name g t a b w hr ha ht hF hg hsk2 h2 c r h1.symm c1
      | false =>
        cases c2 : digitN c.toNat with
        | true => exact next_numb g t a b w hr ha ht hF hg hsk2 h2 c r h1.symm c1 c2
        | false =>
          by_cases c3 : c = 34
          · exact next_q34 g t a b w hr ha ht hF hg hsk2 h2 c r h1.symm c1 c2 c3
          · by_cases c4 : c = 39
            · exact next_q39 g t a b w hr ha ht hF hg hsk2 h2 c r h1.symm c1 c2 c4
            · exact next_sign g t a b w hr ha ht hF hg hsk2 h2 c r h1.symm c1 c2 c3 c4
end Go.Proofs.YtkknglmpdmhhjaaGreatDoor.Lx
