/-
  strconv.ParseUint's door; lex.escape.
-/
import Derived.Test.YtocebhaaamnfiaaGreatDoorMg09
namespace Go.Proofs.YtocebhaaamnfiaaGreatDoor.Lx
open Go.RowKit Go.Proofs.YtocebhaaamnfiaaGreatDoor.Uni
set_option linter.unusedVariables false
set_option linter.unusedSimpArgs false

theorem es_cell {w : World} (h : Nums.Lw w) : ∃ t p, w.cell? ⟨3, 0, none⟩ = some (.iface t p) := by
  obtain ⟨t, p, h2⟩ := h.es
  exact ⟨t, p, by rw [World.var?_cell gSyn h2 0]; rfl⟩

set_option maxHeartbeats 1000000 in
theorem pu_yes (s : ByteArray) (w : World) (hs : s.size = 4) (u : Nat) (h : hexF 0 s.data.toList = some u) :
    Calls Tryz.prog 91 #[.string s, .int .i64 16, .int .i64 16] w fun e w' => e = .returned (.tuple #[.int .u64 (u : Int), .nilIface]) ∧ Below w.heap.size w w' := by
  have hc := fun w => hex_any s w hs
  rw [h] at hc
  clear h hs
  go_enter Tryz.func91, Tryz.ntmps91
  go_wp2_with (go_at_call 109; refine (hc _).mono ?_; rintro e w' ⟨rfl, hb⟩; unfold hexR)
  go_ret2
  exact ⟨rfl, hb⟩

set_option maxHeartbeats 1000000 in
theorem pu_no (s : ByteArray) (w : World) (hs : s.size = 4) (h : hexF 0 s.data.toList = none) (hF : Nums.Lw w) :
    Calls Tryz.prog 91 #[.string s, .int .i64 16, .int .i64 16] w fun e w' => (∃ N, e = .returned (.tuple #[.int .u64 0, .iface 119 (.pointer (some ⟨N, 0, none⟩))])) ∧ Below w.heap.size w w' := by
  have hc := fun w => hex_any s w hs
  rw [h] at hc
  obtain ⟨t, p, hcell⟩ := es_cell hF
  have hte := fun (w' : World) (hb : Below w.heap.size w w') => Tryz.strconv_toError_syntax ⟨#[80, 97, 114, 115, 101, 85, 105, 110, 116]⟩ s 16 16 (.iface t p) w' (by omega) (by rw [hb.cell (p := ⟨3, 0, none⟩) (World.block_lt_of_cell? w _ hcell)]; exact hcell) (.inr ⟨t, p, rfl⟩)
  clear h hs hF hcell
  go_enter Tryz.func91, Tryz.ntmps91
  go_wp2_with (first | (go_at_call 109; refine (hc _).mono ?_; rintro e w' ⟨rfl, hb⟩; unfold hexR) | (go_at_call 106; refine (hte _ hb).mono ?_; rintro e w2 ⟨N, rfl, -, -, hb2⟩))
  go_ret2
  exact ⟨⟨N, rfl⟩, hb.trans (hb2.mono hb.size)⟩

theorem two_list {s : ByteArray} (h : 2 ≤ s.size) : ∃ (a c : UInt8) (r : By), s.data.toList = a :: c :: r ∧ c.toNat = B s 1 ∧ r = s.data.toList.drop 2 := by
  obtain ⟨a, ha, h0⟩ := drop_B s 0 (by omega)
  obtain ⟨c, hc, h1⟩ := drop_B s 1 (by omega)
  refine ⟨a, c, s.data.toList.drop 2, ?_, hc, rfl⟩
  rw [List.drop_zero] at h0
  exact h0.trans (congrArg (a :: ·) h1)
theorem u8_eq {c : UInt8} {n b : Nat} (h : c.toNat = b) (hn : n < 256) : c = UInt8.ofNat n ↔ b = n := by
  subst h
  constructor
  · rintro rfl; simp; omega
  · intro h; apply UInt8.toNat_inj.1; simp; omega
/-- escF by the number of the second byte. -/
theorem esc_B {s : ByteArray} (h : 2 ≤ s.size) : escF s.data.toList =
    if B s 1 = 110 then (10, 2) else if B s 1 = 116 then (9, 2) else if B s 1 = 92 ∨ B s 1 = 34 ∨ B s 1 = 39 then (B s 1, 2)
    else if B s 1 = 117 then (if s.size < 6 then (0, 0) else match hexF 0 ((s.data.toList.drop 2).take 4) with | none => (0, 0) | some u => (u, 6))
    else (0, 0) := by
  obtain ⟨a, c, r, hl, hc, hr⟩ := two_list h
  have e : escF s.data.toList = escF (a :: c :: r) := by rw [hl]
  rw [e, ← hr]
  simp only [escF]
  have k (n : Nat) (hn : n < 256) := u8_eq hc hn
  have k1 : c = 110 ↔ B s 1 = 110 := k 110 (by decide)
  have k2 : c = 116 ↔ B s 1 = 116 := k 116 (by decide)
  have k3 : c = 92 ↔ B s 1 = 92 := k 92 (by decide)
  have k4 : c = 34 ↔ B s 1 = 34 := k 34 (by decide)
  have k5 : c = 39 ↔ B s 1 = 39 := k 39 (by decide)
  have k6 : c = 117 ↔ B s 1 = 117 := k 117 (by decide)
  simp only [k1, k2, k3, k4, k5, k6, hc]
  have hz : r.length < 4 ↔ s.size < 6 := by rw [hr, List.length_drop, lsz]; omega
  simp only [hz]
  rfl
theorem esc_short {s : ByteArray} (h : s.size < 2) : escF s.data.toList = (0, 0) := by
  have hl := lsz s
  match hm : s.data.toList with
  | [] => rfl
  | [a] => rfl
  | a :: b :: r => rw [hm] at hl; simp at hl; omega

def EscPost (s : ByteArray) (w : World) (e : Ending) (w' : World) : Prop := e = .returned (.tuple #[.int .u16 ((escF s.data.toList).1 : Int), .int .i64 ((escF s.data.toList).2 : Int)]) ∧ Below w.heap.size w w'
theorem esc_post {s : ByteArray} {w w' : World} {u n : Nat} {x y : Int} (h : escF s.data.toList = (u, n)) (hx : x = u) (hy : y = n) (hb : Below w.heap.size w w') : EscPost s w (.returned (.tuple #[.int .u16 x, .int .i64 y])) w' := by
  subst hx hy
  unfold EscPost
  rw [h]
  exact ⟨rfl, hb⟩

theorem escape_short (s : ByteArray) (w : World) (h : s.size < 2) : Calls Tryz.prog 64 #[.string s] w (EscPost s w) := by
  have HE := Lib.hid (esc_short h)
  have hi : (s.size : Int) < 2 := by omega
  clear h
  go_enter Tryz.func64, Tryz.ntmps64
  go_wp2
  go_ret2
  exact esc_post HE.out rfl rfl (Below.refl _ _)

set_option maxHeartbeats 1000000 in
theorem escape_110 (s : ByteArray) (w : World) (hs : s.size ≤ 1000000) (h : 2 ≤ s.size) (hc : B s 1 = 110) : Calls Tryz.prog 64 #[.string s] w (EscPost s w) := by
  have hB := gB s
  have hi : (2 : Int) ≤ s.size := by omega
  have b110 : (((B s 1 : Nat) : Int) == 110) = true := by simp; omega
  have he : escF s.data.toList = (10, 2) := by rw [esc_B h]; simp [hc]
  have HE := Lib.hid he
  have HC := Lib.hid hc
  have h1s : 1 < s.size := by omega
  clear he hc
  go_enter Tryz.func64, Tryz.ntmps64
  go_wp2
  go_quiet (fail)
  go_wp2
  go_ret2
  exact esc_post HE.out rfl rfl (below_drewN (Below.refl _ _) _)

set_option maxHeartbeats 1000000 in
theorem escape_116 (s : ByteArray) (w : World) (hs : s.size ≤ 1000000) (h : 2 ≤ s.size) (hc : B s 1 = 116) : Calls Tryz.prog 64 #[.string s] w (EscPost s w) := by
  have hB := gB s
  have hi : (2 : Int) ≤ s.size := by omega
  have b110 : (((B s 1 : Nat) : Int) == 110) = false := by simp; omega
  have b116 : (((B s 1 : Nat) : Int) == 116) = true := by simp; omega
  have he : escF s.data.toList = (9, 2) := by rw [esc_B h]; simp [hc]
  have HE := Lib.hid he
  have HC := Lib.hid hc
  have h1s : 1 < s.size := by omega
  clear he hc
  go_enter Tryz.func64, Tryz.ntmps64
  go_wp2
  go_quiet (fail)
  go_wp2
  go_ret2
  exact esc_post HE.out rfl rfl (below_drewN (Below.refl _ _) _)

set_option maxHeartbeats 1000000 in
theorem escape_92 (s : ByteArray) (w : World) (hs : s.size ≤ 1000000) (h : 2 ≤ s.size) (hc : B s 1 = 92) : Calls Tryz.prog 64 #[.string s] w (EscPost s w) := by
  have hB := gB s
  have hi : (2 : Int) ≤ s.size := by omega
  have b110 : (((B s 1 : Nat) : Int) == 110) = false := by simp; omega
  have b116 : (((B s 1 : Nat) : Int) == 116) = false := by simp; omega
  have b92 : (((B s 1 : Nat) : Int) == 92) = true := by simp; omega
  have he : escF s.data.toList = (92, 2) := by rw [esc_B h]; simp [hc]
  have HE := Lib.hid he
  have HC := Lib.hid hc
  have h1s : 1 < s.size := by omega
  clear he hc
  go_enter Tryz.func64, Tryz.ntmps64
  go_wp2
  go_quiet (fail)
  go_wp2
  go_ret2
  exact esc_post HE.out (by rw [HC.out]; rfl) rfl (below_drewN (Below.refl _ _) _)

set_option maxHeartbeats 1000000 in
theorem escape_34 (s : ByteArray) (w : World) (hs : s.size ≤ 1000000) (h : 2 ≤ s.size) (hc : B s 1 = 34) : Calls Tryz.prog 64 #[.string s] w (EscPost s w) := by
  have hB := gB s
  have hi : (2 : Int) ≤ s.size := by omega
  have b110 : (((B s 1 : Nat) : Int) == 110) = false := by simp; omega
  have b116 : (((B s 1 : Nat) : Int) == 116) = false := by simp; omega
  have b92 : (((B s 1 : Nat) : Int) == 92) = false := by simp; omega
  have b34 : (((B s 1 : Nat) : Int) == 34) = true := by simp; omega
  have he : escF s.data.toList = (34, 2) := by rw [esc_B h]; simp [hc]
  have HE := Lib.hid he
  have HC := Lib.hid hc
  have h1s : 1 < s.size := by omega
  clear he hc
  go_enter Tryz.func64, Tryz.ntmps64
  go_wp2
  go_quiet (fail)
  go_wp2
  go_ret2
  exact esc_post HE.out (by rw [HC.out]; rfl) rfl (below_drewN (Below.refl _ _) _)

set_option maxHeartbeats 1000000 in
theorem escape_39 (s : ByteArray) (w : World) (hs : s.size ≤ 1000000) (h : 2 ≤ s.size) (hc : B s 1 = 39) : Calls Tryz.prog 64 #[.string s] w (EscPost s w) := by
  have hB := gB s
  have hi : (2 : Int) ≤ s.size := by omega
  have b110 : (((B s 1 : Nat) : Int) == 110) = false := by simp; omega
  have b116 : (((B s 1 : Nat) : Int) == 116) = false := by simp; omega
  have b92 : (((B s 1 : Nat) : Int) == 92) = false := by simp; omega
  have b34 : (((B s 1 : Nat) : Int) == 34) = false := by simp; omega
  have b39 : (((B s 1 : Nat) : Int) == 39) = true := by simp; omega
  have he : escF s.data.toList = (39, 2) := by rw [esc_B h]; simp [hc]
  have HE := Lib.hid he
  have HC := Lib.hid hc
  have h1s : 1 < s.size := by omega
  clear he hc
  go_enter Tryz.func64, Tryz.ntmps64
  go_wp2
  go_quiet (fail)
  go_wp2
  go_ret2
  exact esc_post HE.out (by rw [HC.out]; rfl) rfl (below_drewN (Below.refl _ _) _)

set_option maxHeartbeats 1000000 in
theorem escape_other (s : ByteArray) (w : World) (hs : s.size ≤ 1000000) (h : 2 ≤ s.size) (hc : B s 1 ≠ 110 ∧ B s 1 ≠ 116 ∧ B s 1 ≠ 92 ∧ B s 1 ≠ 34 ∧ B s 1 ≠ 39 ∧ B s 1 ≠ 117) : Calls Tryz.prog 64 #[.string s] w (EscPost s w) := by
  have hB := gB s
  have hi : (2 : Int) ≤ s.size := by omega
  have b110 : (((B s 1 : Nat) : Int) == 110) = false := by simp; omega
  have b116 : (((B s 1 : Nat) : Int) == 116) = false := by simp; omega
  have b92 : (((B s 1 : Nat) : Int) == 92) = false := by simp; omega
  have b34 : (((B s 1 : Nat) : Int) == 34) = false := by simp; omega
  have b39 : (((B s 1 : Nat) : Int) == 39) = false := by simp; omega
  have b117 : (((B s 1 : Nat) : Int) == 117) = false := by simp; omega
  have he : escF s.data.toList = (0, 0) := by rw [esc_B h]; simp [hc]
  have HE := Lib.hid he
  have h1s : 1 < s.size := by omega
  clear he hc
  go_enter Tryz.func64, Tryz.ntmps64
  go_wp2
  go_quiet (fail)
  go_wp2
  go_ret2
  exact esc_post HE.out rfl rfl (below_drewN (Below.refl _ _) _)

set_option maxHeartbeats 1000000 in
theorem escape_ushort (s : ByteArray) (w : World) (hs : s.size ≤ 1000000) (h : 2 ≤ s.size) (hc : B s 1 = 117) (hz : s.size < 6) : Calls Tryz.prog 64 #[.string s] w (EscPost s w) := by
  have hB := gB s
  have hi : (2 : Int) ≤ s.size := by omega
  have b110 : (((B s 1 : Nat) : Int) == 110) = false := by simp; omega
  have b116 : (((B s 1 : Nat) : Int) == 116) = false := by simp; omega
  have b92 : (((B s 1 : Nat) : Int) == 92) = false := by simp; omega
  have b34 : (((B s 1 : Nat) : Int) == 34) = false := by simp; omega
  have b39 : (((B s 1 : Nat) : Int) == 39) = false := by simp; omega
  have b117 : (((B s 1 : Nat) : Int) == 117) = true := by simp; omega
  have he : escF s.data.toList = (0, 0) := by rw [esc_B h]; simp [hc, hz]
  have HE := Lib.hid he
  have h1s : 1 < s.size := by omega
  have hzi : (s.size : Int) - 2 < 4 := by omega
  clear he hc hz
  go_enter Tryz.func64, Tryz.ntmps64
  go_wp2
  go_quiet (fail)
  go_wp2
  go_ret2
  exact esc_post HE.out rfl rfl (below_drewN (Below.refl _ _) _)

theorem ext_four (s : ByteArray) (h : 6 ≤ s.size) : ((s.extract 2 s.size).extract 0 4).size = 4 ∧ ((s.extract 2 s.size).extract 0 4).data.toList = (s.data.toList.drop 2).take 4 := by
  constructor
  · simp; omega
  · rw [ext_take, ext_drop]
theorem hexF_lt : ∀ (l : By) (u v : Nat), hexF u l = some v → v < (u + 1) * 16 ^ l.length
  | [], u, v, h => by simp only [hexF] at h; cases h; simp
  | c :: r, u, v, h => by
    rw [hexF_cons] at h
    cases hd : hexN c.toNat with
    | none => rw [hd] at h; cases h
    | some d =>
      rw [hd] at h
      have := hexF_lt r _ v h
      have hd2 := hexN_lt hd
      rw [List.length_cons, Nat.pow_succ]
      have e : (u * 16 + d + 1) * 16 ^ r.length ≤ ((u + 1) * 16) * 16 ^ r.length := Nat.mul_le_mul_right _ (by omega)
      rw [Nat.mul_assoc, Nat.mul_comm 16] at e
      omega

set_option maxHeartbeats 1000000 in
theorem escape_uyes (s : ByteArray) (w : World) (hs : s.size ≤ 1000000) (h : 2 ≤ s.size) (hc : B s 1 = 117) (hz : 6 ≤ s.size) (u : Nat) (hu : hexF 0 ((s.data.toList.drop 2).take 4) = some u) : Calls Tryz.prog 64 #[.string s] w (EscPost s w) := by
  have hB := gB s
  have hi : (2 : Int) ≤ s.size := by omega
  have b110 : (((B s 1 : Nat) : Int) == 110) = false := by simp; omega
  have b116 : (((B s 1 : Nat) : Int) == 116) = false := by simp; omega
  have b92 : (((B s 1 : Nat) : Int) == 92) = false := by simp; omega
  have b34 : (((B s 1 : Nat) : Int) == 34) = false := by simp; omega
  have b39 : (((B s 1 : Nat) : Int) == 39) = false := by simp; omega
  have b117 : (((B s 1 : Nat) : Int) == 117) = true := by simp; omega
  have he : escF s.data.toList = (u, 6) := by rw [esc_B h, if_neg (by omega), if_neg (by omega), if_neg (by omega), if_pos hc, if_neg (by omega), hu]
  have hub : u < 65536 := by
    have := hexF_lt _ _ _ hu
    have e : ((s.data.toList.drop 2).take 4).length = 4 := by rw [List.length_take, List.length_drop, lsz]; omega
    rw [e] at this
    omega
  obtain ⟨x1, x2⟩ := ext_four s hz
  have hp := fun w => pu_yes _ w x1 u (by rw [x2]; exact hu)
  have HE := Lib.hid he
  have h1s : 1 < s.size := by omega
  have hzi : (4 : Int) ≤ (s.size : Int) - 2 := by omega
  have hui : (u : Int) ≤ 65535 := by omega
  clear he hc hz hu hub x1 x2
  go_enter Tryz.func64, Tryz.ntmps64
  go_wp2
  go_quiet (fail)
  go_wp2_with (go_at_call 91; refine (hp _).mono ?_; rintro e w' ⟨rfl, hb⟩)
  go_ret2
  exact esc_post HE.out rfl rfl ((below_drewN (Below.refl _ _) _).trans hb)

set_option maxHeartbeats 1000000 in
theorem escape_uno (s : ByteArray) (w : World) (hs : s.size ≤ 1000000) (h : 2 ≤ s.size) (hc : B s 1 = 117) (hz : 6 ≤ s.size) (hu : hexF 0 ((s.data.toList.drop 2).take 4) = none) (hF : Nums.Lw w) : Calls Tryz.prog 64 #[.string s] w (EscPost s w) := by
  have hB := gB s
  have hi : (2 : Int) ≤ s.size := by omega
  have b110 : (((B s 1 : Nat) : Int) == 110) = false := by simp; omega
  have b116 : (((B s 1 : Nat) : Int) == 116) = false := by simp; omega
  have b92 : (((B s 1 : Nat) : Int) == 92) = false := by simp; omega
  have b34 : (((B s 1 : Nat) : Int) == 34) = false := by simp; omega
  have b39 : (((B s 1 : Nat) : Int) == 39) = false := by simp; omega
  have b117 : (((B s 1 : Nat) : Int) == 117) = true := by simp; omega
  have he : escF s.data.toList = (0, 0) := by rw [esc_B h, if_neg (by omega), if_neg (by omega), if_neg (by omega), if_pos hc, if_neg (by omega), hu]
  obtain ⟨x1, x2⟩ := ext_four s hz
  have hp := fun (w' : World) (hb : Below w.heap.size w w') => pu_no _ w' x1 (by rw [x2]; exact hu) (hF.below hb)
  have HE := Lib.hid he
  have h1s : 1 < s.size := by omega
  have hzi : (4 : Int) ≤ (s.size : Int) - 2 := by omega
  clear he hc hz hu x1 x2 hF
  go_enter Tryz.func64, Tryz.ntmps64
  go_wp2
  go_quiet (fail)
  go_wp2_with (go_at_call 91; refine (hp _ (below_drewN (Below.refl _ _) _)).mono ?_; rintro e w' ⟨⟨N, rfl⟩, hb⟩)
  go_ret2
  exact esc_post HE.out rfl rfl ((below_drewN (Below.refl _ _) _).trans hb)

theorem escape_any (s : ByteArray) (w : World) (hs : s.size ≤ 1000000) (hF : Nums.Lw w) : Calls Tryz.prog 64 #[.string s] w (EscPost s w) := by
  by_cases h : s.size < 2
  · exact escape_short s w h
  · have h2 : 2 ≤ s.size := by omega
    rcases (by omega : B s 1 = 110 ∨ B s 1 = 116 ∨ B s 1 = 92 ∨ B s 1 = 34 ∨ B s 1 = 39 ∨ B s 1 = 117 ∨ (B s 1 ≠ 110 ∧ B s 1 ≠ 116 ∧ B s 1 ≠ 92 ∧ B s 1 ≠ 34 ∧ B s 1 ≠ 39 ∧ B s 1 ≠ 117)) with c | c | c | c | c | c | c
    · exact escape_110 s w hs h2 c
    · exact escape_116 s w hs h2 c
    · exact escape_92 s w hs h2 c
    · exact escape_34 s w hs h2 c
    · exact escape_39 s w hs h2 c
    · by_cases hz : s.size < 6
      · exact escape_ushort s w hs h2 c hz
      · cases hu : hexF 0 ((s.data.toList.drop 2).take 4) with
        | some u => exact escape_uyes s w hs h2 c (by omega) u hu
        | none => exact escape_uno s w hs h2 c (by omega) hu hF
    · exact escape_other s w hs h2 c
end Go.Proofs.YtocebhaaamnfiaaGreatDoor.Lx
