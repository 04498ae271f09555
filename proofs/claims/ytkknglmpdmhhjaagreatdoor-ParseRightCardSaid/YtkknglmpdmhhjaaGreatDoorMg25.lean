/-
  literal, key, getter, setter, handler, variable, constant.
-/
import Derived.Test.YtkknglmpdmhhjaaGreatDoorMg24
namespace Go.Proofs.YtkknglmpdmhhjaaGreatDoor.Pa
open Go Go.RowKit Go.Proofs.YtkknglmpdmhhjaaGreatDoor.Lx Go.Proofs.YtkknglmpdmhhjaaGreatDoor.Uni
set_option linter.unusedVariables false
set_option linter.unusedSimpArgs false
attribute [local go_sem ↓] ldK stK alK bdK bsK ldN stN alN bdN bsN
attribute [local irreducible] kcs ncs ncells
attribute [local go_sem] run_alK run_bdK0 run_bdKs run_bdKn run_bdKe run_bsK run_fdK0 run_fdK1 run_fdK2 run_fdK3 run_fdN4 run_alN run_stNg run_ldNg run_bdN0 run_bdN04 run_bdN02 run_bdN01 run_bdN024 run_bdN03 run_bdN0234 run_bsN1 run_bsN2 run_bsN3

theorem Env.kidsOfN {g d : Nat} {s : PS} {S0 : Nat → Prop} {w0 W : World} {bs : List (Nat × Nd)} {vs : List (Tree × Nd)} (E : Env g d s S0 w0 W bs vs) {T : Tree} {N : Nd} (h2 : (T, N) ∈ vs) (k : Int) : Env g d s S0 w0 W bs ((node k T.kids, kidN k ⟨N.kids.a, N.kids.n, N.kids.c⟩) :: vs) := E.kidsOf h2 k 0 noS

set_option maxRecDepth 100000 in
set_option maxHeartbeats 4000000 in
theorem lit_0 {d g : Nat} {s : PS} {w : World} (h : At g d s w) (hX : Gx g w) (k0 : seesF ⟨#[116, 114, 117, 101]⟩ s = true) :
    Calls Tryz.prog 275 #[.pointer (some ⟨g, 0, none⟩)] w (PostN g d w (node 3 [], s.take)) := by
  have E0 := (Env.start h hX).new zeroN
  have c0 := takes_t E0.at_ k0
  have HE0 := Lib.hid E0
  clear E0 h hX k0
  go_enter Tryz.func275, Tryz.ntmps275
  go_wp2_with (first | (go_at_call 86; (with_reducible refine c0.mono ?_); intro e w1 hp; obtain ⟨rfl, E1⟩ := HE0.out.call hp; have sN := fun o M => (E1.alloc o).sto 0 rfl M; have HE1 := Lib.hid E1; clear hp E1) | (go_at_call 22; (with_reducible refine (node_any _ _ _ _ _).mono ?_); rintro e wn ⟨rfl, rfl⟩))
  exact ((((HE1.out.leaf 3 0 noS).alloc _).store 0 rfl _).fin List.mem_cons_self List.mem_cons_self rfl rfl)

set_option maxRecDepth 100000 in
set_option maxHeartbeats 4000000 in
theorem lit_1 {d g : Nat} {s : PS} {w : World} (h : At g d s w) (hX : Gx g w) (k0 : seesF ⟨#[116, 114, 117, 101]⟩ s = false) (k1 : seesF ⟨#[102, 97, 108, 115, 101]⟩ s = true) :
    Calls Tryz.prog 275 #[.pointer (some ⟨g, 0, none⟩)] w (PostN g d w (node 4 [], s.take)) := by
  have E0 := (Env.start h hX).new zeroN
  have c0 := takes_f E0.at_ k0
  have HE0 := Lib.hid E0
  clear E0 h hX k0
  go_enter Tryz.func275, Tryz.ntmps275
  go_wp2_with (first | (go_at_call 86; (with_reducible refine c0.mono ?_); intro e w1 hp; obtain ⟨rfl, E1⟩ := HE0.out.call hp; have c1 := takes_t E1.at_ k1; have HE1 := Lib.hid E1; clear hp E1) | (go_at_call 86; (with_reducible refine c1.mono ?_); intro e w2 hp; obtain ⟨rfl, E2⟩ := HE1.out.call hp; have sN := fun o M => (E2.alloc o).sto 0 rfl M; have HE2 := Lib.hid E2; clear hp E2) | (go_at_call 22; (with_reducible refine (node_any _ _ _ _ _).mono ?_); rintro e wn ⟨rfl, rfl⟩))
  exact ((((HE2.out.leaf 4 0 noS).alloc _).store 0 rfl _).fin List.mem_cons_self List.mem_cons_self rfl rfl)

set_option maxRecDepth 100000 in
set_option maxHeartbeats 4000000 in
theorem lit_2 {d g : Nat} {s : PS} {w : World} (h : At g d s w) (hX : Gx g w) (k0 : seesF ⟨#[116, 114, 117, 101]⟩ s = false) (k1 : seesF ⟨#[102, 97, 108, 115, 101]⟩ s = false) (k2 : seesF ⟨#[110, 117, 108, 108]⟩ s = true) :
    Calls Tryz.prog 275 #[.pointer (some ⟨g, 0, none⟩)] w (PostN g d w (node 5 [], s.take)) := by
  have E0 := (Env.start h hX).new zeroN
  have c0 := takes_f E0.at_ k0
  have HE0 := Lib.hid E0
  clear E0 h hX k0
  go_enter Tryz.func275, Tryz.ntmps275
  go_wp2_with (first | (go_at_call 86; (with_reducible refine c0.mono ?_); intro e w1 hp; obtain ⟨rfl, E1⟩ := HE0.out.call hp; have c1 := takes_f E1.at_ k1; have HE1 := Lib.hid E1; clear hp E1) | (go_at_call 86; (with_reducible refine c1.mono ?_); intro e w2 hp; obtain ⟨rfl, E2⟩ := HE1.out.call hp; have c2 := takes_t E2.at_ k2; have HE2 := Lib.hid E2; clear hp E2) | (go_at_call 86; (with_reducible refine c2.mono ?_); intro e w3 hp; obtain ⟨rfl, E3⟩ := HE2.out.call hp; have sN := fun o M => (E3.alloc o).sto 0 rfl M; have HE3 := Lib.hid E3; clear hp E3) | (go_at_call 22; (with_reducible refine (node_any _ _ _ _ _).mono ?_); rintro e wn ⟨rfl, rfl⟩))
  exact ((((HE3.out.leaf 5 0 noS).alloc _).store 0 rfl _).fin List.mem_cons_self List.mem_cons_self rfl rfl)

set_option maxRecDepth 100000 in
set_option maxHeartbeats 4000000 in
theorem lit_3 {d g : Nat} {s : PS} {w : World} (h : At g d s w) (hX : Gx g w) (k0 : seesF ⟨#[116, 114, 117, 101]⟩ s = false) (k1 : seesF ⟨#[102, 97, 108, 115, 101]⟩ s = false) (k2 : seesF ⟨#[110, 117, 108, 108]⟩ s = false) (k3 : seesF ⟨#[117, 110, 100, 101, 102, 105, 110, 101, 100]⟩ s = true) :
    Calls Tryz.prog 275 #[.pointer (some ⟨g, 0, none⟩)] w (PostN g d w (node 6 [], s.take)) := by
  have E0 := (Env.start h hX).new zeroN
  have c0 := takes_f E0.at_ k0
  have HE0 := Lib.hid E0
  clear E0 h hX k0
  go_enter Tryz.func275, Tryz.ntmps275
  go_wp2_with (first | (go_at_call 86; (with_reducible refine c0.mono ?_); intro e w1 hp; obtain ⟨rfl, E1⟩ := HE0.out.call hp; have c1 := takes_f E1.at_ k1; have HE1 := Lib.hid E1; clear hp E1) | (go_at_call 86; (with_reducible refine c1.mono ?_); intro e w2 hp; obtain ⟨rfl, E2⟩ := HE1.out.call hp; have c2 := takes_f E2.at_ k2; have HE2 := Lib.hid E2; clear hp E2) | (go_at_call 86; (with_reducible refine c2.mono ?_); intro e w3 hp; obtain ⟨rfl, E3⟩ := HE2.out.call hp; have c3 := takes_t E3.at_ k3; have HE3 := Lib.hid E3; clear hp E3) | (go_at_call 86; (with_reducible refine c3.mono ?_); intro e w4 hp; obtain ⟨rfl, E4⟩ := HE3.out.call hp; have sN := fun o M => (E4.alloc o).sto 0 rfl M; have HE4 := Lib.hid E4; clear hp E4) | (go_at_call 22; (with_reducible refine (node_any _ _ _ _ _).mono ?_); rintro e wn ⟨rfl, rfl⟩))
  exact ((((HE4.out.leaf 6 0 noS).alloc _).store 0 rfl _).fin List.mem_cons_self List.mem_cons_self rfl rfl)

set_option maxRecDepth 100000 in
set_option maxHeartbeats 4000000 in
theorem lit_4 {d g : Nat} {s : PS} {w : World} (h : At g d s w) (hX : Gx g w) (k0 : seesF ⟨#[116, 114, 117, 101]⟩ s = false) (k1 : seesF ⟨#[102, 97, 108, 115, 101]⟩ s = false) (k2 : seesF ⟨#[110, 117, 108, 108]⟩ s = false) (k3 : seesF ⟨#[117, 110, 100, 101, 102, 105, 110, 101, 100]⟩ s = false) (k4 : seesF ⟨#[116, 104, 105, 115]⟩ s = true) :
    Calls Tryz.prog 275 #[.pointer (some ⟨g, 0, none⟩)] w (PostN g d w (node 7 [], s.take)) := by
  have E0 := (Env.start h hX).new zeroN
  have c0 := takes_f E0.at_ k0
  have HE0 := Lib.hid E0
  clear E0 h hX k0
  go_enter Tryz.func275, Tryz.ntmps275
  go_wp2_with (first | (go_at_call 86; (with_reducible refine c0.mono ?_); intro e w1 hp; obtain ⟨rfl, E1⟩ := HE0.out.call hp; have c1 := takes_f E1.at_ k1; have HE1 := Lib.hid E1; clear hp E1) | (go_at_call 86; (with_reducible refine c1.mono ?_); intro e w2 hp; obtain ⟨rfl, E2⟩ := HE1.out.call hp; have c2 := takes_f E2.at_ k2; have HE2 := Lib.hid E2; clear hp E2) | (go_at_call 86; (with_reducible refine c2.mono ?_); intro e w3 hp; obtain ⟨rfl, E3⟩ := HE2.out.call hp; have c3 := takes_f E3.at_ k3; have HE3 := Lib.hid E3; clear hp E3) | (go_at_call 86; (with_reducible refine c3.mono ?_); intro e w4 hp; obtain ⟨rfl, E4⟩ := HE3.out.call hp; have c4 := takes_t E4.at_ k4; have HE4 := Lib.hid E4; clear hp E4) | (go_at_call 86; (with_reducible refine c4.mono ?_); intro e w5 hp; obtain ⟨rfl, E5⟩ := HE4.out.call hp; have sN := fun o M => (E5.alloc o).sto 0 rfl M; have HE5 := Lib.hid E5; clear hp E5) | (go_at_call 22; (with_reducible refine (node_any _ _ _ _ _).mono ?_); rintro e wn ⟨rfl, rfl⟩))
  exact ((((HE5.out.leaf 7 0 noS).alloc _).store 0 rfl _).fin List.mem_cons_self List.mem_cons_self rfl rfl)

set_option maxRecDepth 100000 in
set_option maxHeartbeats 4000000 in
theorem lit_5 {d g : Nat} {s : PS} {w : World} (h : At g d s w) (hX : Gx g w) (k0 : seesF ⟨#[116, 114, 117, 101]⟩ s = false) (k1 : seesF ⟨#[102, 97, 108, 115, 101]⟩ s = false) (k2 : seesF ⟨#[110, 117, 108, 108]⟩ s = false) (k3 : seesF ⟨#[117, 110, 100, 101, 102, 105, 110, 101, 100]⟩ s = false) (k4 : seesF ⟨#[116, 104, 105, 115]⟩ s = false) :
    Calls Tryz.prog 275 #[.pointer (some ⟨g, 0, none⟩)] w (PostN g d w (zeroT, s.fail 2)) := by
  have E0 := (Env.start h hX).new zeroN
  have c0 := takes_f E0.at_ k0
  have HE0 := Lib.hid E0
  clear E0 h hX k0
  go_enter Tryz.func275, Tryz.ntmps275
  go_wp2_with (first | (go_at_call 86; (with_reducible refine c0.mono ?_); intro e w1 hp; obtain ⟨rfl, E1⟩ := HE0.out.call hp; have c1 := takes_f E1.at_ k1; have HE1 := Lib.hid E1; clear hp E1) | (go_at_call 86; (with_reducible refine c1.mono ?_); intro e w2 hp; obtain ⟨rfl, E2⟩ := HE1.out.call hp; have c2 := takes_f E2.at_ k2; have HE2 := Lib.hid E2; clear hp E2) | (go_at_call 86; (with_reducible refine c2.mono ?_); intro e w3 hp; obtain ⟨rfl, E3⟩ := HE2.out.call hp; have c3 := takes_f E3.at_ k3; have HE3 := Lib.hid E3; clear hp E3) | (go_at_call 86; (with_reducible refine c3.mono ?_); intro e w4 hp; obtain ⟨rfl, E4⟩ := HE3.out.call hp; have c4 := takes_f E4.at_ k4; have HE4 := Lib.hid E4; clear hp E4) | (go_at_call 86; (with_reducible refine c4.mono ?_); intro e w5 hp; obtain ⟨rfl, E5⟩ := HE4.out.call hp; have cf := fail_any E5.at_ (e := 2) (by decide); have HE5 := Lib.hid E5; clear hp E5) | (go_at_call 136; (with_reducible refine cf.mono ?_); intro e w6 hp; obtain ⟨rfl, E6⟩ := HE5.out.call hp; have sN := E6.sto 0 rfl; have HE6 := Lib.hid E6; clear hp E6))
  exact (((HE6.out.leaf 0 0 noS).store 0 rfl _).fin List.mem_cons_self List.mem_cons_self rfl rfl)

theorem lit_any {d g : Nat} {s : PS} {w : World} (h : At g d s w) (hX : Gx g w) : Calls Tryz.prog 275 #[.pointer (some ⟨g, 0, none⟩)] w (PostN g d w (litF s)) := by
  unfold litF
  cases k0 : seesF ⟨#[116, 114, 117, 101]⟩ s with
  | true => rw [if_pos rfl]; exact lit_0 h hX k0
  | false =>
  rw [if_neg (by decide)]
  cases k1 : seesF ⟨#[102, 97, 108, 115, 101]⟩ s with
  | true => rw [if_pos rfl]; exact lit_1 h hX k0 k1
  | false =>
  rw [if_neg (by decide)]
  cases k2 : seesF ⟨#[110, 117, 108, 108]⟩ s with
  | true => rw [if_pos rfl]; exact lit_2 h hX k0 k1 k2
  | false =>
  rw [if_neg (by decide)]
  cases k3 : seesF ⟨#[117, 110, 100, 101, 102, 105, 110, 101, 100]⟩ s with
  | true => rw [if_pos rfl]; exact lit_3 h hX k0 k1 k2 k3
  | false =>
  rw [if_neg (by decide)]
  cases k4 : seesF ⟨#[116, 104, 105, 115]⟩ s with
  | true => rw [if_pos rfl]; exact lit_4 h hX k0 k1 k2 k3 k4
  | false =>
  rw [if_neg (by decide)]
  exact lit_5 h hX k0 k1 k2 k3 k4

set_option maxRecDepth 100000 in
set_option maxHeartbeats 4000000 in
theorem key_1 {d g : Nat} {s : PS} {w : World} (h : At g d s w) (hX : Gx g w) (hk : s.next.kind = 1) :
    Calls Tryz.prog 277 #[.pointer (some ⟨g, 0, none⟩)] w (Post g d w (.string s.next.text) s.take) := by
  have hn := next_any h
  have e1 : (s.next.kind == 1) = true := by rw [hk]; rfl
  have e2 : (s.next.kind == 2) = false := by rw [hk]; rfl
  have e4 : (s.next.kind == 4) = false := by rw [hk]; rfl
  have e3 : (s.next.kind == 3) = false := by rw [hk]; rfl
  have ht := fun (w' : World) (h' : At g d s w') => take_any h' (by rw [hk]; decide)
  have HA := Lib.hid h
  clear h hk hX
  go_enter Tryz.func277, Tryz.ntmps277
  go_wp2_with (first | (go_at_call 45; (with_reducible refine hn.mono ?_); rintro e w1 ⟨rfl, hb⟩; have HB := Lib.hid hb; clear hb) | (go_at_call 139; (with_reducible refine (ht _ (HA.out.below HB.out)).mono ?_); rintro e w2 ⟨rfl, ha2, hg2⟩; have HA2 := Lib.hid ha2; have HG2 := Lib.hid hg2; clear ha2 hg2))
  go_ret
  exact ⟨rfl, HA2.out, (GB.of HB.out).trans HG2.out⟩

set_option maxRecDepth 100000 in
set_option maxHeartbeats 4000000 in
theorem key_2 {d g : Nat} {s : PS} {w : World} (h : At g d s w) (hX : Gx g w) (hk : s.next.kind = 2) :
    Calls Tryz.prog 277 #[.pointer (some ⟨g, 0, none⟩)] w (Post g d w (.string s.next.text) s.take) := by
  have hn := next_any h
  have e1 : (s.next.kind == 1) = false := by rw [hk]; rfl
  have e2 : (s.next.kind == 2) = true := by rw [hk]; rfl
  have e4 : (s.next.kind == 4) = false := by rw [hk]; rfl
  have e3 : (s.next.kind == 3) = false := by rw [hk]; rfl
  have ht := fun (w' : World) (h' : At g d s w') => take_any h' (by rw [hk]; decide)
  have HA := Lib.hid h
  clear h hk hX
  go_enter Tryz.func277, Tryz.ntmps277
  go_wp2_with (first | (go_at_call 45; (with_reducible refine hn.mono ?_); rintro e w1 ⟨rfl, hb⟩; have HB := Lib.hid hb; clear hb) | (go_at_call 139; (with_reducible refine (ht _ (HA.out.below HB.out)).mono ?_); rintro e w2 ⟨rfl, ha2, hg2⟩; have HA2 := Lib.hid ha2; have HG2 := Lib.hid hg2; clear ha2 hg2))
  go_ret
  exact ⟨rfl, HA2.out, (GB.of HB.out).trans HG2.out⟩

set_option maxRecDepth 100000 in
set_option maxHeartbeats 4000000 in
theorem key_4 {d g : Nat} {s : PS} {w : World} (h : At g d s w) (hX : Gx g w) (hk : s.next.kind = 4) :
    Calls Tryz.prog 277 #[.pointer (some ⟨g, 0, none⟩)] w (Post g d w (.string s.next.text) s.take) := by
  have hn := next_any h
  have e1 : (s.next.kind == 1) = false := by rw [hk]; rfl
  have e2 : (s.next.kind == 2) = false := by rw [hk]; rfl
  have e4 : (s.next.kind == 4) = true := by rw [hk]; rfl
  have e3 : (s.next.kind == 3) = false := by rw [hk]; rfl
  have ht := fun (w' : World) (h' : At g d s w') => take_any h' (by rw [hk]; decide)
  have HA := Lib.hid h
  clear h hk hX
  go_enter Tryz.func277, Tryz.ntmps277
  go_wp2_with (first | (go_at_call 45; (with_reducible refine hn.mono ?_); rintro e w1 ⟨rfl, hb⟩; have HB := Lib.hid hb; clear hb) | (go_at_call 139; (with_reducible refine (ht _ (HA.out.below HB.out)).mono ?_); rintro e w2 ⟨rfl, ha2, hg2⟩; have HA2 := Lib.hid ha2; have HG2 := Lib.hid hg2; clear ha2 hg2))
  go_ret
  exact ⟨rfl, HA2.out, (GB.of HB.out).trans HG2.out⟩

set_option maxRecDepth 100000 in
set_option maxHeartbeats 4000000 in
theorem key_3 {d g : Nat} {s : PS} {w : World} (h : At g d s w) (hX : Gx g w) (hk : s.next.kind = 3) :
    Calls Tryz.prog 277 #[.pointer (some ⟨g, 0, none⟩)] w (Post g d w (.string (numT s.next.num)) s.take) := by
  have hn := next_any h
  have e1 : (s.next.kind == 1) = false := by rw [hk]; rfl
  have e2 : (s.next.kind == 2) = false := by rw [hk]; rfl
  have e4 : (s.next.kind == 4) = false := by rw [hk]; rfl
  have e3 : (s.next.kind == 3) = true := by rw [hk]; rfl
  have ht := fun (w' : World) (h' : At g d s w') => take_any h' (by rw [hk]; decide)
  obtain ⟨r, hr⟩ := h.ok.cons
  obtain ⟨n0, n1⟩ := h.ok.nums s.next (by rw [hr]; exact List.mem_cons_self)
  have hx := fun (w' : World) (h' : Gx g w') => Nums.text_any s.next.num n0 n1 w' h'.fa.lw
  have HA := Lib.hid h
  have HX := Lib.hid hX
  clear h hk hX hr n0 n1
  go_enter Tryz.func277, Tryz.ntmps277
  go_wp2_with (first | (go_at_call 45; (with_reducible refine hn.mono ?_); rintro e w1 ⟨rfl, hb⟩; have HB := Lib.hid hb; clear hb) | (go_at_call 139; (with_reducible refine (ht _ (HA.out.below HB.out)).mono ?_); rintro e w2 ⟨rfl, ha2, hg2⟩; have hx2 := hx _ (HX.out.gb ((GB.of HB.out).trans hg2)); have HA2 := Lib.hid ha2; have HG2 := Lib.hid hg2; clear ha2 hg2) | (go_at_call 182; (with_reducible refine hx2.mono ?_); rintro e w3 ⟨rfl, hb3⟩; have HB3 := Lib.hid hb3; clear hb3))
  go_ret
  exact ⟨rfl, HA2.out.below HB3.out, ((GB.of HB.out).trans HG2.out).trans (GB.of HB3.out)⟩

set_option maxRecDepth 100000 in
set_option maxHeartbeats 4000000 in
theorem key_0 {d g : Nat} {s : PS} {w : World} (h : At g d s w) (hX : Gx g w) (h1 : s.next.kind ≠ 1) (h2 : s.next.kind ≠ 2) (h4 : s.next.kind ≠ 4) (h3 : s.next.kind ≠ 3) :
    Calls Tryz.prog 277 #[.pointer (some ⟨g, 0, none⟩)] w (Post g d w (.string noS) (s.fail 2)) := by
  have hn := next_any h
  have e1 : (s.next.kind == 1) = false := by simpa using h1
  have e2 : (s.next.kind == 2) = false := by simpa using h2
  have e4 : (s.next.kind == 4) = false := by simpa using h4
  have e3 : (s.next.kind == 3) = false := by simpa using h3
  have ht := fun (w' : World) (h' : At g d s w') => fail_any h' (e := 2) (by decide)
  have HA := Lib.hid h
  clear h h1 h2 h3 h4 hX
  go_enter Tryz.func277, Tryz.ntmps277
  go_wp2_with (first | (go_at_call 45; (with_reducible refine hn.mono ?_); rintro e w1 ⟨rfl, hb⟩; have HB := Lib.hid hb; clear hb) | (go_at_call 136; (with_reducible refine (ht _ (HA.out.below HB.out)).mono ?_); rintro e w2 ⟨rfl, ha2, hg2⟩; have HA2 := Lib.hid ha2; have HG2 := Lib.hid hg2; clear ha2 hg2))
  go_ret
  exact ⟨rfl, HA2.out, (GB.of HB.out).trans HG2.out⟩

theorem key_any {d g : Nat} {s : PS} {w : World} (h : At g d s w) (hX : Gx g w) : Calls Tryz.prog 277 #[.pointer (some ⟨g, 0, none⟩)] w (Post g d w (.string (keyF s).1) (keyF s).2) := by
  unfold keyF
  by_cases h1 : s.next.kind = 1
  · rw [if_pos (.inl h1)]; exact key_1 h hX h1
  by_cases h2 : s.next.kind = 2
  · rw [if_pos (.inr (.inl h2))]; exact key_2 h hX h2
  by_cases h4 : s.next.kind = 4
  · rw [if_pos (.inr (.inr h4))]; exact key_4 h hX h4
  rw [if_neg (fun h => h.elim h1 (fun h => h.elim h2 h4))]
  by_cases h3 : s.next.kind = 3
  · rw [if_pos h3]; exact key_3 h hX h3
  · rw [if_neg h3]; exact key_0 h hX h1 h2 h4 h3

set_option maxRecDepth 100000 in
set_option maxHeartbeats 4000000 in
theorem hand_any {d : Nat} {L : Low} (hL : LowC d L) {g : Nat} {s : PS} {w : World} (h : At g d s w) (hX : Gx g w) :
    Calls Tryz.prog 142 #[.pointer (some ⟨g, 0, none⟩)] w (PostN g d w (handF L s)) := by
  have E0 := (Env.start h hX).new zeroN
  have c0 := needs_any E0.at_ ⟨#[40]⟩
  have HE0 := Lib.hid E0
  clear E0 h hX
  go_enter Tryz.func142, Tryz.ntmps142
  go_wp2_with (first | (go_at_call 93; (with_reducible refine c0.mono ?_); intro e w1 hp; obtain ⟨rfl, E1⟩ := HE0.out.call hp; have c1 := name_any E1.at_; have HE1 := Lib.hid E1; clear hp E1) | (go_at_call 88; (with_reducible refine c1.mono ?_); intro e w2 hp; obtain ⟨rfl, E2⟩ := HE1.out.call hp; have E2 := (E2.leaf 39 0 (nameF (needsF ⟨#[40]⟩ s)).1).new ⟨39, 0, (nameF (needsF ⟨#[40]⟩ s)).1, nilSl, nilSl⟩; have c2 := needs_any E2.at_ ⟨#[41]⟩; have HE2 := Lib.hid E2; clear hp E2) | (go_at_call 93; (with_reducible refine c2.mono ?_); intro e w3 hp; obtain ⟨rfl, E3⟩ := HE2.out.call hp; have c3 := block_any hL E3.at_ E3.gx; have HE3 := Lib.hid E3; clear hp E3) | (go_at_call 85; (with_reducible refine c3.mono ?_); intro e w4 hp; obtain ⟨N4, rfl, E4⟩ := HE3.out.callN hp; have E5 := E4.kids1 List.mem_cons_self 39 0 (nameF (needsF ⟨#[40]⟩ s)).1; have f5 := fun o j => (E4.alloc o).fz 0 rfl j; have d5 := fun o => (E4.alloc o).c4 0 rfl; have E6 := E5.set4 0 rfl (some ⟨w4.heap.size, 0, none⟩) 1 1; have l6 := E6.ld 0 rfl; have s6 := E6.sto 1 rfl; have HE6 := Lib.hid E6; clear E5 E6; have HE4 := Lib.hid E4; clear hp E4))
  exact ((HE6.out.store 1 rfl _).fin (List.mem_cons_of_mem _ List.mem_cons_self) List.mem_cons_self rfl rfl)

set_option maxRecDepth 100000 in
set_option maxHeartbeats 4000000 in
theorem let_true {d : Nat} {L : Low} (hL : LowC d L) {g : Nat} {s : PS} {w : World} (h : At g d s w) (hX : Gx g w) (hk : seesF ⟨#[61]⟩ (nameF s).2 = true) :
    Calls Tryz.prog 143 #[.pointer (some ⟨g, 0, none⟩)] w (PostN g d w (letF L s)) := by
  have E0 := (Env.start h hX).new zeroN
  have c0 := name_any E0.at_
  have HE0 := Lib.hid E0
  unfold letF
  simp only
  rw [hk]
  clear E0 h hX
  go_enter Tryz.func143, Tryz.ntmps143
  go_wp2_with (first | (go_at_call 88; (with_reducible refine c0.mono ?_); intro e w1 hp; obtain ⟨rfl, E1⟩ := HE0.out.call hp; have E1 := E1.new ⟨30, 0, (nameF s).1, nilSl, nilSl⟩; have c1 := takes_t E1.at_ hk; have HE1 := Lib.hid E1; clear hp E1) | (go_at_call 86; (with_reducible refine c1.mono ?_); intro e w2 hp; obtain ⟨rfl, E2⟩ := HE1.out.call hp; have c2 := hL.ex E2.at_ E2.gx; have HE2 := Lib.hid E2; clear hp E2) | (go_at_call 141; (with_reducible refine c2.mono ?_); intro e w3 hp; obtain ⟨N3, rfl, E3⟩ := HE2.out.callN hp; have E5 := E3.kids1 List.mem_cons_self 30 0 (nameF s).1; have f5 := fun o j => (E3.alloc o).fz 0 rfl j; have d5 := fun o => (E3.alloc o).c4 0 rfl; have E6 := E5.set4 0 rfl (some ⟨w3.heap.size, 0, none⟩) 1 1; have l6 := E6.ld 0 rfl; have s6 := E6.sto 1 rfl; have HE6 := Lib.hid E6; clear E5 E6; have HE3 := Lib.hid E3; clear hp E3))
  exact ((HE6.out.store 1 rfl _).fin (List.mem_cons_of_mem _ List.mem_cons_self) List.mem_cons_self rfl rfl)

set_option maxRecDepth 100000 in
set_option maxHeartbeats 4000000 in
theorem let_false {d : Nat} {L : Low} (hL : LowC d L) {g : Nat} {s : PS} {w : World} (h : At g d s w) (hX : Gx g w) (hk : seesF ⟨#[61]⟩ (nameF s).2 = false) :
    Calls Tryz.prog 143 #[.pointer (some ⟨g, 0, none⟩)] w (PostN g d w (letF L s)) := by
  have E0 := (Env.start h hX).new zeroN
  have c0 := name_any E0.at_
  have HE0 := Lib.hid E0
  unfold letF
  simp only
  rw [hk]
  clear E0 h hX
  go_enter Tryz.func143, Tryz.ntmps143
  go_wp2_with (first | (go_at_call 88; (with_reducible refine c0.mono ?_); intro e w1 hp; obtain ⟨rfl, E1⟩ := HE0.out.call hp; have E1 := E1.new ⟨30, 0, (nameF s).1, nilSl, nilSl⟩; have c1 := takes_f E1.at_ hk; have HE1 := Lib.hid E1; clear hp E1) | (go_at_call 86; (with_reducible refine c1.mono ?_); intro e w2 hp; obtain ⟨rfl, E2⟩ := HE1.out.call hp; have E2 := E2.leaf 30 0 (nameF s).1; have l6 := E2.ld 0 rfl; have s6 := E2.sto 1 rfl; have HE2 := Lib.hid E2; clear hp E2))
  exact ((HE2.out.store 1 rfl _).fin (List.mem_cons_of_mem _ List.mem_cons_self) List.mem_cons_self rfl rfl)

theorem let_any {d : Nat} {L : Low} (hL : LowC d L) {g : Nat} {s : PS} {w : World} (h : At g d s w) (hX : Gx g w) : Calls Tryz.prog 143 #[.pointer (some ⟨g, 0, none⟩)] w (PostN g d w (letF L s)) := by
  cases hk : seesF ⟨#[61]⟩ (nameF s).2 with
  | true => exact let_true hL h hX hk
  | false => exact let_false hL h hX hk

set_option maxRecDepth 100000 in
set_option maxHeartbeats 4000000 in
theorem const_any {d : Nat} {L : Low} (hL : LowC d L) {g : Nat} {s : PS} {w : World} (h : At g d s w) (hX : Gx g w) :
    Calls Tryz.prog 144 #[.pointer (some ⟨g, 0, none⟩)] w (PostN g d w (constF L s)) := by
  have E0 := (Env.start h hX).new zeroN
  have c0 := name_any E0.at_
  have HE0 := Lib.hid E0
  clear E0 h hX
  go_enter Tryz.func144, Tryz.ntmps144
  go_wp2_with (first | (go_at_call 88; (with_reducible refine c0.mono ?_); intro e w1 hp; obtain ⟨rfl, E1⟩ := HE0.out.call hp; have E1 := E1.new ⟨31, 0, (nameF s).1, nilSl, nilSl⟩; have c1 := needs_any E1.at_ ⟨#[61]⟩; have HE1 := Lib.hid E1; clear hp E1) | (go_at_call 93; (with_reducible refine c1.mono ?_); intro e w2 hp; obtain ⟨rfl, E2⟩ := HE1.out.call hp; have c2 := hL.ex E2.at_ E2.gx; have HE2 := Lib.hid E2; clear hp E2) | (go_at_call 141; (with_reducible refine c2.mono ?_); intro e w3 hp; obtain ⟨N3, rfl, E3⟩ := HE2.out.callN hp; have E5 := E3.kids1 List.mem_cons_self 31 0 (nameF s).1; have f5 := fun o j => (E3.alloc o).fz 0 rfl j; have d5 := fun o => (E3.alloc o).c4 0 rfl; have E6 := E5.set4 0 rfl (some ⟨w3.heap.size, 0, none⟩) 1 1; have l6 := E6.ld 0 rfl; have s6 := E6.sto 1 rfl; have HE6 := Lib.hid E6; clear E5 E6; have HE3 := Lib.hid E3; clear hp E3))
  exact ((HE6.out.store 1 rfl _).fin (List.mem_cons_of_mem _ List.mem_cons_self) List.mem_cons_self rfl rfl)

set_option maxRecDepth 100000 in
set_option maxHeartbeats 4000000 in
theorem get_any {d : Nat} {L : Low} (hL : LowC d L) {g : Nat} {s : PS} {w : World} (h : At g d s w) (hX : Gx g w) :
    Calls Tryz.prog 278 #[.pointer (some ⟨g, 0, none⟩)] w (PostN g d w (getF L s)) := by
  have E0 := (Env.start h hX).new zeroN
  have c0 := key_any E0.at_ E0.gx
  obtain ⟨K, hK⟩ : ∃ K, keyF s = K := ⟨_, rfl⟩
  unfold getF
  rw [hK] at c0 ⊢
  have HE0 := Lib.hid E0
  clear E0 h hX hK
  go_enter Tryz.func278, Tryz.ntmps278
  go_wp2_with (first | (go_at_call 277; (with_reducible refine c0.mono ?_); intro e w1 hp; obtain ⟨rfl, E1⟩ := HE0.out.call hp; have E1 := E1.new ⟨12, 0, K.1, nilSl, nilSl⟩; have c1 := needs_any E1.at_ ⟨#[40]⟩; have HE1 := Lib.hid E1; clear hp E1) | (go_at_call 93; (with_reducible refine c1.mono ?_); intro e w2 hp; obtain ⟨rfl, E2⟩ := HE1.out.call hp; have c2 := needs_any E2.at_ ⟨#[41]⟩; have HE2 := Lib.hid E2; clear hp E2) | (go_at_call 93; (with_reducible refine c2.mono ?_); intro e w3 hp; obtain ⟨rfl, E3⟩ := HE2.out.call hp; have c3 := block_any hL E3.at_ E3.gx; have HE3 := Lib.hid E3; clear hp E3) | (go_at_call 85; (with_reducible refine c3.mono ?_); intro e w4 hp; obtain ⟨N4, rfl, E4⟩ := HE3.out.callN hp; have E5 := (E4.kidsOfN List.mem_cons_self 14).new (kidN 14 ⟨N4.kids.a, N4.kids.n, N4.kids.c⟩); have E6 := E5.kids1 List.mem_cons_self 12 0 K.1; have f5 := fun o j => (E5.alloc o).fz 1 rfl j; have d5 := fun o => (E5.alloc o).c4 1 rfl; have E7 := E6.set4 1 rfl (some ⟨w4.heap.size + 1, 0, none⟩) 1 1; have l6 := E7.ld 1 rfl; have s6 := E7.sto 2 rfl; have HE7 := Lib.hid E7; clear E5 E6 E7; have HE4 := Lib.hid E4; clear hp E4))
  have e : (newSl (w4.alloc (.cells (ncs (kidN 14 ⟨N4.kids.a, N4.kids.n, N4.kids.c⟩)) 27)).heap.size 1) = newSl (w4.heap.size + 1) 1 := by simp
  have E8 := HE7.out
  rw [e] at E8
  exact ((E8.store 2 rfl _).fin (List.mem_cons_of_mem _ (List.mem_cons_of_mem _ List.mem_cons_self)) List.mem_cons_self rfl rfl)

end Go.Proofs.YtkknglmpdmhhjaaGreatDoor.Pa
