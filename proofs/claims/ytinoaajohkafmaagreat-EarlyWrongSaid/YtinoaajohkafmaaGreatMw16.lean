/-
  Texts of this seat in build order: RpAt, RlMem, RlTok, RlName.
-/
import Derived.Test.YtinoaajohkafmaaGreatMw04
import Derived.Test.YtinoaajohkafmaaGreatMw15
import Derived.Test.YtinoaajohkafmaaGreatMw05
/-
  The reference's parser in memory, and what its small methods do.
-/
namespace Go.Proofs.YtinoaajohkafmaaGreat.Rp
open Go Go.RowKit Go.Proofs.YtinoaajohkafmaaGreat.Lx Go.Proofs.YtinoaajohkafmaaGreat.Uni Go.Proofs.YtinoaajohkafmaaGreat.Pa
set_option linter.unusedVariables false
set_option linter.unusedSimpArgs false
def WordsOk (L : List Tok) : Prop := ∀ t ∈ L, t.kind = 2 → t.text ≠ ⟨#[58]⟩
def At (g d : Nat) (s : PS) (w : World) : Prop :=
  OkS s ∧ ∃ (v : Sl) (L : List Tok) (k : Nat) (D : Int), w.heap[g]? = some (.cells #[v.v, .int .i64 (k : Int), .int .i64 D, .int .i64 s.fault, .int .i64 s.pos] 54 (0, 0)) ∧ Tks g w v L ∧ k < L.length ∧ (L.length ≤ 100000 ∧ WordsOk L) ∧ (s.fault = 0 → s.left = L.drop k ∧ D = (d : Int) ∧ s.pos = 0)
theorem At.lt {g d : Nat} {s : PS} {w : World} (h : At g d s w) : g < w.heap.size := by
  obtain ⟨-, v, L, k, D, h1, -⟩ := h
  exact lt_of_block h1
theorem At.ok {g d : Nat} {s : PS} {w : World} (h : At g d s w) : OkS s := h.1
theorem At.below {g d : Nat} {s : PS} {w w' : World} (h : At g d s w) (hb : Below w.heap.size w w') : At g d s w' := by
  have hlt := h.lt
  obtain ⟨h0, v, L, k, D, h1, h2, h3⟩ := h
  exact ⟨h0, v, L, k, D, (hb.block g hlt).trans h1, h2.keep fun b hb1 _ _ => hb.block b hb1, h3⟩
theorem At.alloc {g d : Nat} {s : PS} {w : World} (h : At g d s w) (o : Obj) : At g d s (w.alloc o) := h.below bel1
theorem At.drewN {g d : Nat} {s : PS} {w : World} (h : At g d s w) (n : Nat) : At g d s (w.drewN n) := h
theorem At.drew {g d : Nat} {s : PS} {w : World} (h : At g d s w) : At g d s w.drew := h
theorem At.row {g d : Nat} {s : PS} {w : World} (h : At g d s w) {b : Nat} {cs cs' : Array Value} (hb : Blk w b cs 25) : At g d s (w.setRow b cs') := by
  obtain ⟨h0, v, L, k, D, h1, h2, h3⟩ := h
  have hne : g ≠ b := by
    rintro rfl
    unfold Blk at hb
    rw [hb] at h1
    simp at h1
  refine ⟨h0, v, L, k, D, (setRow_other w b g cs' hne).trans h1, h2.keep fun b2 _ _ hc => ?_, h3⟩
  obtain ⟨cur, hc⟩ := hc
  refine setRow_other w b b2 cs' ?_
  rintro rfl
  unfold Blk at hb
  rw [hb] at hc
  simp at hc
def Post (g d : Nat) (w : World) (v : Value) (s : PS) (e : Ending) (w' : World) : Prop := e = .returned v ∧ At g d s w' ∧ GB g w w'
def PostS (S : Nat → Prop) (g d : Nat) (w : World) (R : Tree × PS) (e : Ending) (w' : World) : Prop := ∃ N, e = .returned (.agg (ncs N)) ∧ Rep (fun b => S b ∨ w.heap.size ≤ b) w' R.1 N ∧ At g d R.2 w' ∧ GB g w w'
abbrev PostN (g d : Nat) (w : World) (R : Tree × PS) : Ending → World → Prop := PostS (fun _ => False) g d w R
structure Opn (g d : Nat) (s : PS) (w : World) (b o c n k : Nat) (D : Int) (T : Tok) : Prop where
  c0 : w.cell? ⟨g, 0, none⟩ = some (.slice (some ⟨b, o, none⟩) n c)
  c1 : w.cell? ⟨g, 1, none⟩ = some (.int .i64 (k : Int))
  c2 : w.cell? ⟨g, 2, none⟩ = some (.int .i64 D)
  c3 : w.cell? ⟨g, 3, none⟩ = some (.int .i64 s.fault)
  c4 : w.cell? ⟨g, 4, none⟩ = some (.int .i64 s.pos)
  fz : ∀ i, w.frozen? ⟨g, i, none⟩ = false
  rg : w.rangeAt b (o + k * 4) (kcs T).toList
  kn : k < n
  nc : n ≤ c
  n5 : n ≤ 100000
  lv : s.fault = 0 → T = s.next ∧ D = (d : Int) ∧ s.pos = 0 ∧ k + s.left.length = n
theorem tcells_at : ∀ {L : List Tok} {k : Nat} {t : Tok}, L[k]? = some t → ∀ {j : Nat} {u : Value}, (kcs t).toList[j]? = some u → (tcells L)[k * 4 + j]? = some u
  | [], k, t, h, _, _, _ => by simp at h
  | a :: L, 0, t, h, j, u, hu => by
    simp at h; subst h
    have e : tcells (a :: L) = (kcs a).toList ++ tcells L := rfl
    rw [e, Nat.zero_mul, Nat.zero_add, List.getElem?_append_left (List.getElem?_eq_some_iff.1 hu).1]
    exact hu
  | a :: L, k + 1, t, h, j, u, hu => by
    simp at h
    have e : tcells (a :: L) = (kcs a).toList ++ tcells L := rfl
    rw [e, List.getElem?_append_right (by rw [kcs_list]; omega), kcs_list, show (k + 1) * 4 + j - 4 = k * 4 + j from by omega]
    exact tcells_at h hu
theorem At.opnL {g d : Nat} {s : PS} {w : World} (h : At g d s w) : ∃ (L : List Tok) (b o c k : Nat) (D : Int) (T : Tok), Opn g d s w b o c L.length k D T ∧ w.rangeAt b o (tcells L) ∧ WordsOk L ∧ (s.fault = 0 → s.left = L.drop k) := by
  obtain ⟨h0, v, L, k, D, h1, ⟨b, o, cur, h2, h3, h4, h5, h6⟩, h7, h8, h9⟩ := h
  obtain ⟨T, hT⟩ : ∃ T, L[k]? = some T := ⟨_, List.getElem?_eq_getElem h7⟩
  refine ⟨L, b, o, v.c, k, D, T, ⟨?_, ?_, ?_, ?_, ?_, fun i => by simp [World.frozen?, h1], fun j u hj => ?_, h7, h6, h8.1, fun hf => ?_⟩, h5, h8.2, fun hf => (h9 hf).1⟩
  · simp only [World.cell?, h1]; rw [h2]; rfl
  · simp only [World.cell?, h1]; rfl
  · simp only [World.cell?, h1]; rfl
  · simp only [World.cell?, h1]; rfl
  · simp only [World.cell?, h1]; rfl
  · have := h5 (k * 4 + j) u (tcells_at hT hj)
    rwa [show o + (k * 4 + j) = o + k * 4 + j from by omega] at this
  · obtain ⟨e1, e2, e3⟩ := h9 hf
    refine ⟨?_, e2, e3, by rw [e1, List.length_drop]; omega⟩
    unfold PS.next
    rw [e1]
    cases hd : L.drop k with
    | nil => rw [List.drop_eq_nil_iff] at hd; omega
    | cons a r =>
      have := congrArg List.head? hd
      rw [List.head?_drop, hT] at this
      simp at this
      rw [this]
      rfl
theorem At.opn {g d : Nat} {s : PS} {w : World} (h : At g d s w) : ∃ b o c n k D T, Opn g d s w b o c n k D T := by
  obtain ⟨L, b, o, c, k, D, T, ho, -⟩ := h.opnL
  exact ⟨b, o, c, L.length, k, D, T, ho⟩
theorem At.opn2 {g d : Nat} {s : PS} {w : World} (h : At g d s w) (hf : s.fault = 0) (hk : ¬ (s.next.kind = 0 ∨ s.next.kind = -1)) : ∃ b o c n k D T, Opn g d s w b o c n k D T ∧ k + 1 < n ∧ w.rangeAt b (o + (k + 1) * 4) (kcs s.take.next).toList ∧ (s.take.next.kind = 2 → s.take.next.text ≠ ⟨#[58]⟩) := by
  obtain ⟨L, b, o, c, k, D, T, ho, hr, hw, hl⟩ := h.opnL
  have e2 := hl hf
  obtain ⟨t1, t2⟩ := h.1.take hk
  have hp := t1.pos
  have hlen : s.left.length = L.length - k := by rw [e2, List.length_drop]
  have hk1 : k + 1 < L.length := by omega
  obtain ⟨T2, hT2⟩ : ∃ T2, L[k + 1]? = some T2 := ⟨_, List.getElem?_eq_getElem hk1⟩
  have hn : s.take.next = T2 := by
    unfold PS.next PS.take
    simp only
    rw [e2, List.tail_drop, List.headD_eq_head?_getD, List.head?_drop, hT2]
    rfl
  rw [hn]
  refine ⟨b, o, c, L.length, k, D, T, ho, hk1, fun j u hj => ?_, hw T2 (List.mem_of_getElem? hT2)⟩
  have := hr ((k + 1) * 4 + j) u (tcells_at hT2 hj)
  rwa [show o + ((k + 1) * 4 + j) = o + (k + 1) * 4 + j from by omega] at this
theorem At.setk {g d : Nat} {s : PS} {w : World} (h : At g d s w) (hk : ¬ (s.next.kind = 0 ∨ s.next.kind = -1)) {b o c n k : Nat} {D : Int} {T : Tok} (ho : Opn g d s w b o c n k D T) {m : Int} (hm : m = ((k + 1 : Nat) : Int)) : At g d s.take (w.setCell ⟨g, 1, none⟩ (.int .i64 m)) := by
  subst hm
  obtain ⟨h0, v, L, k', D', h1, h2, h7, h8, h9⟩ := h
  have e1 : k' = k := by
    have := ho.c1
    simp only [World.cell?, h1] at this
    simp at this
    omega
  subst e1
  have hf := h0.live (fun e => hk (.inr e))
  obtain ⟨t1, t2⟩ := h0.take hk
  obtain ⟨e2, e3, e4⟩ := h9 hf
  have hft : s.take.fault = s.fault := rfl
  have hpt : s.take.pos = s.pos := rfl
  have hl := t1.pos
  have hlen : s.left.length = L.length - k' := by rw [e2, List.length_drop]
  refine ⟨t1, v, L, k' + 1, D', ?_, h2.keep fun b _ hb _ => heap_setCell_other w ⟨g, 1, none⟩ b _ hb, by omega, h8, fun _ => ⟨?_, e3, e4⟩⟩
  · exact heap_setCell_same w g 1 _ _ _ h1
  · unfold PS.take
    simp only
    rw [e2, List.tail_drop]
theorem At.setd {g d d' : Nat} {s : PS} {w : World} (h : At g d s w) {m : Int} (hm : s.fault = 0 → m = (d' : Int)) : At g d' s (w.setCell ⟨g, 2, none⟩ (.int .i64 m)) := by
  obtain ⟨h0, v, L, k', D', h1, h2, h7, h8, h9⟩ := h
  refine ⟨h0, v, L, k', m, ?_, h2.keep fun b _ hb _ => heap_setCell_other w ⟨g, 2, none⟩ b _ hb, h7, h8, fun hf => ⟨(h9 hf).1, hm hf, (h9 hf).2.2⟩⟩
  exact heap_setCell_same w g 2 _ _ _ h1
theorem At.set3 {g d : Nat} {s : PS} {w : World} (h : At g d s w) {e : Int} (he : e ≠ 0) : At g d ⟨[stopK], s.pos, e⟩ (w.setCell ⟨g, 3, none⟩ (.int .i64 e)) := by
  obtain ⟨h0, v, L, k', D', h1, h2, h7, h8, h9⟩ := h
  exact ⟨stop_ok _ _ he, v, L, k', D', heap_setCell_same w g 3 _ _ (.int .i64 e) h1, h2.keep fun b _ hb _ => heap_setCell_other w ⟨g, 3, none⟩ b _ hb, h7, h8, fun hf2 => absurd hf2 he⟩
theorem At.set4 {g d : Nat} {l : List Tok} {p e : Int} {w : World} (h : At g d ⟨l, p, e⟩ w) (he : e ≠ 0) (q : Int) : At g d ⟨l, q, e⟩ (w.setCell ⟨g, 4, none⟩ (.int .i64 q)) := by
  obtain ⟨h0, v, L, k', D', h1, h2, h7, h8, h9⟩ := h
  have hl : l = [stopK] := h0.st he
  subst hl
  exact ⟨stop_ok _ _ he, v, L, k', D', heap_setCell_same w g 4 _ _ (.int .i64 q) h1, h2.keep fun b _ hb _ => heap_setCell_other w ⟨g, 4, none⟩ b _ hb, h7, h8, fun hf2 => absurd hf2 he⟩
attribute [local go_sem ↓] ldK stK alK bdK bsK
attribute [local irreducible] kcs
attribute [local go_sem] run_alK run_bdK0 run_bdKs run_bdKn run_bdKe run_bsK run_fdK0 run_fdK1 run_fdK2 run_fdK3 run_fdN4
set_option maxRecDepth 100000 in
set_option maxHeartbeats 2000000 in
theorem now_raw {g : Nat} {w : World} {b o c n k : Nat} {T : Tok} (hlt : g < w.heap.size) (h0 : w.cell? ⟨g, 0, none⟩ = some (.slice (some ⟨b, o, none⟩) n c)) (h1 : w.cell? ⟨g, 1, none⟩ = some (.int .i64 (k : Int))) (hrg : w.rangeAt b (o + k * 4) (kcs T).toList) (kn : k < n) (n5 : n ≤ 100000) :
    Calls Tryz.prog 36 #[.pointer (some ⟨g, 0, none⟩)] w (PostR w (.agg (kcs T))) := by
  have c0 : ∀ x, (w.alloc x).cell? ⟨g, 0, none⟩ = some (.slice (some ⟨b, o, none⟩) n c) := fun x => by rw [World.cell?_alloc_past _ _ _ hlt]; exact h0
  have c1 : ∀ x, (w.alloc x).cell? ⟨g, 1, none⟩ = some (.int .i64 (k : Int)) := fun x => by rw [World.cell?_alloc_past _ _ _ hlt]; exact h1
  have hl := run_ldKm (w := w.alloc (.cells (kcs zeroK) 73)) (b := b) (o := o + k * 4) (t := T) (fun j u hj => by have := hrg j u hj; rw [World.cell?_alloc_past _ _ _ (World.block_lt_of_cell? w _ this)]; exact this)
  have hld := run_ldKm (w := (w.alloc (.cells (kcs zeroK) 73)).drew) (b := b) (o := o + k * 4) (t := T) (fun j u hj => show (w.alloc (.cells (kcs zeroK) 73)).cell? _ = _ from by have := hrg j u hj; rw [World.cell?_alloc_past _ _ _ (World.block_lt_of_cell? w _ this)]; exact this)
  have bN := (Blk.new w (kcs zeroK) 73).drew
  have hs := run_stK (t := T) bN
  have HBN := Lib.hid (bN.row (kcs T))
  have kni : (k : Int) < (n : Int) := by omega
  have k5 : (k : Int) ≤ 100000 := by omega
  clear h0 h1 hrg bN
  go_enter Tryz.func36, Tryz.ntmps36
  go_wp2
  go_region
  all_goals go_wp2
  all_goals exact bodyPost_ret (res_T rfl _ _ w.heap.size T rfl HBN.out) rfl ⟨rfl, below_row ((bel1).trans (Below.refl _ _).drew) _ (Nat.le_refl _)⟩
theorem now_opn {g d : Nat} {s : PS} {w : World} {b o c n k : Nat} {D : Int} {T : Tok} (h : At g d s w) (ho : Opn g d s w b o c n k D T) :
    Calls Tryz.prog 36 #[.pointer (some ⟨g, 0, none⟩)] w (PostR w (.agg (kcs T))) := now_raw h.lt ho.c0 ho.c1 ho.rg ho.kn ho.n5
theorem now_any {g d : Nat} {s : PS} {w : World} (h : At g d s w) (hf : s.fault = 0) :
    Calls Tryz.prog 36 #[.pointer (some ⟨g, 0, none⟩)] w (PostR w (.agg (kcs s.next))) := by
  obtain ⟨b, o, c, n, k, D, T, ho⟩ := h.opn
  have := now_opn h ho
  rw [(ho.lv hf).1] at this
  exact this
end Go.Proofs.YtinoaajohkafmaaGreat.Rp

/-
  The reference's lexer in memory; rest, fail.
-/
namespace Go.Proofs.YtinoaajohkafmaaGreat.Rl
open Go Go.RowKit Go.Proofs.YtinoaajohkafmaaGreat.Uni Go.Proofs.YtinoaajohkafmaaGreat.Lx
set_option linter.unusedVariables false
set_option linter.unusedSimpArgs false
def lxs (s : ByteArray) (p : Nat) (b : Bool) (S : Pa.Sl) : Array Value := #[.string s, .int .i64 (p : Int), .bool b, .slice S.a S.n S.c]
def LxAt (g : Nat) (s : ByteArray) (p : Nat) (b : Bool) (S : Pa.Sl) (w : World) : Prop := Blk w g (lxs s p b S) 71
theorem LxAt.c0 {g p : Nat} {s : ByteArray} {b : Bool} {S : Pa.Sl} {w : World} (h : LxAt g s p b S w) : w.cell? ⟨g, 0, none⟩ = some (.string s) := (Blk.cell h 0).trans rfl
theorem LxAt.c1 {g p : Nat} {s : ByteArray} {b : Bool} {S : Pa.Sl} {w : World} (h : LxAt g s p b S w) : w.cell? ⟨g, 1, none⟩ = some (.int .i64 (p : Int)) := (Blk.cell h 1).trans rfl
theorem LxAt.c2 {g p : Nat} {s : ByteArray} {b : Bool} {S : Pa.Sl} {w : World} (h : LxAt g s p b S w) : w.cell? ⟨g, 2, none⟩ = some (.bool b) := (Blk.cell h 2).trans rfl
theorem LxAt.c3 {g p : Nat} {s : ByteArray} {b : Bool} {S : Pa.Sl} {w : World} (h : LxAt g s p b S w) : w.cell? ⟨g, 3, none⟩ = some (.slice S.a S.n S.c) := (Blk.cell h 3).trans rfl
theorem LxAt.fz {g p : Nat} {s : ByteArray} {b : Bool} {S : Pa.Sl} {w : World} (h : LxAt g s p b S w) (i : Nat) : w.frozen? ⟨g, i, none⟩ = false := Blk.frozen h i
theorem LxAt.set1 {g p : Nat} {s : ByteArray} {b : Bool} {S : Pa.Sl} {w : World} (h : LxAt g s p b S w) (q : Nat) : LxAt g s q b S (w.setCell ⟨g, 1, none⟩ (.int .i64 (q : Int))) := Blk.set h 1 _
theorem LxAt.set3 {g p : Nat} {s : ByteArray} {b : Bool} {S : Pa.Sl} {w : World} (h : LxAt g s p b S w) (T : Pa.Sl) : LxAt g s p b T (w.setCell ⟨g, 3, none⟩ (.slice T.a T.n T.c)) := Blk.set h 3 _
theorem LxAt.below {g p : Nat} {s : ByteArray} {b : Bool} {S : Pa.Sl} {w w' : World} (h : LxAt g s p b S w) (hb : Below w.heap.size w w') : LxAt g s p b S w' := Blk.call h hb
theorem LxAt.drewN {g p : Nat} {s : ByteArray} {b : Bool} {S : Pa.Sl} {w : World} (h : LxAt g s p b S w) (n : Nat) : LxAt g s p b S (w.drewN n) := Blk.drewN h n
theorem below_dn {w w1 : World} {n : Nat} (hb : Below (w.drewN n).heap.size (w.drewN n) w1) : Below w.heap.size w w1 := (bl_drewN (n := n) (Below.refl _ w)).trans (hb.mono (Nat.le_refl _))
def restB (s : ByteArray) (p : Nat) (t : ByteArray) : Bool := decide (p + t.size ≤ s.size) && ((s.extract p (p + t.size)).toList == t.toList)
theorem rest_t {g p : Nat} {s t : ByteArray} {b : Bool} {S : Pa.Sl} {w : World} (h : LxAt g s p b S w) (hs : s.size ≤ 1000000) (ht : t.size ≤ 1000000) (hp : p + t.size ≤ s.size) :
    Calls Tryz.prog 55 #[ptr g, .string t] w fun e w' => e = .returned (.bool (restB s p t)) ∧ Below w.heap.size w w' := by
  have h0 := h.c0
  have h1 := h.c1
  have q : (t.size : Int) ≤ (s.size : Int) - (p : Int) := by omega
  have er : restB s p t = ((s.extract p (p + t.size)).toList == t.toList) := by unfold restB; rw [decide_eq_true hp]; rfl
  rw [er]
  have hp0 : (0 : Int) ≤ p := by omega
  have hp1 : (p : Int) ≤ (p : Int) + (t.size : Int) := by omega
  have hp2 : (p : Int) + (t.size : Int) ≤ s.size := by omega
  have en : ((p : Int) + (t.size : Int)).toNat = p + t.size := by omega
  go_enter Tryz.func55, Tryz.ntmps55
  go_wp2
  go_quiet (fail)
  go_wp2
  go_ret
  exact ⟨rfl, bl_drewN (Below.refl _ w)⟩
theorem rest_f {g p : Nat} {s t : ByteArray} {b : Bool} {S : Pa.Sl} {w : World} (h : LxAt g s p b S w) (hs : s.size ≤ 1000000) (ht : t.size ≤ 1000000) (hps : p ≤ s.size) (hp : ¬ p + t.size ≤ s.size) :
    Calls Tryz.prog 55 #[ptr g, .string t] w fun e w' => e = .returned (.bool (restB s p t)) ∧ Below w.heap.size w w' := by
  have h0 := h.c0
  have h1 := h.c1
  have q : (s.size : Int) - (p : Int) < (t.size : Int) := by omega
  have b1 : IntKind.i64.wrap ((s.size : Int) - (p : Int)) = (s.size : Int) - (p : Int) := (by rw [IntKind.wrap_i64]; omega)
  have b2 : decide ((t.size : Int) ≤ (s.size : Int) - (p : Int)) = false := by simp; omega
  have er : restB s p t = false := by unfold restB; rw [decide_eq_false hp]; rfl
  rw [er]
  have hp0 : (0 : Int) ≤ p := by omega
  go_enter Tryz.func55, Tryz.ntmps55
  go_wp2
  go_quiet (fail)
  go_wp2
  go_ret
  exact ⟨rfl, bl_drewN (Below.refl _ w)⟩
theorem rest_any {g p : Nat} {s t : ByteArray} {b : Bool} {S : Pa.Sl} {w : World} (h : LxAt g s p b S w) (hs : s.size ≤ 1000000) (ht : t.size ≤ 1000000) (hps : p ≤ s.size) :
    Calls Tryz.prog 55 #[ptr g, .string t] w fun e w' => e = .returned (.bool (restB s p t)) ∧ Below w.heap.size w w' := by
  by_cases hp : p + t.size ≤ s.size
  · exact rest_t h hs ht hp
  · exact rest_f h hs ht hps hp
def measL (g n : Nat) (w : World) : Nat := n - (match w.cell? ⟨g, 1, none⟩ with | some (.int _ x) => x.toNat | _ => 0)
theorem LxAt.meas {g p n : Nat} {s : ByteArray} {b : Bool} {S : Pa.Sl} {w : World} (h : LxAt g s p b S w) : measL g n w = n - p := by unfold measL; rw [h.c1]; simp
def goF (f : Nat → Bool) (s : ByteArray) : Nat → Nat → Nat
  | 0, p => p
  | k + 1, p => if p < s.size ∧ f (B s p) = true then goF f s k (p + 1) else p
theorem goF_le (f : Nat → Bool) (s : ByteArray) : ∀ k p, p ≤ s.size → p ≤ goF f s k p ∧ goF f s k p ≤ s.size
  | 0, p, h => ⟨Nat.le_refl _, h⟩
  | k + 1, p, h => by
    unfold goF
    split
    · rename_i hc; have := goF_le f s k (p + 1) hc.1; omega
    · exact ⟨Nat.le_refl _, h⟩
theorem goF_stop {f : Nat → Bool} {s : ByteArray} {k p : Nat} (h : ¬ (p < s.size ∧ f (B s p) = true)) : goF f s k p = p := by
  cases k with
  | zero => rfl
  | succ k => unfold goF; rw [if_neg h]
theorem goF_go {f : Nat → Bool} {s : ByteArray} {p : Nat} (h : p < s.size) (h2 : f (B s p) = true) : goF f s (s.size - p) p = goF f s (s.size - (p + 1)) (p + 1) := by
  obtain ⟨k, hk⟩ : ∃ k, s.size - p = k + 1 := ⟨s.size - p - 1, by omega⟩
  rw [hk]
  conv => lhs; unfold goF
  rw [if_pos ⟨h, h2⟩]
  congr 1
  omega
theorem byte_first {s t : ByteArray} {p : Nat} (ht : 0 < t.size) (h : restB s p t = true) : B s p = B t 0 := by
  unfold restB at h
  simp only [Bool.and_eq_true, decide_eq_true_eq, beq_iff_eq, ByteArray.toList_eq] at h
  obtain ⟨h1, h2⟩ := h
  have e : (s.extract p (p + t.size)).data.toList = (s.data.toList.drop p).take t.size := by simp [ByteArray.data_extract]
  rw [e] at h2
  unfold B
  rw [← h2, List.getElem?_take_of_lt ht, List.getElem?_drop]
  rfl
def Plain (s : ByteArray) : Prop := ∀ j, B s j ≠ 47
theorem rest_plain {s t : ByteArray} {p : Nat} (h : Plain s) (ht : 0 < t.size) (h0 : B t 0 = 47) : restB s p t = false := by
  cases hr : restB s p t with
  | false => rfl
  | true => exact absurd ((byte_first ht hr).trans h0) (h p)
theorem idx_p (t : ByteArray) (k : Nat) (hk : k < t.size) (w : World) : (Instr.index 9 (.string t) (.int .i64 (k : Int))).run Tryz.prog w = .ok (.int .u8 (B t k : Nat)) w := idx_at t k hk k rfl w
structure SpI (g : Nat) (s : ByteArray) (S : Pa.Sl) (w wr : World) (p q : Nat) : Prop where
  at_ : LxAt g s q false S wr
  gb : GB g w wr
  le : q ≤ s.size
  eq : goF whiteN s (s.size - q) q = goF whiteN s (s.size - p) p
theorem SpI.step {g p q n : Nat} {s : ByteArray} {S : Pa.Sl} {w wr : World} (h : SpI g s S w wr p q) (hq : q < s.size) (hw : whiteN (B s q) = true) : (∃ q', SpI g s S w ((wr.drewN n).setCell ⟨g, 1, none⟩ (.int .i64 ((q : Int) + 1))) p q') ∧ measL g s.size ((wr.drewN n).setCell ⟨g, 1, none⟩ (.int .i64 ((q : Int) + 1))) < measL g s.size wr := by
  have ha : LxAt g s (q + 1) false S ((wr.drewN n).setCell ⟨g, 1, none⟩ (.int .i64 ((q : Int) + 1))) := LxAt.set1 (show LxAt g s q false S (wr.drewN n) from Blk.drewN h.at_ n) (q + 1)
  refine ⟨⟨q + 1, ha, (h.gb.trans (GB.of (bl_drewN (Below.refl _ wr)))).trans (GB.set _ _ _), by omega, ?_⟩, ?_⟩
  · rw [← goF_go hq hw]; exact h.eq
  · rw [ha.meas, h.at_.meas]; omega
theorem SpI.last {g p q : Nat} {s : ByteArray} {S : Pa.Sl} {w wr w' : World} (h : SpI g s S w wr p q) (hs : ¬ (q < s.size ∧ whiteN (B s q) = true)) (hb : Below wr.heap.size wr w') : LxAt g s (goF whiteN s (s.size - p) p) false S w' ∧ GB g w w' := by
  rw [← h.eq, goF_stop hs]
  exact ⟨Blk.call h.at_ hb, h.gb.trans (GB.of hb)⟩
set_option maxRecDepth 100000 in
set_option maxHeartbeats 4000000 in
theorem space_any {g p : Nat} {s : ByteArray} {S : Pa.Sl} {w : World} (h : LxAt g s p false S w) (hs : s.size ≤ 1000000) (hp : p ≤ s.size) (hpl : Plain s) :
    Calls Tryz.prog 34 #[ptr g] w fun e w' => e = .returned (.tuple #[]) ∧ LxAt g s (goF whiteN s (s.size - p) p) false S w' ∧ GB g w w' := by
  have HST := Lib.hid (SpI.mk (p := p) h (GB.refl g w) hp rfl)
  have HPL := Lib.hid hpl
  clear h hpl
  go_enter Tryz.func34, Tryz.ntmps34
  go_wp2
  go_loopw [] (fun wr => ∃ q, SpI g s S w wr p q) (fun wr => measL g s.size wr)
  case atStart => exact ⟨_, HST.out⟩
  case round =>
    obtain ⟨q, hI⟩ := hrel
    have hm := hI.at_.meas (n := s.size)
    have h0 := hI.at_.c0
    have h1 := hI.at_.c1
    have h2 := hI.at_.c2
    have f1 := hI.at_.fz 1
    have h3 := hI.le
    have HI := Lib.hid hI
    clear hI HST
    by_cases hq : q < s.size
    · have hqi : decide ((q : Int) < (s.size : Int)) = true := by simp; omega
      have hix := idx_p s q hq
      cases hw : whiteN (B s q) with
      | true =>
        have hwr : IntKind.i64.wrap ((q : Int) + 1) = (q : Int) + 1 := by rw [IntKind.wrap_i64]; omega
        have h4 : B s q = 32 ∨ B s q = 9 ∨ B s q = 10 ∨ B s q = 13 := by
          have := hw
          unfold whiteN endN at this
          simp only [Bool.or_eq_true, decide_eq_true_eq] at this
          exact this
        rcases h4 with e | e | e | e
        all_goals (
          rw [e] at hix
          go_wp2
          go_quiet (fail)
          go_wp2
          go_quiet (fail)
          go_wp2
          exact HI.out.step hq hw)
      | false =>
        have hA : ∀ n, LxAt g s q false S (wr.drewN n) := fun n => Blk.drewN HI.out.at_ n
        have hbn : ∀ n, Below wr.heap.size wr (wr.drewN n) := fun n => bl_drewN (Below.refl _ wr)
        have HA := Lib.hid hA
        have HBN := Lib.hid hbn
        have hend := HI.out.last (w' := wr) (fun h => by rw [hw] at h; cases h.2)
        have HEND := Lib.hid (fun w' => HI.out.last (w' := w') (fun h => by rw [hw] at h; cases h.2))
        unfold whiteN endN at hw
        simp only [Bool.or_eq_false_iff, decide_eq_false_iff_not] at hw
        obtain ⟨n32, n9, n10, n13⟩ := hw
        obtain ⟨y, hy⟩ : ∃ y, B s q = y := ⟨_, rfl⟩
        rw [hy] at hix n32 n9 n10 n13
        have m32 : ((y : Int) == 32) = false := by simp; omega
        have m9 : ((y : Int) == 9) = false := by simp; omega
        have m10 : ((y : Int) == 10) = false := by simp; omega
        have m13 : ((y : Int) == 13) = false := by simp; omega
        have r1 := rest_plain (p := q) (t := ⟨#[47, 47]⟩) HPL.out (by decide) rfl
        have r2 := rest_plain (p := q) (t := ⟨#[47, 42]⟩) HPL.out (by decide) rfl
        have hcr : ∀ n, Calls Tryz.prog 55 #[ptr g, .string ⟨#[47, 47]⟩] (wr.drewN n) fun e w' => e = .returned (.bool (restB s q ⟨#[47, 47]⟩)) ∧ Below (wr.drewN n).heap.size (wr.drewN n) w' := fun n => rest_any (hA n) hs (by decide) (by omega)
        have HCR := Lib.hid hcr
        clear hA hbn hend hcr
        go_wp2
        go_quiet (fail)
        go_wp2
        go_quiet (fail)
        go_wp2_with (first | (go_at_call 55; with_reducible refine (HCR.out _).mono ?_; rintro e w1 ⟨rfl, hb⟩; rw [r1]; have hb1 := below_dn hb; have HB1 := Lib.hid hb1; have ha1 := HI.out.at_.below hb1; have c2 := rest_any (t := ⟨#[47, 42]⟩) ha1 hs (by decide) (by omega); clear hb hb1 ha1) | (go_at_call 55; with_reducible refine c2.mono ?_; rintro e w2 ⟨rfl, hb⟩; rw [r2]; have HB2 := Lib.hid (HB1.out.trans (hb.mono HB1.out.size)); clear hb))
        refine bodyPost_ret (results_none rfl _ _ _) rfl ?_
        exact ⟨rfl, HEND.out _ HB2.out⟩
    · have hqi : decide ((q : Int) < (s.size : Int)) = false := by simp; omega
      go_wp2
      go_quiet (fail)
      go_wp2
      go_end0
      exact ⟨rfl, HI.out.last (fun h => hq h.1) (bl_drewN (Below.refl _ wr))⟩
end Go.Proofs.YtinoaajohkafmaaGreat.Rl

/-
  The reference's lexer: a token more.
-/
namespace Go.Proofs.YtinoaajohkafmaaGreat.Rl
open Go Go.RowKit Go.Proofs.YtinoaajohkafmaaGreat.Uni Go.Proofs.YtinoaajohkafmaaGreat.Lx
set_option linter.unusedVariables false
set_option linter.unusedSimpArgs false
theorem kcs_cells : (Value.agg (kcs zeroK)).cells.size = 4 := rfl
theorem tok_cells (W : World) (t : Tok) : (W.alloc (.cells (kcs t) 73)).ownsRow 0 73 4 (.slice (some ⟨W.heap.size, 0, none⟩) 1 1) 1 (kcs t).toList :=
  ⟨rfl, .inr ⟨W.heap.size, 1, kcs t, rfl, Nat.zero_le _, heap_alloc_new W _, Nat.le_refl _, by unfold maxLen; omega, rfl, rfl⟩⟩
theorem grow_tok {lo : Nat} {W : World} {T : List Tok} {v : Value} (G : W.ownsRow lo 73 4 v T.length (tcells T)) (t : Tok) (hlo : lo ≤ W.heap.size) (hn : T.length ≤ 200000) :
    ∃ a n c w', (Builtin.append_ #[49, 49] 49 #[v, .slice (some ⟨W.heap.size, 0, none⟩) 1 1]).run Tryz.prog (W.alloc (.cells (kcs t) 73)) = .ok (.slice a n c) w' ∧ w'.ownsRow lo 73 4 (.slice a n c) (T ++ [t]).length (tcells (T ++ [t])) ∧ (W.alloc (.cells (kcs t) 73)).grownBy w' v.ownBlock ∧ (∀ b, (Value.slice a n c).ownBlock = some b → v.ownBlock = some b ∨ W.heap.size < b) := by
  obtain ⟨i0, hi, hz0, hz1, hz2⟩ := info_parts infoK3
  have G1 := G.alloc (.cells (kcs t) 73)
  have hone : ∀ u ∈ (kcs t).toList, u.oneCell' = true := fun u hu => by
    have := kcs_one t
    rw [Array.all_eq_true_iff_forall_mem] at this
    exact this u (Array.mem_toList_iff.1 hu)
  obtain ⟨v', w', h3, h4, h5, _, h6⟩ := run_append_own_at (P := Tryz.prog) (W.alloc (.cells (kcs t) 73)) lo 49 49 73 i0 (.agg (kcs zeroK)) 4 40 Tryz.underlying49 hi hz0 hz1 hz2 kcs_cells (by decide) v T.length (tcells T) G1 ⟨W.heap.size, 0, none⟩ 1 1 (kcs t).toList rfl ((tok_cells W t).cells (g := W.heap.size) rfl) hone (by unfold maxLen; omega) (by omega) (by simp; omega)
  have h4' : w'.ownsRow lo 73 4 v' (T ++ [t]).length (tcells (T ++ [t])) := by rw [tcells_snoc, List.length_append]; exact h4
  have h7 : ∀ b, v'.ownBlock = some b → v.ownBlock = some b ∨ W.heap.size < b := fun b hb => by
    rcases h6 with e | e
    · exact .inl (e ▸ hb)
    · rw [e] at hb; cases hb; right; simp
  rcases h4.2 with ⟨rfl, -⟩ | ⟨g, cap, cur, rfl, -⟩
  · exact ⟨_, _, _, w', h3, h4', h5, h7⟩
  · exact ⟨_, _, _, w', h3, h4', h5, h7⟩
end Go.Proofs.YtinoaajohkafmaaGreat.Rl

/-
  The reference's lexer: names.
-/
namespace Go.Proofs.YtinoaajohkafmaaGreat.Rl
open Go Go.RowKit Go.Proofs.YtinoaajohkafmaaGreat.Uni Go.Proofs.YtinoaajohkafmaaGreat.Lx
set_option linter.unusedVariables false
set_option linter.unusedSimpArgs false
theorem wpList_app {P : Program} {w w' : World} {ops : Array Oper} {rest : List Oper} {o : Oper} {a : Act} {Q : Exit → Act → World → Prop} (hgd : o.guard = none) (s x : Operand) (t : TypeId)
    (ho : o.op = .call { callee := .builtin .append, args := #[s, x], argTypes := #[t, t] }) (ht : o.type = t) (v1 v2 v' : Value) (hs : a.eval s = v1) (hx : a.eval x = v2) (hr : (Builtin.append_ #[t, t] t #[v1, v2]).run P w = .ok v' w') (h : wpList P ops Q rest (a.put o.dst v') w') : wpList P ops Q (o :: rest) a w := by
  refine wpList_plain hgd fun K hK => ?_
  subst ht
  unfold Oper.wp execOp
  simp only [ho, resolve, invoke, builtin, Sem.run_bind, Sem.run_pure, Result.andThen_ok, List.map_toArray, List.map_cons, List.map_nil, hs, hx, hr]
  exact hK _ _ h
structure LxS (g lo : Nat) (s : ByteArray) (p : Nat) (bad : Bool) (T : List Tok) (w W : World) (S : Pa.Sl) : Prop where
  at_ : LxAt g s p bad S W
  own : W.ownsRow lo 73 4 (.slice S.a S.n S.c) T.length (tcells T)
  ng : (Value.slice S.a S.n S.c).ownBlock ≠ some g
  fr : Below lo w W
  lg : lo ≤ g
theorem LxS.gb {g lo p q : Nat} {s : ByteArray} {b c : Bool} {T : List Tok} {w W W' : World} {S : Pa.Sl} (h : LxS g lo s p b T w W S) (ha : LxAt g s q c S W') (hg : GB g W W') : LxS g lo s q c T w W' S := by
  have hgl : g < W.heap.size := Blk.lt h.at_
  refine ⟨ha, Pa.own_keep h.own (fun k hk => hg.block k (h.own.lt k hk).2 (by intro e; rw [Option.some.injEq] at e; subst e; exact h.ng hk)), h.ng, GB.below h.fr hg (by have := h.lg; omega) h.lg, h.lg⟩
theorem LxS.drewN {g lo p : Nat} {s : ByteArray} {b : Bool} {T : List Tok} {w W : World} {S : Pa.Sl} (h : LxS g lo s p b T w W S) (n : Nat) : LxS g lo s p b T w (W.drewN n) S := h.gb (h.at_.drewN n) (GB.of (bl_drewN (Below.refl _ W)))
theorem LxS.set1 {g lo p : Nat} {s : ByteArray} {b : Bool} {T : List Tok} {w W : World} {S : Pa.Sl} (h : LxS g lo s p b T w W S) (q : Nat) : LxS g lo s q b T w (W.setCell ⟨g, 1, none⟩ (.int .i64 (q : Int))) S := h.gb (h.at_.set1 q) (GB.set _ _ _)
theorem LxS.below {g lo p : Nat} {s : ByteArray} {b : Bool} {T : List Tok} {w W W' : World} {S : Pa.Sl} (h : LxS g lo s p b T w W S) (hb : Below W.heap.size W W') : LxS g lo s p b T w W' S := h.gb (h.at_.below hb) (GB.of hb)
theorem LxS.app {g lo p : Nat} {s : ByteArray} {b : Bool} {T : List Tok} {w W : World} {S : Pa.Sl} (h : LxS g lo s p b T w W S) (hT : T.length ≤ 200000) (t : Tok) :
    ∃ a n c w', (Builtin.append_ #[49, 49] 49 #[.slice S.a S.n S.c, .slice (some ⟨W.heap.size, 0, none⟩) 1 1]).run Tryz.prog (W.alloc (.cells (kcs t) 73)) = .ok (.slice a n c) w' ∧ LxAt g s p b S w' ∧ LxS g lo s p b (T ++ [t]) w (w'.setCell ⟨g, 3, none⟩ (.slice a n c)) ⟨a, n, c⟩ := by
  have hgl : g < W.heap.size := Blk.lt h.at_
  have hlg := h.lg
  have hlo : lo ≤ W.heap.size := by omega
  obtain ⟨a, n, c, w', h1, h2, h3, h4⟩ := grow_tok h.own t hlo hT
  have hat : LxAt g s p b S w' := (h3.block g (by simp; omega) (fun e => h.ng e.symm)).trans (Blk.old h.at_ _)
  have hng : (Value.slice a n c).ownBlock ≠ some g := fun e => by
    rcases h4 g e with e2 | e2
    · exact h.ng e2
    · omega
  refine ⟨a, n, c, w', h1, hat, hat.set3 ⟨a, n, c⟩, Pa.own_keep h2 (fun k hk => heap_setCell_other _ _ _ _ (fun e => hng (by rw [hk]; exact congrArg some e))), hng, ?_, hlg⟩
  have hb : Below lo w (W.alloc (.cells (kcs t) 73)) := h.fr.trans ((bel1 (w := W)).mono hlo)
  have hb2 : Below lo w w' := hb.grown h3 (by simp; omega) (fun k hk => (h.own.lt k hk).1)
  exact GB.below hb2 (GB.set (g := g) w' 3 (.slice a n c)) (by have := Blk.lt hat; omega) hlg
structure NaI (g lo : Nat) (s : ByteArray) (T : List Tok) (w wr : World) (S : Pa.Sl) (p q : Nat) : Prop where
  ls : LxS g lo s q false T w wr S
  le : q ≤ s.size
  eq : goF contN s (s.size - q) q = goF contN s (s.size - p) p
theorem NaI.step {g lo p q n : Nat} {s : ByteArray} {S : Pa.Sl} {T : List Tok} {w wr : World} (h : NaI g lo s T w wr S p q) (hq : q < s.size) (hw : contN (B s q) = true) : (∃ q', NaI g lo s T w ((wr.drewN n).setCell ⟨g, 1, none⟩ (.int .i64 ((q : Int) + 1))) S p q') ∧ measL g s.size ((wr.drewN n).setCell ⟨g, 1, none⟩ (.int .i64 ((q : Int) + 1))) < measL g s.size wr := by
  have ha : LxS g lo s (q + 1) false T w ((wr.drewN n).setCell ⟨g, 1, none⟩ (.int .i64 ((q : Int) + 1))) S := (h.ls.drewN n).set1 (q + 1)
  refine ⟨⟨q + 1, ha, by omega, ?_⟩, ?_⟩
  · rw [← goF_go hq hw]; exact h.eq
  · rw [ha.at_.meas, h.ls.at_.meas]; omega
theorem NaI.last {g lo p q : Nat} {s : ByteArray} {S : Pa.Sl} {T : List Tok} {w wr : World} (h : NaI g lo s T w wr S p q) (hs : ¬ (q < s.size ∧ contN (B s q) = true)) : q = goF contN s (s.size - p) p := by
  rw [← h.eq, goF_stop hs]
set_option maxRecDepth 100000 in
set_option maxHeartbeats 4000000 in
theorem token_name {g lo p : Nat} {s : ByteArray} {S : Pa.Sl} {T : List Tok} {w W : World} (h : LxS g lo s p false T w W S) (hs : s.size ≤ 1000000) (hp : p < s.size) (hl : leadN (B s p) = true) (hT : T.length ≤ 200000) {e : Nat} (he : goF contN s (s.size - p) p = e) {x : ByteArray} (hx : s.extract p e = x) {k : Nat} (hk : wordF x.toList = k) (hk2 : k ≠ 2) :
    Calls Tryz.prog 35 #[ptr g] W fun r w' => r = .returned (.tuple #[]) ∧ ∃ S', LxS g lo s e false (T ++ [⟨1 + (k : Int), p, 0, x⟩]) w w' S' := by
  have h0 := h.at_.c0
  have h1 := h.at_.c1
  have hix := idx_p s p hp
  have cl := rlead_any (B s p) W
  rw [hl] at cl
  have HST := Lib.hid (NaI.mk (p := p) h (Nat.le_of_lt hp) rfl)
  have HE := Lib.hid he
  have HX := Lib.hid hx
  have hk3 : k ≤ 2 := by
    rw [← hk]; unfold wordF; split
    · omega
    · split <;> omega
  have HK := Lib.hid hk
  clear h he hx hk
  go_enter Tryz.func35, Tryz.ntmps35
  go_wp2_with (go_at_call 57; (with_reducible refine cl.mono ?_); rintro r w1 ⟨rfl, rfl⟩)
  go_loopw [] (fun wr => ∃ q, NaI g lo s T w wr S p q) (fun wr => measL g s.size wr)
  case atStart => exact ⟨_, HST.out⟩
  case round =>
    obtain ⟨q, hI⟩ := hrel
    have h0 := hI.ls.at_.c0
    have h1 := hI.ls.at_.c1
    have f1 := hI.ls.at_.fz 1
    have HI := Lib.hid hI
    clear hI HST cl hix
    by_cases hq : q < s.size
    · have hqi : decide ((q : Int) < (s.size : Int)) = true := by simp; omega
      have hix := idx_p s q hq
      cases hw : contN (B s q) with
      | true =>
        have hwr : IntKind.i64.wrap ((q : Int) + 1) = (q : Int) + 1 := by rw [IntKind.wrap_i64]; omega
        cases hl1 : leadN (B s q) with
        | true =>
          have cl : ∀ w, Calls Tryz.prog 57 #[.int .u8 (B s q : Nat)] w fun e w' => e = .returned (.bool true) ∧ w' = w := fun w => by rw [← hl1]; exact (rlead_any _ w).mono fun _ _ h => ⟨h.1, h.2.symm⟩
          have HCL := Lib.hid cl
          clear cl
          go_wp2
          go_quiet ((go_at_call 57; exact Calls.quiet_of_same (HCL.out _)))
          go_wp2
          exact HI.out.step hq hw
        | false =>
          have hd1 : digitN (B s q) = true := by unfold contN at hw; rw [hl1] at hw; exact hw
          have cl : ∀ w, Calls Tryz.prog 57 #[.int .u8 (B s q : Nat)] w fun e w' => e = .returned (.bool false) ∧ w' = w := fun w => by rw [← hl1]; exact (rlead_any _ w).mono fun _ _ h => ⟨h.1, h.2.symm⟩
          have cd : ∀ w, Calls Tryz.prog 58 #[.int .u8 (B s q : Nat)] w fun e w' => e = .returned (.bool true) ∧ w' = w := fun w => by rw [← hd1]; exact (rdig_any _ w).mono fun _ _ h => ⟨h.1, h.2.symm⟩
          have HCL := Lib.hid cl
          have HCD := Lib.hid cd
          clear cl cd
          go_wp2
          go_quiet (first | (go_at_call 57; exact Calls.quiet_of_same (HCL.out _)) | (go_at_call 58; exact Calls.quiet_of_same (HCD.out _)))
          go_wp2
          exact HI.out.step hq hw
      | false =>
        have hl1 : leadN (B s q) = false := by unfold contN at hw; rw [Bool.or_eq_false_iff] at hw; exact hw.1
        have hd1 : digitN (B s q) = false := by unfold contN at hw; rw [Bool.or_eq_false_iff] at hw; exact hw.2
        have cl : ∀ w, Calls Tryz.prog 57 #[.int .u8 (B s q : Nat)] w fun e w' => e = .returned (.bool false) ∧ w' = w := fun w => by rw [← hl1]; exact (rlead_any _ w).mono fun _ _ h => ⟨h.1, h.2.symm⟩
        have cd : ∀ w, Calls Tryz.prog 58 #[.int .u8 (B s q : Nat)] w fun e w' => e = .returned (.bool false) ∧ w' = w := fun w => by rw [← hd1]; exact (rdig_any _ w).mono fun _ _ h => ⟨h.1, h.2.symm⟩
        have HCL := Lib.hid cl
        have HCD := Lib.hid cd
        clear cl cd
        have hqe := HI.out.last (fun h => by rw [hw] at h; cases h.2)
        rw [HE.out] at hqe
        subst hqe
        have hxe := HX.out
        subst hxe
        have hle : p ≤ q := by rw [← HE.out]; exact (goF_le _ _ _ _ (Nat.le_of_lt hp)).1
        have hwk : IntKind.i64.wrap (1 + (k : Int)) = 1 + (k : Int) := by rw [IntKind.wrap_i64]; omega
        have hk2i : ((k : Int) == 2) = false := by simp; omega
        have cw : ∀ n, Calls Tryz.prog 59 #[.string (s.extract p q)] (wr.drewN n) fun e w' => e = .returned (.int .i64 (k : Int)) ∧ Below (wr.drewN n).heap.size (wr.drewN n) w' := fun n => by have := rword_any (s.extract p q) (wr.drewN n); rw [HK.out] at this; exact this
        have HCW := Lib.hid cw
        have hp0 : (p : Int) ≤ (q : Int) := by omega
        have hq1 : (q : Int) ≤ (s.size : Int) := by have := HI.out.le; omega
        clear cw
        go_wp2
        go_quiet (first | (go_at_call 57; exact Calls.quiet_of_same (HCL.out _)) | (go_at_call 58; exact Calls.quiet_of_same (HCD.out _)))
        go_wp2
        go_quiet (fail)
        go_wp2_with (first | (go_at_call 59; (with_reducible refine (HCW.out _).mono ?_); rintro r w1 ⟨rfl, hb⟩; have L1 := HI.out.ls.below (below_dn hb); have h3 := L1.at_.c3; obtain ⟨a6, n6, cc6, w6, hrun, A6, L6⟩ := L1.app hT ⟨1 + (k : Int), p, 0, s.extract p q⟩; have f6 := A6.fz 3; have d6 := A6.c3; have HL6 := Lib.hid L6; clear hb L1 A6 L6) | (at_builtin; refine wpList_app rfl _ _ 49 rfl rfl (.slice S.a S.n S.c) (.slice (some ⟨w1.heap.size, 0, none⟩) 1 1) _ rfl rfl hrun ?_))
        go_end0
        exact ⟨rfl, _, HL6.out⟩
    · have hqi : decide ((q : Int) < (s.size : Int)) = false := by simp; omega
      · have hqe := HI.out.last (fun h => hq h.1)
        rw [HE.out] at hqe
        subst hqe
        have hxe := HX.out
        subst hxe
        have hle : p ≤ q := by rw [← HE.out]; exact (goF_le _ _ _ _ (Nat.le_of_lt hp)).1
        have hwk : IntKind.i64.wrap (1 + (k : Int)) = 1 + (k : Int) := by rw [IntKind.wrap_i64]; omega
        have hk2i : ((k : Int) == 2) = false := by simp; omega
        have cw : ∀ n, Calls Tryz.prog 59 #[.string (s.extract p q)] (wr.drewN n) fun e w' => e = .returned (.int .i64 (k : Int)) ∧ Below (wr.drewN n).heap.size (wr.drewN n) w' := fun n => by have := rword_any (s.extract p q) (wr.drewN n); rw [HK.out] at this; exact this
        have HCW := Lib.hid cw
        have hp0 : (p : Int) ≤ (q : Int) := by omega
        have hq1 : (q : Int) ≤ (s.size : Int) := by have := HI.out.le; omega
        clear cw
        go_wp2
        go_quiet (fail)
        go_wp2
        go_quiet (fail)
        go_wp2_with (first | (go_at_call 59; (with_reducible refine (HCW.out _).mono ?_); rintro r w1 ⟨rfl, hb⟩; have L1 := HI.out.ls.below (below_dn hb); have h3 := L1.at_.c3; obtain ⟨a6, n6, cc6, w6, hrun, A6, L6⟩ := L1.app hT ⟨1 + (k : Int), p, 0, s.extract p q⟩; have f6 := A6.fz 3; have d6 := A6.c3; have HL6 := Lib.hid L6; clear hb L1 A6 L6) | (at_builtin; refine wpList_app rfl _ _ 49 rfl rfl (.slice S.a S.n S.c) (.slice (some ⟨w1.heap.size, 0, none⟩) 1 1) _ rfl rfl hrun ?_))
        go_end0
        exact ⟨rfl, _, HL6.out⟩
end Go.Proofs.YtinoaajohkafmaaGreat.Rl
