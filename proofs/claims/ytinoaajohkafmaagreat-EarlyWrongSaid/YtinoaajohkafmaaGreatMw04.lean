/-
  Texts of this seat in build order: PaMem, PaAt, PaTake, PaFail, PaCont, PaEnv, PaLow, PaList, PaNames, PaStmts, PaBlk, PaMid.
-/
import Derived.Test.YtinoaajohkafmaaGreatMw03
import Derived.Defers
import Derived.Maps.AppendAt
import Derived.Laws.Slices
/-
  Nodes in memory; the parser's block; what a tree is in memory.
-/
namespace Go.Proofs.YtinoaajohkafmaaGreat.Pa
open Go Go.RowKit Go.Proofs.YtinoaajohkafmaaGreat.Lx Go.Proofs.YtinoaajohkafmaaGreat.Uni
set_option linter.unusedVariables false
set_option linter.unusedSimpArgs false
structure Sl where
  a : Option Addr
  n : Nat
  c : Nat
def Sl.v (s : Sl) : Value := .slice s.a s.n s.c
def nilSl : Sl := ⟨none, 0, 0⟩
abbrev newSl (b n : Nat) : Sl := ⟨some ⟨b, 0, none⟩, n, n⟩
structure Nd where
  kind : Int
  num : Int
  text : ByteArray
  names : Sl
  kids : Sl
def zeroN : Nd := ⟨0, 0, noS, nilSl, nilSl⟩
def kidN (k : Int) (s : Sl) : Nd := ⟨k, 0, noS, nilSl, s⟩
def ncs (n : Nd) : Array Value := #[.int .i64 n.kind, .int .i64 n.num, .string n.text, n.names.v, n.kids.v]
theorem ncs_size (n : Nd) : (ncs n).size = 5 := rfl
theorem ncs_0 (n : Nd) : (ncs n)[0]? = some (.int .i64 n.kind) := rfl
theorem ncs_1 (n : Nd) : (ncs n)[1]? = some (.int .i64 n.num) := rfl
theorem ncs_2 (n : Nd) : (ncs n)[2]? = some (.string n.text) := rfl
theorem ncs_3 (n : Nd) : (ncs n)[3]? = some (.slice n.names.a n.names.n n.names.c) := rfl
theorem ncs_4 (n : Nd) : (ncs n)[4]? = some (.slice n.kids.a n.kids.n n.kids.c) := rfl
theorem ncs_set1 (n : Nd) (k : Int) : (ncs n).setIfInBounds 1 (.int .i64 k) = ncs { n with num := k } := rfl
theorem ncs_set4 (n : Nd) (a : Option Addr) (l c : Nat) : (ncs n).setIfInBounds 4 (.slice a l c) = ncs { n with kids := ⟨a, l, c⟩ } := rfl
theorem ncs_one (n : Nd) : (ncs n).all (·.oneCell') = true := by simp [ncs, Value.oneCell', Sl.v]
theorem ncs_list (n : Nd) : (ncs n).toList.length = 5 := rfl
theorem ncs_one' (n : Nd) : ∀ u ∈ (ncs n).toList, u.oneCell' = true := fun u hu => by
  have h := ncs_one n
  rw [Array.all_eq_true_iff_forall_mem] at h
  exact h u (by simpa using hu)
def ncells (l : List Nd) : List Value := l.flatMap fun t => (ncs t).toList
theorem ncells_nil : ncells [] = [] := rfl
theorem ncells_snoc (l : List Nd) (t : Nd) : ncells (l ++ [t]) = ncells l ++ (ncs t).toList := by simp [ncells]
theorem ncells_append (l m : List Nd) : ncells (l ++ m) = ncells l ++ ncells m := by simp [ncells]
theorem ncells_len (l : List Nd) : (ncells l).length = l.length * 5 := by
  induction l with
  | nil => rfl
  | cons a l ih =>
    have : ncells (a :: l) = (ncs a).toList ++ ncells l := rfl
    rw [this, List.length_append, ih, ncs_list, List.length_cons]
    omega
theorem ncells_one (l : List Nd) : ∀ u ∈ ncells l, u.oneCell' = true := fun u hu => by
  unfold ncells at hu
  rw [List.mem_flatMap] at hu
  obtain ⟨n, -, hn⟩ := hu
  exact ncs_one' n u hn
theorem ldN (v : Value) : Instr.loadAt 25 v = Ld 25 v := (rfl)
theorem stN (p v : Value) : Instr.storeAt 25 p v = Lx.St 25 p v := (rfl)
theorem alN : Instr.alloc 25 true (.tuple #[]) = Al 25 := (rfl)
theorem bdN (ps : Array (Nat × Value)) : Instr.build 25 ps = Bd 25 ps := (rfl)
def BsN (n : Nat) (ps : Array (Nat × Value)) : Sem Value := Instr.buildSlice 23 n ps
theorem bsN (n : Nat) (ps : Array (Nat × Value)) : Instr.buildSlice 23 n ps = BsN n ps := (rfl)
theorem infoN : (Tryz.prog.info? 25).map (fun i => (i.zero, i.size)) = some (some (.agg (ncs zeroN)), 5) := by kernel_rfl
theorem infoN3 : (Tryz.prog.info? 25).map (fun i => (i.zero, i.size, i.bytes)) = some (some (.agg (ncs zeroN)), 5, 80) := by kernel_rfl
theorem sizeN : (Tryz.prog.info? 25).map (·.size) = some 5 := by kernel_rfl
theorem run_alN (w : World) : (Al 25).run Tryz.prog w = .ok (ptr w.heap.size) (w.alloc (.cells (ncs zeroN) 25)) := run_al infoN w
theorem run_ldN {w : World} {b : Nat} {t : Nd} {T : TypeId} (h : Blk w b (ncs t) T) : (Ld 25 (.pointer (some ⟨b, 0, none⟩))).run Tryz.prog w = .ok (.agg (ncs t)) w := by
  have := run_loadAt_mid (P := Tryz.prog) w b 0 25 (ncs t).toList _ (h.range (r := []) (by simp)) Tryz.underlying25 rfl sizeN
  simpa [Ld] using this
theorem run_stN {w : World} {b : Nat} {o t : Nd} (h : Blk w b (ncs o) 25) : (Lx.St 25 (.pointer (some ⟨b, 0, none⟩)) (.agg (ncs t))).run Tryz.prog w = .ok () (w.setRow b (ncs t)) :=
  run_st_row h (by rw [ncs_size]; exact sizeN) (by rw [ncs_size, ncs_size]) (ncs_one t)
theorem run_stNg (w : World) (r o : Nd) : (Lx.St 25 (.pointer (some ⟨w.heap.size, 0, none⟩)) (.agg (ncs r))).run Tryz.prog (w.alloc (.cells (ncs o) 25)) = .ok () (w.alloc (.cells (ncs r) 25)) := by
  rw [run_stN (Blk.new w (ncs o) _), setRow_new]
theorem run_ldNg (w : World) (o : Nd) : (Ld 25 (.pointer (some ⟨w.heap.size, 0, none⟩))).run Tryz.prog (w.alloc (.cells (ncs o) 25)) = .ok (.agg (ncs o)) (w.alloc (.cells (ncs o) 25)) := run_ldN (Blk.new w (ncs o) _)
theorem run_bdN0 (w : World) : (Bd 25 #[]).run Tryz.prog w = .ok (.agg (ncs zeroN)) w := run_build w _ _ _ (by kernel_rfl)
theorem run_bdN04 (w : World) (k : Int) (a : Option Addr) (n c : Nat) : (Bd 25 #[(0, .int .i64 k), (4, .slice a n c)]).run Tryz.prog w = .ok (.agg (ncs (kidN k ⟨a, n, c⟩))) w := run_build w _ _ _ (by kernel_rfl)
theorem run_bdN02 (w : World) (k : Int) (t : ByteArray) : (Bd 25 #[(0, .int .i64 k), (2, .string t)]).run Tryz.prog w = .ok (.agg (ncs ⟨k, 0, t, nilSl, nilSl⟩)) w := run_build w _ _ _ (by kernel_rfl)
theorem run_bdN01 (w : World) (k n : Int) : (Bd 25 #[(0, .int .i64 k), (1, .int .i64 n)]).run Tryz.prog w = .ok (.agg (ncs ⟨k, n, noS, nilSl, nilSl⟩)) w := run_build w _ _ _ (by kernel_rfl)
theorem run_bdN024 (w : World) (k : Int) (t : ByteArray) (a : Option Addr) (n c : Nat) : (Bd 25 #[(0, .int .i64 k), (2, .string t), (4, .slice a n c)]).run Tryz.prog w = .ok (.agg (ncs ⟨k, 0, t, nilSl, ⟨a, n, c⟩⟩)) w := run_build w _ _ _ (by kernel_rfl)
theorem run_bdN03 (w : World) (k : Int) (a : Option Addr) (n c : Nat) : (Bd 25 #[(0, .int .i64 k), (3, .slice a n c)]).run Tryz.prog w = .ok (.agg (ncs ⟨k, 0, noS, ⟨a, n, c⟩, nilSl⟩)) w := run_build w _ _ _ (by kernel_rfl)
theorem run_bdN0234 (w : World) (k : Int) (t : ByteArray) (a : Option Addr) (n c : Nat) (a2 : Option Addr) (n2 c2 : Nat) : (Bd 25 #[(0, .int .i64 k), (2, .string t), (3, .slice a n c), (4, .slice a2 n2 c2)]).run Tryz.prog w = .ok (.agg (ncs ⟨k, 0, t, ⟨a, n, c⟩, ⟨a2, n2, c2⟩⟩)) w := run_build w _ _ _ (by kernel_rfl)
theorem zeroN_cells : (Value.agg (ncs zeroN)).cells.size = 5 := rfl
theorem run_bsN1 (w : World) (t : Nd) : (BsN 1 #[(0, .agg (ncs t))]).run Tryz.prog w = .ok (.slice (some ⟨w.heap.size, 0, none⟩) 1 1) (w.alloc (.cells (ncells [t]).toArray 25)) := by
  have e : (ncells [t]).toArray = ncs t := by simp [ncells]
  rw [e]
  obtain ⟨i, hi, hz, hs, hb⟩ := info_parts infoN3
  exact run_buildSlice w 23 25 1 _ (ncs t) i (.agg (ncs zeroN)) Tryz.underlying23 hi hz (by rw [hs]; decide) (by rw [hs]; decide) (by rw [hs]; have h := Go.Great.fill_whole (s := 5) (by decide) [.agg (ncs t)] ((Array.range (1 * 5)).map ((Value.agg (ncs zeroN)).cells[· % (Value.agg (ncs zeroN)).cells.size]!)) (fun v hv => by rw [List.mem_singleton.1 hv]; rfl) (by simp); simpa [Value.cells] using h)
theorem run_bsN2 (w : World) (t u : Nd) : (BsN 2 #[(0, .agg (ncs t)), (1, .agg (ncs u))]).run Tryz.prog w = .ok (.slice (some ⟨w.heap.size, 0, none⟩) 2 2) (w.alloc (.cells (ncells [t, u]).toArray 25)) := by
  obtain ⟨i, hi, hz, hs, hb⟩ := info_parts infoN3
  exact run_buildSlice w 23 25 2 _ (ncells [t, u]).toArray i (.agg (ncs zeroN)) Tryz.underlying23 hi hz (by rw [hs]; decide) (by rw [hs]; decide) (by rw [hs]; have h := Go.Great.fill_whole (s := 5) (by decide) [.agg (ncs t), .agg (ncs u)] ((Array.range (2 * 5)).map ((Value.agg (ncs zeroN)).cells[· % (Value.agg (ncs zeroN)).cells.size]!)) (fun v hv => by simp only [List.mem_cons, List.not_mem_nil, or_false] at hv; rcases hv with rfl | rfl <;> rfl) (by simp); simpa [Value.cells, ncells] using h)
theorem run_bsN3 (w : World) (t u v : Nd) : (BsN 3 #[(0, .agg (ncs t)), (1, .agg (ncs u)), (2, .agg (ncs v))]).run Tryz.prog w = .ok (.slice (some ⟨w.heap.size, 0, none⟩) 3 3) (w.alloc (.cells (ncells [t, u, v]).toArray 25)) := by
  obtain ⟨i, hi, hz, hs, hb⟩ := info_parts infoN3
  exact run_buildSlice w 23 25 3 _ (ncells [t, u, v]).toArray i (.agg (ncs zeroN)) Tryz.underlying23 hi hz (by rw [hs]; decide) (by rw [hs]; decide) (by rw [hs]; have h := Go.Great.fill_whole (s := 5) (by decide) [.agg (ncs t), .agg (ncs u), .agg (ncs v)] ((Array.range (3 * 5)).map ((Value.agg (ncs zeroN)).cells[· % (Value.agg (ncs zeroN)).cells.size]!)) (fun v hv => by simp only [List.mem_cons, List.not_mem_nil, or_false] at hv; rcases hv with rfl | rfl | rfl <;> rfl) (by simp); simpa [Value.cells, ncells] using h)
theorem res_N {fn : Func} {p : Tmp} (h : fn.results = #[.cell p 25]) (tmps : Array Value) (w : World) (g : Nat) (t : Nd) (hp : tmps.getD p undef = .pointer (some ⟨g, 0, none⟩)) {T : TypeId} (hv : Blk w g (ncs t) T) : (results fn tmps).run Tryz.prog w = .ok (.agg (ncs t)) w := by
  have e1 := run_loadVar_row (P := Tryz.prog) w g T 25 (ncs t) (0, 0) _ hv Tryz.underlying25 rfl (by exact sizeN)
  have hp' : tmps[p]?.getD undef = .pointer (some ⟨g, 0, none⟩) := by simpa using hp
  simp only [results, h]
  simp [Sem.run_bind, Result.andThen, hp', asAddr, e1]
theorem res_T {fn : Func} {p : Tmp} (h : fn.results = #[.cell p 73]) (tmps : Array Value) (w : World) (g : Nat) (t : Tok) (hp : tmps.getD p undef = .pointer (some ⟨g, 0, none⟩)) {T : TypeId} (hv : Blk w g (kcs t) T) : (results fn tmps).run Tryz.prog w = .ok (.agg (kcs t)) w := by
  have e1 := run_loadVar_row (P := Tryz.prog) w g T 73 (kcs t) (0, 0) _ hv Tryz.underlying73 rfl (by exact sizeK)
  have hp' : tmps[p]?.getD undef = .pointer (some ⟨g, 0, none⟩) := by simpa using hp
  simp only [results, h]
  simp [Sem.run_bind, Result.andThen, hp', asAddr, e1]
theorem run_fdK0 (t : Tok) (w : World) : (Instr.field 73 (.agg (kcs t)) 0).run Tryz.prog w = .ok (.int .i64 t.kind) w := by kernel_rfl
theorem run_fdK1 (t : Tok) (w : World) : (Instr.field 73 (.agg (kcs t)) 1).run Tryz.prog w = .ok (.int .i64 t.pos) w := by kernel_rfl
theorem run_fdK2 (t : Tok) (w : World) : (Instr.field 73 (.agg (kcs t)) 2).run Tryz.prog w = .ok (.int .i64 t.num) w := by kernel_rfl
theorem run_fdK3 (t : Tok) (w : World) : (Instr.field 73 (.agg (kcs t)) 3).run Tryz.prog w = .ok (.string t.text) w := by kernel_rfl
theorem run_fdN4 (t : Nd) (w : World) : (Instr.field 25 (.agg (ncs t)) 4).run Tryz.prog w = .ok (.slice t.kids.a t.kids.n t.kids.c) w := by kernel_rfl
def Row (S : Nat → Prop) (w : World) (e : TypeId) (size : Nat) (s : Sl) (n : Nat) (xs : List Value) : Prop :=
  w.ownsRow 0 e size s.v n xs ∧ ∀ b, s.v.ownBlock = some b → S b
mutual
def Rep (S : Nat → Prop) (w : World) : Tree → Nd → Prop
  | .mk k n t ns ks, N => N.kind = k ∧ N.num = n ∧ N.text = t ∧ Row S w 9 1 N.names ns.length (ns.map Value.string) ∧ ∃ xs, Row S w 25 5 N.kids ks.length (ncells xs) ∧ Reps S w ks xs
def Reps (S : Nat → Prop) (w : World) : List Tree → List Nd → Prop
  | [], [] => True
  | t :: ts, x :: xs => Rep S w t x ∧ Reps S w ts xs
  | _, _ => False
end
theorem Row.keep {S S' : Nat → Prop} {w w' : World} {e : TypeId} {size n : Nat} {s : Sl} {xs : List Value} (h : Row S w e size s n xs) (hk : ∀ b, b < w.heap.size → S b → S' b ∧ w'.heap[b]? = w.heap[b]?) : Row S' w' e size s n xs := by
  obtain ⟨⟨h1, h2⟩, h3⟩ := h
  rcases h2 with ⟨h4, h5⟩ | ⟨g, cap, cur, h4, h5, h6, h7⟩
  · exact ⟨⟨h1, .inl ⟨h4, h5⟩⟩, fun b hb => by rw [h4] at hb; cases hb⟩
  · have hg := h3 g (by rw [h4]; rfl)
    have hlt : g < w.heap.size := (Array.getElem?_eq_some_iff.1 h6).1
    obtain ⟨k1, k2⟩ := hk g hlt hg
    refine ⟨⟨h1, .inr ⟨g, cap, cur, h4, h5, by rw [k2]; exact h6, h7⟩⟩, fun b hb => ?_⟩
    rw [h4] at hb
    obtain rfl : g = b := by simpa [Value.ownBlock] using hb
    exact k1
mutual
theorem Rep.keep {S S' : Nat → Prop} {w w' : World} (hk : ∀ b, b < w.heap.size → S b → S' b ∧ w'.heap[b]? = w.heap[b]?) : ∀ (T : Tree) (N : Nd), Rep S w T N → Rep S' w' T N
  | .mk k n t ns ks, N, h => by
    unfold Rep at h ⊢
    obtain ⟨h1, h2, h3, h4, xs, h5, h6⟩ := h
    exact ⟨h1, h2, h3, h4.keep hk, xs, h5.keep hk, Reps.keep hk ks xs h6⟩
theorem Reps.keep {S S' : Nat → Prop} {w w' : World} (hk : ∀ b, b < w.heap.size → S b → S' b ∧ w'.heap[b]? = w.heap[b]?) : ∀ (ts : List Tree) (xs : List Nd), Reps S w ts xs → Reps S' w' ts xs
  | [], [], _ => by unfold Reps; trivial
  | t :: ts, x :: xs, h => by
    unfold Reps at h ⊢
    exact ⟨Rep.keep hk t x h.1, Reps.keep hk ts xs h.2⟩
  | [], _ :: _, h => by unfold Reps at h; exact h.elim
  | _ :: _, [], h => by unfold Reps at h; exact h.elim
end
theorem Reps.len {S : Nat → Prop} {w : World} : ∀ {ts : List Tree} {xs : List Nd}, Reps S w ts xs → xs.length = ts.length
  | [], [], _ => rfl
  | t :: ts, x :: xs, h => by
    unfold Reps at h
    simp only [List.length_cons]
    rw [Reps.len h.2]
  | [], _ :: _, h => by unfold Reps at h; exact h.elim
  | _ :: _, [], h => by unfold Reps at h; exact h.elim
theorem Reps.snoc {S : Nat → Prop} {w : World} {t : Tree} {x : Nd} (hx : Rep S w t x) : ∀ {ts : List Tree} {xs : List Nd}, Reps S w ts xs → Reps S w (ts ++ [t]) (xs ++ [x])
  | [], [], _ => by
    show Reps S w [t] [x]
    unfold Reps
    exact ⟨hx, by unfold Reps; trivial⟩
  | t1 :: ts, x1 :: xs, h => by
    unfold Reps at h
    show Reps S w (t1 :: (ts ++ [t])) (x1 :: (xs ++ [x]))
    unfold Reps
    exact ⟨h.1, Reps.snoc hx h.2⟩
  | [], _ :: _, h => by unfold Reps at h; exact h.elim
  | _ :: _, [], h => by unfold Reps at h; exact h.elim
theorem Row.nil (S : Nat → Prop) (w : World) (e : TypeId) (size : Nat) : Row S w e size nilSl 0 [] := ⟨World.ownsRow_nil _ _ _ _, fun b hb => by cases hb⟩
theorem Rep.nil (S : Nat → Prop) (w : World) (k n : Int) (t : ByteArray) : Rep S w (.mk k n t [] []) ⟨k, n, t, nilSl, nilSl⟩ := by
  unfold Rep
  exact ⟨rfl, rfl, rfl, Row.nil _ _ _ _, [], Row.nil _ _ _ _, by unfold Reps; trivial⟩
theorem Rep.ks {S : Nat → Prop} {w : World} {T : Tree} {N : Nd} (h : Rep S w T N) : ∃ xs, Row S w 25 5 N.kids T.kids.length (ncells xs) ∧ Reps S w T.kids xs := by
  cases T
  unfold Rep at h
  exact h.2.2.2.2
theorem Rep.of {S : Nat → Prop} {w : World} {k n : Int} {t : ByteArray} {ts : List Tree} {xs : List Nd} {s : Sl} (h : Row S w 25 5 s ts.length (ncells xs)) (hr : Reps S w ts xs) : Rep S w (.mk k n t [] ts) ⟨k, n, t, nilSl, s⟩ := by
  unfold Rep
  exact ⟨rfl, rfl, rfl, Row.nil _ _ _ _, xs, h, hr⟩
theorem Row.new {S : Nat → Prop} (w : World) (xs : List Nd) (n : Nat) (hn : xs.length = n) (hm : n ≤ maxLen) (hS : S w.heap.size) : Row S (w.alloc (.cells (ncells xs).toArray 25)) 25 5 (newSl w.heap.size n) n (ncells xs) := by
  refine ⟨⟨by rw [ncells_len, hn], .inr ⟨w.heap.size, n, _, rfl, Nat.zero_le _, heap_alloc_new w _, Nat.le_refl _, hm, ?_, ?_⟩⟩, fun b hb => ?_⟩
  · rw [List.size_toArray, ncells_len, hn]
  · rw [List.take_of_length_le]; rw [ncells_len, hn]; exact Nat.le_refl _
  · simp [newSl, Sl.v, Value.ownBlock] at hb; rw [← hb]; exact hS
end Go.Proofs.YtinoaajohkafmaaGreat.Pa

/-
  The parser's block, and what its small methods do.
-/
namespace Go.Proofs.YtinoaajohkafmaaGreat.Pa
open Go Go.RowKit Go.Proofs.YtinoaajohkafmaaGreat.Lx Go.Proofs.YtinoaajohkafmaaGreat.Uni
set_option linter.unusedVariables false
set_option linter.unusedSimpArgs false
def Tks (g : Nat) (w : World) (v : Sl) (l : List Tok) : Prop :=
  ∃ b o cur, v = ⟨some ⟨b, o, none⟩, l.length, v.c⟩ ∧ b ≠ g ∧ w.heap[b]? = some (.cells cur 73 (0, 0)) ∧ w.rangeAt b o (tcells l) ∧ l.length ≤ v.c
theorem Tks.keep {g : Nat} {w w' : World} {v : Sl} {l : List Tok} (h : Tks g w v l) (hk : ∀ b, b < w.heap.size → b ≠ g → (∃ cur, w.heap[b]? = some (.cells cur 73 (0, 0))) → w'.heap[b]? = w.heap[b]?) : Tks g w' v l := by
  obtain ⟨b, o, cur, h1, h2, h3, h4, h5⟩ := h
  have e := hk b (lt_of_block h3) h2 ⟨cur, h3⟩
  refine ⟨b, o, cur, h1, h2, e.trans h3, fun j u hj => ?_, h5⟩
  have := h4 j u hj
  simp only [World.cell?] at this ⊢
  rw [e]
  exact this
def PostR (w : World) (v : Value) (e : Ending) (w' : World) : Prop := e = .returned v ∧ Below w.heap.size w w'
theorem run_ldKm {w : World} {b o : Nat} {t : Tok} (h : w.rangeAt b o (kcs t).toList) : (Ld 73 (.pointer (some ⟨b, o, none⟩))).run Tryz.prog w = .ok (.agg (kcs t)) w := by
  have := run_loadAt_mid (P := Tryz.prog) w b o 73 (kcs t).toList _ h Tryz.underlying73 rfl sizeK
  simpa [Ld] using this
attribute [local go_sem ↓] ldK stK alK bdK bsK
attribute [local irreducible] kcs
attribute [local go_sem] run_alK run_bdK0 run_bdKs run_bdKn run_bdKe run_bsK run_fdK0 run_fdK1 run_fdK2 run_fdK3 run_fdN4
end Go.Proofs.YtinoaajohkafmaaGreat.Pa

/-
  take, sees, takes, fail, needs.
-/
namespace Go.Proofs.YtinoaajohkafmaaGreat.Pa
open Go Go.RowKit Go.Proofs.YtinoaajohkafmaaGreat.Lx Go.Proofs.YtinoaajohkafmaaGreat.Uni
set_option linter.unusedVariables false
set_option linter.unusedSimpArgs false
attribute [local go_sem ↓] ldK stK alK bdK bsK
attribute [local irreducible] kcs
attribute [local go_sem] run_alK run_bdK0 run_bdKs run_bdKn run_bdKe run_bsK run_fdK0 run_fdK1 run_fdK2 run_fdK3 run_fdN4
end Go.Proofs.YtinoaajohkafmaaGreat.Pa

/-
  fail, needs, name, member, enter, leave, optionalName, isMember, node.
-/
namespace Go.Proofs.YtinoaajohkafmaaGreat.Pa
open Go Go.RowKit Go.Proofs.YtinoaajohkafmaaGreat.Lx Go.Proofs.YtinoaajohkafmaaGreat.Uni
set_option linter.unusedVariables false
set_option linter.unusedSimpArgs false
attribute [local go_sem ↓] ldK stK alK bdK bsK ldN stN alN bdN bsN
attribute [local irreducible] kcs ncs
attribute [local go_sem] run_alK run_bdK0 run_bdKs run_bdKn run_bdKe run_bsK run_fdK0 run_fdK1 run_fdK2 run_fdK3 run_fdN4 run_alN run_stNg run_ldNg run_bdN0 run_bdN04 run_bdN02 run_bdN01 run_bdN024 run_bdN03 run_bdN0234 run_bsN1 run_bsN2 run_bsN3
end Go.Proofs.YtinoaajohkafmaaGreat.Pa

/-
  contains, seesOneOf.
-/
namespace Go.Proofs.YtinoaajohkafmaaGreat.Pa
open Go Go.RowKit Go.Proofs.YtinoaajohkafmaaGreat.Lx Go.Proofs.YtinoaajohkafmaaGreat.Uni
set_option linter.unusedVariables false
set_option linter.unusedSimpArgs false
attribute [local go_sem ↓] ldK stK alK bdK bsK
attribute [local irreducible] kcs
attribute [local go_sem] run_alK run_bdK0 run_bdKs run_bdKn run_bdKe run_bsK run_fdK0 run_fdK1 run_fdK2 run_fdK3 run_fdN4
end Go.Proofs.YtinoaajohkafmaaGreat.Pa

/-
  What holds between two calls: the parser, the call's own variables, the trees.
-/
namespace Go.Proofs.YtinoaajohkafmaaGreat.Pa
open Go Go.RowKit Go.Proofs.YtinoaajohkafmaaGreat.Lx Go.Proofs.YtinoaajohkafmaaGreat.Uni
set_option linter.unusedVariables false
set_option linter.unusedSimpArgs false
def Own (S0 : Nat → Prop) (lo : Nat) (xs : List Nat) (b : Nat) : Prop := (S0 b ∨ lo ≤ b) ∧ b ∉ xs
section
variable {g d : Nat} {s : PS} {S0 : Nat → Prop} {w0 W : World} {bs : List (Nat × Nd)} {vs : List (Tree × Nd)}
end
theorem setCell_row {w : World} {b : Nat} {cs : Array Value} {t : TypeId} (h : Blk w b cs t) (i : Nat) (v : Value) : w.setCell ⟨b, i, none⟩ v = w.setRow b (cs.setIfInBounds i v) := by
  unfold World.setCell World.setRow
  simp only
  congr 1
  apply Array.ext_getElem?
  intro j
  rw [Array.getElem?_modify, Array.getElem?_modify]
  unfold Blk at h
  by_cases hj : b = j
  · subst hj
    simp [h]
  · simp [hj]
end Go.Proofs.YtinoaajohkafmaaGreat.Pa

/-
  What is one deeper, by contracts; parenthesized, pair.
-/
namespace Go.Proofs.YtinoaajohkafmaaGreat.Pa
open Go Go.RowKit Go.Proofs.YtinoaajohkafmaaGreat.Lx Go.Proofs.YtinoaajohkafmaaGreat.Uni
set_option linter.unusedVariables false
set_option linter.unusedSimpArgs false
attribute [local go_sem ↓] ldK stK alK bdK bsK ldN stN alN bdN bsN
attribute [local irreducible] kcs ncs ncells
attribute [local go_sem] run_alK run_bdK0 run_bdKs run_bdKn run_bdKe run_bsK run_fdK0 run_fdK1 run_fdK2 run_fdK3 run_fdN4 run_alN run_stNg run_ldNg run_bdN0 run_bdN04 run_bdN02 run_bdN01 run_bdN024 run_bdN03 run_bdN0234 run_bsN1 run_bsN2 run_bsN3
end Go.Proofs.YtinoaajohkafmaaGreat.Pa

/-
  list, over whatever parses an element.
-/
namespace Go.Proofs.YtinoaajohkafmaaGreat.Pa
open Go Go.RowKit Go.Proofs.YtinoaajohkafmaaGreat.Lx Go.Proofs.YtinoaajohkafmaaGreat.Uni
set_option linter.unusedVariables false
set_option linter.unusedSimpArgs false
attribute [local go_sem ↓] ldK stK alK bdK bsK ldN stN alN bdN bsN
attribute [local irreducible] kcs ncs ncells
attribute [local go_sem] run_alK run_bdK0 run_bdKs run_bdKn run_bdKe run_bsK run_fdK0 run_fdK1 run_fdK2 run_fdK3 run_fdN4 run_alN run_stNg run_ldNg run_bdN0 run_bdN04 run_bdN02 run_bdN01 run_bdN024 run_bdN03 run_bdN0234 run_bsN1 run_bsN2 run_bsN3
structure Grow (w0 W : World) (ts : List Tree) (xs : List Nd) (v : Value) : Prop where
  own : W.ownsRow w0.heap.size 25 5 v ts.length (ncells xs)
  rp : Reps (fun b => w0.heap.size ≤ b ∧ some b ≠ v.ownBlock) W ts xs
theorem Grow.nil (w0 W : World) : Grow w0 W [] [] (.slice none 0 0) := ⟨by rw [ncells_nil]; exact World.ownsRow_nil _ _ _ _, by unfold Reps; trivial⟩
theorem Grow.frame {g : Nat} {w0 W w' : World} {ts : List Tree} {xs : List Nd} {v : Value} (h : Grow w0 W ts xs v) (hg : GB g W w') (hl : g < w0.heap.size) : Grow w0 w' ts xs v :=
  ⟨h.own.kept hg (by
    cases hv : v.ownBlock with
    | none => exact .inl rfl
    | some b => right; have := (h.own.lt b hv).1; intro e; cases e; omega),
   Reps.keep (fun b hb hS => ⟨hS, hg.block b hb (by intro e; cases e; have := hS.1; omega)⟩) _ _ h.rp⟩
theorem Grow.alloc {w0 W : World} {ts : List Tree} {xs : List Nd} {v : Value} (h : Grow w0 W ts xs v) (o : Obj) : Grow w0 (W.alloc o) ts xs v :=
  ⟨h.own.alloc o, Reps.keep (fun b hb hS => ⟨hS, heap_alloc_old _ _ hb⟩) _ _ h.rp⟩
theorem Grow.snoc {w0 W w' : World} {ts : List Tree} {xs : List Nd} {v v' : Value} {T : Tree} {N : Nd} (h : Grow w0 W ts xs v) (hT : Rep (fun b => w0.heap.size ≤ b ∧ some b ≠ v.ownBlock) W T N) (hown : w'.ownsRow w0.heap.size 25 5 v' (ts.length + 1) (ncells xs ++ (ncs N).toList)) (hg : W.grownBy w' v.ownBlock) (hat : v'.ownBlock = v.ownBlock ∨ v'.ownBlock = some W.heap.size) : Grow w0 w' (ts ++ [T]) (xs ++ [N]) v' := by
  have hk : ∀ b, b < W.heap.size → (w0.heap.size ≤ b ∧ some b ≠ v.ownBlock) → (w0.heap.size ≤ b ∧ some b ≠ v'.ownBlock) ∧ w'.heap[b]? = W.heap[b]? := fun b hb hS => by
    refine ⟨⟨hS.1, ?_⟩, hg.block b hb hS.2⟩
    rcases hat with e | e
    · rw [e]; exact hS.2
    · rw [e]; intro h; cases h; omega
  refine ⟨?_, Reps.snoc (Rep.keep hk _ _ hT) (Reps.keep hk _ _ h.rp)⟩
  rw [ncells_snoc, List.length_append]
  exact hown
theorem Grow.fresh {w0 W W2 : World} {ts : List Tree} {xs : List Nd} {v : Value} {T : Tree} {N : Nd} (h : Grow w0 W ts xs v) (hs : w0.heap.size ≤ W.heap.size) (hr : Rep (fun b => False ∨ W.heap.size ≤ b) W2 T N) : Rep (fun b => w0.heap.size ≤ b ∧ some b ≠ v.ownBlock) W2 T N :=
  Rep.keep (fun b hb hS => by
    rcases hS with hS | hS
    · exact hS.elim
    · refine ⟨⟨by omega, fun e => ?_⟩, rfl⟩
      have := (h.own.lt b e.symm).2
      omega) _ _ hr
theorem own_base0 {w : World} {b e size n : Nat} {v : Value} {xs : List Value} (h : w.ownsRow b e size v n xs) : w.ownsRow 0 e size v n xs := own_base h (Nat.zero_le _)
theorem Grow.row {w0 W : World} {ts : List Tree} {xs : List Nd} {v : Value} (h : Grow w0 W ts xs v) : ∃ s : Sl, v = s.v ∧ Row (fun b => w0.heap.size ≤ b) W 25 5 s ts.length (ncells xs) ∧ Reps (fun b => w0.heap.size ≤ b) W ts xs := by
  have hb : ∀ b, v.ownBlock = some b → w0.heap.size ≤ b := fun b hb => (h.own.lt b hb).1
  have h0 := own_base0 h.own
  have hr := Reps.keep (w := W) (w' := W) (S' := fun b => w0.heap.size ≤ b) (fun b hb hS => ⟨hS.1, rfl⟩) _ _ h.rp
  rcases h.own.2 with ⟨hv, hn⟩ | ⟨g, cap, cur, hv, rest⟩
  · refine ⟨nilSl, hv, ⟨?_, fun b hb' => by cases hb'⟩, hr⟩
    rw [hv] at h0
    exact h0
  · refine ⟨⟨some ⟨g, 0, none⟩, ts.length, cap⟩, hv, ⟨?_, fun b hb' => hb b ?_⟩, hr⟩
    · rw [hv] at h0
      exact h0
    · rw [hv]
      exact hb'
theorem GB.grown {g : Nat} {w0 W w' : World} {row : Option Nat} (h : GB g w0 W) (k : W.grownBy w' row) (hr : ∀ b, row = some b → w0.heap.size ≤ b) : GB g w0 w' :=
  ⟨k.os.trans h.os, k.tape.trans h.tape, k.output.trans h.output, Nat.le_trans h.size k.size, fun i hi hn => (k.block i (Nat.lt_of_lt_of_le hi h.size) (fun e => by have := hr i e.symm; omega)).trans (h.block i hi hn)⟩
theorem new_cellsN (w : World) (t : Nd) : ∀ j v, (ncs t).toList[j]? = some v → (w.alloc (.cells (ncells [t]).toArray 25)).cell? ((⟨w.heap.size, 0, none⟩ : Addr).add j) = some v := fun j v hv => by
  have ha : (⟨w.heap.size, 0, none⟩ : Addr).add j = ⟨w.heap.size, j, none⟩ := by unfold Addr.add; split <;> simp_all
  rw [ha, (Blk.new w (ncells [t]).toArray _).cell]
  have e : (ncells [t]).toArray = ncs t := by unfold ncells; simp
  rw [e]
  simpa using hv
theorem moreF_nil {T : Type} {el : PS → T × PS} {f : Nat} {s : PS} (h : seesF ⟨#[44]⟩ s = false) : moreF el f s = ([], s) := by
  cases f with
  | zero => rfl
  | succ f => unfold moreF; rw [h]; rfl
theorem moreF_cons {T : Type} {el : PS → T × PS} {f : Nat} {s : PS} (h : seesF ⟨#[44]⟩ s = true) : moreF el (f + 1) s = ((el s.take).1 :: (moreF el f (el s.take).2).1, (moreF el f (el s.take).2).2) := by
  conv => lhs; unfold moreF
  rw [h]; rfl
end Go.Proofs.YtinoaajohkafmaaGreat.Pa

/-
  list, over names.
-/
namespace Go.Proofs.YtinoaajohkafmaaGreat.Pa
open Go Go.RowKit Go.Proofs.YtinoaajohkafmaaGreat.Lx Go.Proofs.YtinoaajohkafmaaGreat.Uni
set_option linter.unusedVariables false
set_option linter.unusedSimpArgs false
attribute [local go_sem ↓] ldK stK alK bdK bsK ldN stN alN bdN bsN
attribute [local irreducible] kcs ncs ncells
attribute [local go_sem] run_alK run_bdK0 run_bdKs run_bdKn run_bdKe run_bsK run_fdK0 run_fdK1 run_fdK2 run_fdK3 run_fdN4 run_alN run_stNg run_ldNg run_bdN0 run_bdN04 run_bdN02 run_bdN01 run_bdN024 run_bdN03 run_bdN0234 run_bsN1 run_bsN2 run_bsN3
theorem infoS3 : (Tryz.prog.info? 9).map (fun i => (i.zero, i.size, i.bytes)) = some (some (.string noS), 1, 16) := by kernel_rfl
def BsS (n : Nat) (ps : Array (Nat × Value)) : Sem Value := Instr.buildSlice 22 n ps
theorem bsS (n : Nat) (ps : Array (Nat × Value)) : Instr.buildSlice 22 n ps = BsS n ps := (rfl)
theorem run_bsS1 (w : World) (t : ByteArray) : (BsS 1 #[(0, .string t)]).run Tryz.prog w = .ok (.slice (some ⟨w.heap.size, 0, none⟩) 1 1) (w.alloc (.cells #[.string t] 9)) := by
  obtain ⟨i, hi, hz, hs, hb⟩ := info_parts infoS3
  exact run_buildSlice w 22 9 1 _ #[.string t] i (.string noS) Tryz.underlying22 hi hz (by rw [hs]; decide) (by rw [hs]; decide) (by rw [hs]; have h := Go.Great.fill_whole (s := 1) (by decide) [.string t] ((Array.range (1 * 1)).map ((Value.string noS).cells[· % (Value.string noS).cells.size]!)) (fun v hv => by rw [List.mem_singleton.1 hv]; rfl) (by simp); simpa [Value.cells] using h)
attribute [local go_sem ↓] bsS
attribute [local go_sem] run_bsS1
end Go.Proofs.YtinoaajohkafmaaGreat.Pa

/-
  statements, up to where a closure says so.
-/
namespace Go.Proofs.YtinoaajohkafmaaGreat.Pa
open Go Go.RowKit Go.Proofs.YtinoaajohkafmaaGreat.Lx Go.Proofs.YtinoaajohkafmaaGreat.Uni
set_option linter.unusedVariables false
set_option linter.unusedSimpArgs false
attribute [local go_sem ↓] ldK stK alK bdK bsK ldN stN alN bdN bsN
attribute [local irreducible] kcs ncs ncells
attribute [local go_sem] run_alK run_bdK0 run_bdKs run_bdKn run_bdKe run_bsK run_fdK0 run_fdK1 run_fdK2 run_fdK3 run_fdN4 run_alN run_stNg run_ldNg run_bdN0 run_bdN04 run_bdN02 run_bdN01 run_bdN024 run_bdN03 run_bdN0234 run_bsN1 run_bsN2 run_bsN3
theorem stF_fin {L : Low} {fin : PS → Bool} {f : Nat} {s : PS} (h : fin s = true) : stmtsF L fin f s = ([], s) := by
  cases f with
  | zero => rfl
  | succ f => unfold stmtsF; rw [h]; rfl
theorem stF_bad {L : Low} {fin : PS → Bool} {f : Nat} {s : PS} (h : s.fault ≠ 0) : stmtsF L fin f s = ([], s) := by
  cases f with
  | zero => rfl
  | succ f => unfold stmtsF; rw [if_pos h]; split <;> rfl
theorem stF_cons {L : Low} {fin : PS → Bool} {f : Nat} {s : PS} (h : fin s = false) (h0 : s.fault = 0) : stmtsF L fin (f + 1) s = ((L.st s).1 :: (stmtsF L fin f (L.st s).2).1, (stmtsF L fin f (L.st s).2).2) := by
  conv => lhs; unfold stmtsF
  rw [h, if_neg (by simp), if_neg (by simpa using h0)]
end Go.Proofs.YtinoaajohkafmaaGreat.Pa

/-
  block, function: lists as kids.
-/
namespace Go.Proofs.YtinoaajohkafmaaGreat.Pa
open Go Go.RowKit Go.Proofs.YtinoaajohkafmaaGreat.Lx Go.Proofs.YtinoaajohkafmaaGreat.Uni
set_option linter.unusedVariables false
set_option linter.unusedSimpArgs false
attribute [local go_sem ↓] ldK stK alK bdK bsK ldN stN alN bdN bsN
attribute [local irreducible] kcs ncs ncells
attribute [local go_sem] run_alK run_bdK0 run_bdKs run_bdKn run_bdKe run_bsK run_fdK0 run_fdK1 run_fdK2 run_fdK3 run_fdN4 run_alN run_stNg run_ldNg run_bdN0 run_bdN04 run_bdN02 run_bdN01 run_bdN024 run_bdN03 run_bdN0234 run_bsN1 run_bsN2 run_bsN3
section
variable {g d : Nat} {s : PS} {S0 : Nat → Prop} {w0 W : World} {bs : List (Nat × Nd)} {vs : List (Tree × Nd)}
end
end Go.Proofs.YtinoaajohkafmaaGreat.Pa

/-
  literal, key, getter, setter, handler, variable, constant.
-/
namespace Go.Proofs.YtinoaajohkafmaaGreat.Pa
open Go Go.RowKit Go.Proofs.YtinoaajohkafmaaGreat.Lx Go.Proofs.YtinoaajohkafmaaGreat.Uni
set_option linter.unusedVariables false
set_option linter.unusedSimpArgs false
attribute [local go_sem ↓] ldK stK alK bdK bsK ldN stN alN bdN bsN
attribute [local irreducible] kcs ncs ncells
attribute [local go_sem] run_alK run_bdK0 run_bdKs run_bdKn run_bdKe run_bsK run_fdK0 run_fdK1 run_fdK2 run_fdK3 run_fdN4 run_alN run_stNg run_ldNg run_bdN0 run_bdN04 run_bdN02 run_bdN01 run_bdN024 run_bdN03 run_bdN0234 run_bsN1 run_bsN2 run_bsN3
end Go.Proofs.YtinoaajohkafmaaGreat.Pa
