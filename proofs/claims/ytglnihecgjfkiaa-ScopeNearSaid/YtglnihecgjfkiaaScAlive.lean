/-
  One set of scopes through a row of calls; alive.
-/
import Derived.Test.YtglnihecgjfkiaaScMake
namespace Go.Proofs.Ytglnihecgjfkiaa.Sc
open Go Go.RowKit Go.Maps
set_option linter.unusedVariables false
set_option linter.unusedSimpArgs false
attribute [local go_sem ↓] ldV stV alV bxV bxP bdV bdP
attribute [local irreducible] vcs pcs
attribute [local go_sem] run_bx run_alV run_bd0 run_bd1 run_stN

/-- Values that lie in blocks of their own. -/
def Has (K : List (Nat × Vl)) (w : World) : Prop := ∀ p ∈ K, Blk w p.1 (vcs p.2) 29
/-- Since w0 one set of scopes has come, at hb, and is S now; the values K lie beside it. -/
def G (w0 : World) (hb : Nat) (S : List Sco) (K : List (Nat × Vl)) (w : World) : Prop := ∃ X, PIs w0.heap.size X w hb S ∧ Below w0.heap.size w0 w ∧ Has K w ∧ ∀ p ∈ K, ¬ X p.1
theorem has_nil (w : World) : Has [] w := fun _ h => by cases h
theorem Has.cons {K : List (Nat × Vl)} {w : World} {b : Nat} {v : Vl} (h : Has K w) (hb : Blk w b (vcs v) 29) : Has ((b, v) :: K) w := fun p hp => by
  rcases List.mem_cons.1 hp with rfl | hp
  · exact hb
  · exact h p hp
theorem Has.old {K : List (Nat × Vl)} {w : World} (h : Has K w) (o : Obj) : Has K (w.alloc o) := fun p hp => (h p hp).old o
theorem Has.call {K : List (Nat × Vl)} {w w' : World} (h : Has K w) (hb : Below w.heap.size w w') : Has K w' := fun p hp => (h p hp).call hb
section
variable {w0 w w' : World} {hb : Nat} {S : List Sco} {K : List (Nat × Vl)}
theorem G.bel (h : G w0 hb S K w) : Below w0.heap.size w0 w := by obtain ⟨X, h1, h2, -⟩ := h; exact h2
theorem G.has (h : G w0 hb S K w) : Has K w := by obtain ⟨X, h1, h2, h3, -⟩ := h; exact h3
theorem G.alloc (h : G w0 hb S K w) (o : Obj) : G w0 hb S K (w.alloc o) := by
  obtain ⟨X, h1, h2, h3, h4⟩ := h
  exact ⟨X, h1.alloc o, h2.alloc h2.size o, h3.old o, h4⟩
theorem G.drew (h : G w0 hb S K w) : G w0 hb S K w.drew := by
  obtain ⟨X, h1, h2, h3, h4⟩ := h
  exact ⟨X, h1.drew, h2.drew, h3, h4⟩
/-- A value more. -/
theorem G.new (h : G w0 hb S K w) (v : Vl) : G w0 hb S ((w.heap.size, v) :: K) (w.alloc (.cells (vcs v) 29)) := by
  obtain ⟨X, h1, h2, h3, h4⟩ := h
  refine ⟨X, h1.alloc _, h2.alloc h2.size _, (h3.old _).cons (Blk.new _ _ _), fun p hp => ?_⟩
  rcases List.mem_cons.1 hp with rfl | hp
  · exact fun hx => by have := (h1.low _ hx).2; omega
  · exact h4 p hp
theorem G.below (h : G w0 hb S K w) (hb' : Below w.heap.size w w') : G w0 hb S K w' := by
  obtain ⟨X, h1, h2, h3, h4⟩ := h
  exact ⟨X, h1.below hb', h2.trans (hb'.mono h2.size), h3.call hb', h4⟩
theorem G.ends {X : Nat → Prop} {r : Value} {T : List Sco} {e : Ending} (h : PIs w0.heap.size X w hb S) (h2 : Below w0.heap.size w0 w) (h3 : Has K w) (h4 : ∀ p ∈ K, ¬ X p.1) (k : Ends w0.heap.size X hb w r T e w') : e = .returned r ∧ G w0 hb T K w' :=
  ⟨k.1, _, k.2.1, h2.trans (k.2.2.toBelow h2.size fun b hb => (h.low b hb).1), fun p hp => k.2.2.blk (h3 p hp) (h4 p hp), fun p hp hx => hx.elim (h4 p hp) fun hx => by have := (h3 p hp).lt; omega⟩
theorem g_new {w : World} (hK : Has K w) : Calls Try.prog 7 #[] w fun e w' => ∃ hb, e = .returned (ptr hb) ∧ G w hb [⟨-1, []⟩] K w' := by
  refine (new_any w).mono ?_
  rintro e w' ⟨hb, X, rfl, h1, h2⟩
  exact ⟨hb, rfl, X, h1, h2, hK.call h2, fun p hp hx => by have := (h1.low _ hx).1; have := (hK p hp).lt; omega⟩
theorem G.get (h : G w0 hb S K w) (env : Int) {s : ByteArray} (hs : Fine s) : Calls Try.prog 15 #[ptr hb, .int .i64 env, .string s] w fun e w' => e = .returned (.tuple #[.agg (vcs (getF S env s).1), .int .i64 (getF S env s).2]) ∧ G w0 hb S K w' := by
  have h0 := h
  obtain ⟨X, ⟨sb, mb, vb, a, c, h1⟩, h2, -⟩ := h
  refine (get_any h1 env hs).mono ?_
  rintro e w' ⟨rfl, hb'⟩
  exact ⟨rfl, h0.below hb'⟩
theorem G.set (h : G w0 hb S K w) (env : Int) {s : ByteArray} (hs : Fine s) (v : Vl) : Calls Try.prog 17 #[ptr hb, .int .i64 env, .string s, .agg (vcs v)] w fun e w' => e = .returned (.int .i64 (setF S env s v).1) ∧ G w0 hb (setF S env s v).2 K w' := by
  obtain ⟨X, ⟨sb, mb, vb, a, c, h1⟩, h2, h3, h4⟩ := h
  refine (set_any h1 env hs v).mono ?_
  rintro e w' k
  exact G.ends ⟨sb, mb, vb, a, c, h1⟩ h2 h3 h4 k
theorem G.begin (h : G w0 hb S K w) (env : Int) {s : ByteArray} (hs : Fine s) (v : Vl) : Calls Try.prog 13 #[ptr hb, .int .i64 env, .string s, .agg (vcs v)] w fun e w' => e = .returned (.bool (beginF S env s v).1) ∧ G w0 hb (beginF S env s v).2 K w' := by
  obtain ⟨X, ⟨sb, mb, vb, a, c, h1⟩, h2, h3, h4⟩ := h
  refine (begin_any h1 env hs v).mono ?_
  rintro e w' k
  exact G.ends ⟨sb, mb, vb, a, c, h1⟩ h2 h3 h4 k
theorem G.let (h : G w0 hb S K w) (env : Int) {s : ByteArray} (hs : Fine s) (fx : Bool) {n : Nat} (hl : Lim n S) (hn : n ≤ 900) : Calls Try.prog 9 #[ptr hb, .int .i64 env, .string s, .bool fx] w fun e w' => e = .returned (.bool (letF S env s fx).1) ∧ G w0 hb (letF S env s fx).2 K w' := by
  obtain ⟨X, ⟨sb, mb, vb, a, c, h1⟩, h2, h3, h4⟩ := h
  refine (let_any h1 env hs fx (fun i sc hi => by have := hl.vars i sc hi; omega)).mono ?_
  rintro e w' k
  exact G.ends ⟨sb, mb, vb, a, c, h1⟩ h2 h3 h4 k
theorem G.make (h : G w0 hb S K w) (p : Int) {n : Nat} (hl : Lim n S) (hn : n ≤ 900) : Calls Try.prog 10 #[ptr hb, .int .i64 p] w fun e w' => e = .returned (.int .i64 (makeF S p).1) ∧ G w0 hb (makeF S p).2 K w' := by
  obtain ⟨X, ⟨sb, mb, vb, a, c, h1⟩, h2, h3, h4⟩ := h
  refine (make_any h1 p (by have := hl.scopes; omega)).mono ?_
  rintro e w' k
  exact G.ends ⟨sb, mb, vb, a, c, h1⟩ h2 h3 h4 k
end
/-- '==' of a value with itself. -/
theorem run_eqVV (v : Vl) (w : World) : (Op.equalIn 10000 29 (.agg (vcs v)) (.agg (vcs v))).run Try.prog w = .ok true w := by
  simp [go_sem, vcs]
/-- A call of the law's: what it is, of what scope, of what name, a constant or not, its value. -/
structure Ac where
  way : Int
  env : Int
  name : ByteArray
  fx : Bool
  v : Vl
def acs (a : Ac) : Array Value := #[.int .i64 a.way, .int .i64 a.env, .string a.name, .bool a.fx, .int .i64 a.v.k, .int .i64 a.v.n, .string a.v.s]
/-- Where a list of calls lies. -/
def ActsAt (a : Option Addr) (ks : List Ac) (w : World) : Prop := ∀ (j : Nat) (k : Ac), ks[j]? = some k → ∃ b o, a = some ⟨b, o, none⟩ ∧ b < w.heap.size ∧ w.rangeAt b (o + j * 7) (acs k).toList ∧ Fine k.name
theorem fine_a : Fine ⟨#[97]⟩ := by unfold Fine maxLen; decide
theorem lim0 : Lim 0 [⟨-1, []⟩] := ⟨Nat.le_refl _, fun i sc hi => by
  cases i with
  | zero => simp at hi; subst hi; exact Nat.le_refl _
  | succ i => simp at hi⟩
theorem val_new (w : World) (v : Vl) : (w.alloc (.cells (vcs v) 29)).cell? ⟨w.heap.size, 0, none⟩ = some (.int .i64 v.k) := by
  rw [(Blk.new w (vcs v) _).cell]; simp [vcs]
set_option maxRecDepth 100000 in
set_option maxHeartbeats 2000000 in
theorem alive_any (w : World) : Calls Try.prog 6 #[] w fun e w' => e = .returned (.bool true) ∧ Below w.heap.size w w' := by
  have hnew := g_new (has_nil w)
  go_enter Try.func6, Try.ntmps6
  go_wp2_with (go_at_call 7; refine hnew.mono ?_; rintro e w1 ⟨hb, rfl, hg1⟩; refine Hid.out ?_)
  refine Lib.hid ?_
  have c1 := hg1.get 0 fine_a
  have e1 : getF [⟨-1, []⟩] 0 ⟨#[97]⟩ = (zeroV, 1) := rfl
  rw [e1] at c1
  clear hg1 hnew e1
  go_wp2_with (go_at_call 15; refine c1.mono ?_; rintro e w2 ⟨rfl, hg2⟩; refine Hid.out ?_)
  refine Lib.hid ?_
  have c2 := (hg2.alloc (.cells (vcs zeroV) 29)).let 0 fine_a false lim0 (by omega)
  have e2 : letF [⟨-1, []⟩] 0 ⟨#[97]⟩ false = (true, [⟨-1, [⟨⟨#[97]⟩, false, false, zeroV⟩]⟩]) := rfl
  rw [e2] at c2
  clear hg2 c1 e2
  go_wp2_with (go_at_call 9; refine c2.mono ?_; rintro e w3 ⟨rfl, hg3⟩; refine Hid.out ?_)
  refine Lib.hid ?_
  have c3 := hg3.begin 0 fine_a ⟨1, 0, ⟨#[]⟩⟩
  have e3 : beginF [⟨-1, [⟨⟨#[97]⟩, false, false, zeroV⟩]⟩] 0 ⟨#[97]⟩ ⟨1, 0, ⟨#[]⟩⟩ = (true, [⟨-1, [⟨⟨#[97]⟩, false, true, ⟨1, 0, ⟨#[]⟩⟩⟩]⟩]) := rfl
  rw [e3] at c3
  clear hg3 c2 e3
  go_wp2_with (go_at_call 13; refine c3.mono ?_; rintro e w4 ⟨rfl, hg4⟩; refine Hid.out ?_)
  refine Lib.hid ?_
  have c4 := hg4.get 0 fine_a
  have e4 : getF [⟨-1, [⟨⟨#[97]⟩, false, true, ⟨1, 0, ⟨#[]⟩⟩⟩]⟩] 0 ⟨#[97]⟩ = (⟨1, 0, ⟨#[]⟩⟩, 0) := rfl
  rw [e4] at c4
  clear hg4 c3 e4
  go_wp2_with (go_at_call 15; refine c4.mono ?_; rintro e w5 ⟨rfl, hg5⟩; refine Hid.out ?_)
  refine Lib.hid ?_
  have v5 := val_new w5 ⟨1, 0, ⟨#[]⟩⟩
  have HB := Lib.hid (hg5.alloc (.cells (vcs ⟨1, 0, ⟨#[]⟩⟩) 29)).bel
  clear hg5 c4
  go_wp2
  go_ret
  exact ⟨rfl, HB.out⟩
end Go.Proofs.Ytglnihecgjfkiaa.Sc
