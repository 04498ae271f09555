/-
  The map of a ring: which block each key leads to.
-/
import Derived.Test.YtoakiejpmcgdjaaGreatDoorHpRing
namespace Go.Proofs.YtoakiejpmcgdjaaGreatDoor.Hp
open Go Go.RowKit Go.Maps Go.Proofs.YtoakiejpmcgdjaaGreatDoor.Keys
set_option linter.unusedVariables false
set_option linter.unusedSimpArgs false

/-- How a pointer reads: by its block. -/
def Rp : Value → Option (DataW Unit × List MemPlace)
  | .pointer none => some (.nil, [])
  | .pointer (some a) => if a = ⟨a.block, 0, none⟩ then some (.lit (.int .i64 a.block), []) else none
  | _ => none
def pto : Option Nat → Option Addr
  | none => none
  | some b => some ⟨b, 0, none⟩
def rd (o : Option Nat) : DataW Unit := match o with | none => .nil | some b => .lit (.int .i64 b)
theorem rp_pto (o : Option Nat) : Rp (.pointer (pto o)) = some (rd o, []) := by cases o <;> simp [Rp, pto, rd]
theorem rp_inv {v : Value} {o : Option Nat} {ps : List MemPlace} (h : Rp v = some (rd o, ps)) : v = .pointer (pto o) := by
  unfold Rp at h
  split at h
  · cases o with
    | none => rfl
    | some b => simp [rd] at h
  · rename_i a
    split at h
    · rename_i ha
      cases o with
      | none => simp [rd] at h
      | some b =>
        simp [rd] at h
        rw [ha]
        obtain ⟨h1, -⟩ := h
        have : a.block = b := by omega
        rw [this]
        rfl
    · cases h
  · cases h
/-- Block m is a map of at most n keys, each of which leads where f says. -/
def MapIs (w : World) (m n : Nat) (f : KV → Option Nat) : Prop := ∃ D, w.ownsMap Tryz.prog 69 Rp m n D ∧ ∀ k, Fine k → D.atKey (klit k) .nil = rd (f k)
theorem MapIs.lt {w : World} {m n : Nat} {f : KV → Option Nat} (h : MapIs w m n f) : m < w.heap.size := h.choose_spec.1.lt
theorem MapIs.obj {w : World} {m n : Nat} {f : KV → Option Nat} (h : MapIs w m n f) : ∃ es c, w.heap[m]? = some (.map es c) := by
  obtain ⟨D, ⟨es, c, h, _⟩, _⟩ := h
  exact ⟨es, c, h⟩
theorem MapIs.same {w w' : World} {m n : Nat} {f : KV → Option Nat} (h : MapIs w m n f) (hw : w'.heap[m]? = w.heap[m]?) : MapIs w' m n f := by
  obtain ⟨D, ⟨es, c, h, hr⟩, hf⟩ := h
  exact ⟨D, ⟨es, c, hw.trans h, hr⟩, hf⟩
theorem MapIs.below {w w' : World} {B m n : Nat} {f : KV → Option Nat} (h : MapIs w m n f) (hb : Below B w w') (hlt : m < B) : MapIs w' m n f := h.same (hb.block m hlt)
theorem MapIs.call {w w' : World} {m n : Nat} {f : KV → Option Nat} (h : MapIs w m n f) (hb : Below w.heap.size w w') : MapIs w' m n f := h.below hb h.lt
theorem MapIs.made (w : World) : MapIs (w.alloc (.map #[] 0)) w.heap.size 0 (fun _ => none) := ⟨_, World.ownsMap_made _ _ _ _, fun k _ => rfl⟩
theorem MapIs.mono {w : World} {m n n' : Nat} {f : KV → Option Nat} (h : MapIs w m n f) (hn : n ≤ n') : MapIs w m n' f := by
  obtain ⟨D, hd, hf⟩ := h
  exact ⟨D, hd.mono hn, hf⟩
theorem zeroP (w : World) : (zeroValue 160).run Tryz.prog w = .ok (.pointer none) w := by kernel_rfl
/-- What a key leads to. -/
theorem MapIs.look {w : World} {m n : Nat} {f : KV → Option Nat} (h : MapIs w m n f) {k : KV} (hk : Fine k) : (Instr.lookup 159 (.map (some m)) (.agg #[.string k.1, .int .i64 k.2]) false).run Tryz.prog w = .ok (.pointer (pto (f k))) w := by
  obtain ⟨D, hd, hf⟩ := h
  obtain ⟨v, ps, hrun, hv⟩ := hd.lookup (t := 159) (e := 160) law26 Tryz.underlying159 (zeroP w) (zd := .nil) (zp := []) rfl hk.key
  rw [hf k hk] at hv
  rw [hrun, rp_inv hv]
def upd (f : KV → Option Nat) (k : KV) (o : Option Nat) : KV → Option Nat := fun k' => if k' = k then o else f k'
theorem key_lit {k : KV} (hk : Fine k) : WideAt.IsKeyLit (klit k) := law26.key hk.key
/-- A key led anew. -/
theorem MapIs.store {w : World} {m n : Nat} {f : KV → Option Nat} (h : MapIs w m n f) (hn : n < maxLen) {k : KV} (hk : Fine k) (o : Option Nat) : ∃ w', (Instr.mapUpdate 159 (.map (some m)) (.agg #[.string k.1, .int .i64 k.2]) (.pointer (pto o))).run Tryz.prog w = .ok () w' ∧ MapIs w' m (n + 1) (upd f k o) ∧ w.mapTurned w' m := by
  obtain ⟨D, hd, hf⟩ := h
  obtain ⟨w', h1, h2, h3⟩ := hd.store (t := 159) (e := 160) law26 Tryz.underlying159 hn hk.key (rp_pto o)
  refine ⟨w', h1, ⟨_, h2, fun k' hk' => ?_⟩, h3⟩
  unfold upd
  by_cases e : k' = k
  · subst e
    rw [if_pos rfl, atKey_put_same hd.isMap (key_lit hk)]
  · rw [if_neg e, atKey_put_other (fun h => e (klit_inj hk' hk h)), hf k' hk']
theorem MapIs.del {w : World} {m n : Nat} {f : KV → Option Nat} (h : MapIs w m n f) {k : KV} (hk : Fine k) (ty : TypeId) : ∃ w', (Builtin.delete_ #[159, 69] ty #[.map (some m), .agg #[.string k.1, .int .i64 k.2]]).run Tryz.prog w = .ok (.tuple #[]) w' ∧ MapIs w' m n (upd f k none) ∧ w.mapTurned w' m := by
  obtain ⟨D, hd, hf⟩ := h
  obtain ⟨w', h1, h2, h3⟩ := hd.drop (t := 159) (e := 160) law26 Tryz.underlying159 hk.key ty
  refine ⟨w', h1, ⟨_, h2, fun k' hk' => ?_⟩, h3⟩
  unfold upd
  by_cases e : k' = k
  · subst e
    rw [if_pos rfl, atKey_del_same]
    rfl
  · rw [if_neg e, atKey_del_other (fun h => e (klit_inj hk' hk h)), hf k' hk']
theorem turned_other {w w' : World} {m b : Nat} (h : w.mapTurned w' m) (hne : b ≠ m) : w'.heap[b]? = w.heap[b]? := by
  obtain ⟨es, clock, es', clock', hb, rfl⟩ := h
  exact Go.ChangeMaps.heap_setBlock_other hb _ hne
theorem MapIs.len {w : World} {m n : Nat} {f : KV → Option Nat} (h : MapIs w m n f) (ty : TypeId) : ∃ c : Nat, c ≤ n ∧ (Builtin.len_ #[159] ty #[.map (some m)]).run Tryz.prog w = .ok (.int .i64 c) w := by
  obtain ⟨D, hd, hf⟩ := h
  exact ⟨_, hd.size_le, hd.len Tryz.underlying159 ty⟩

/-! ### Built -/
theorem run_bdN (w : World) (e : En) (p q a : Option Addr) : (Bd 162 #[(0, .agg (ecs e)), (1, .pointer p), (2, .pointer q), (3, .pointer a)]).run Tryz.prog w = .ok (.agg (ncs e (.pointer p) (.pointer q) (.pointer a))) w := run_build w _ _ _ (by kernel_rfl)
theorem run_bdH (w : World) (m : Nat) : (Bd 164 #[(1, .map (some m))]).run Tryz.prog w = .ok (.agg (hcs nilP nilP m)) w := run_build w _ _ _ (by kernel_rfl)
theorem run_bdO (w : World) (t : Th) (pb : Nat) : (Bd 154 #[(0, .agg (tcs t)), (1, .pointer (some ⟨pb, 0, none⟩))]).run Tryz.prog w = .ok (.agg (ocs t pb)) w := run_build w _ _ _ (by kernel_rfl)
theorem run_bdT1 (w : World) (n : Int) : (Bd 100 #[(0, .int .i64 n)]).run Tryz.prog w = .ok (.agg (tcs { zeroT with kind := n })) w := run_build w _ _ _ (by kernel_rfl)
theorem run_bdT5 (w : World) (n : Int) : (Bd 100 #[(5, .int .i64 n)]).run Tryz.prog w = .ok (.agg (tcs { zeroT with n := n })) w := run_build w _ _ _ (by kernel_rfl)
end Go.Proofs.YtoakiejpmcgdjaaGreatDoor.Hp
