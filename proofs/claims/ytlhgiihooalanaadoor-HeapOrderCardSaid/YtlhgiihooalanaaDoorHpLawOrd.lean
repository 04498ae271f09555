/-
  The walk of the law HeapOrder.
-/
import Derived.Test.YtlhgiihooalanaaDoorHpHx
import Derived.Test.YtlhgiihooalanaaDoorHpROrdZ
import Derived.Test.YtlhgiihooalanaaDoorHpAlive
import Derived.Test.YtlhgiihooalanaaDoorHpSameK
namespace Go.Proofs.YtlhgiihooalanaaDoor.Hp
open Go Go.RowKit Go.Maps Go.Shelf Go.Proofs.YtlhgiihooalanaaDoor.Keys
set_option linter.unusedVariables false
set_option linter.unusedSimpArgs false
theorem hks_out {w w' : World} {KS : List KV} {v : Value} (h : HKs w KS v w') : w'.ownsRow w.heap.size 35 2 v (ordF KS).length (cellsK (ordF KS)) ∧ Below w.heap.size w w' := h
theorem ordF_small (l : List KV) : (ordF l).length ≤ 3 * l.length := by
  rw [ordF_eq, List.length_append, List.length_append, numK_length, rise_length]
  have h1 := idxs_len (once l)
  have h2 := names_len (once l)
  have h3 := syms_len (once l)
  have h4 := once_length l
  omega
theorem own_key {w : World} {base g off L c r : Nat} {O : List KV} {K : KV} (h : w.ownsRow base 35 2 (.slice (some ⟨g, off, none⟩) L c) L (cellsK O)) (hl : O.length = L) (hK : O[r]? = some K) : w.cell? ⟨g, off + r * 2, none⟩ = some (.string K.1) ∧ w.cell? ⟨g, off + r * 2 + 1, none⟩ = some (.int .i64 K.2) := by
  subst hl
  obtain ⟨b, o, e, _, h0, h1⟩ := keysAt_own h r K hK
  cases e
  exact ⟨h0, h1⟩
theorem own_addr {w : World} {base L c r : Nat} {a : Option Addr} {O : List KV} {K : KV} (h : w.ownsRow base 35 2 (.slice a L c) L (cellsK O)) (hl : O.length = L) (hK : O[r]? = some K) : ∃ g off, a = some ⟨g, off, none⟩ := by
  subst hl
  obtain ⟨b, o, e, _, h0, h1⟩ := keysAt_own h r K hK
  exact ⟨b, o, e⟩
theorem run_eqZ (w : World) : (Op.equalIn 10000 38 (.agg (dcs zeroD)) (.agg (dcs zeroD))).run Tryd.prog w = .ok true w := by kernel_rfl
theorem own_start (w : World) (base : Nat) (ks : List KV) : w.ownsRow base 35 2 (.slice none 0 0) (once (ks.take 0)).length (cellsK (once (ks.take 0))) := World.ownsRow_nil _ _ _ _
attribute [local go_sem ↓] ldE ldT ldD bxT bxO bdO bdT bdDs alE alT alD stE stT stD
attribute [local irreducible] ecs ncs hcs dcs tcs ocs from_ ordF cellsK HKs
attribute [local go_sem] run_bx run_alE run_alT run_alD run_bdO run_bdT0 run_bdT1 run_bdT5 run_bdDs tcs_0 tcs_5 tcs_20 tcs_set5 tcs_set20 ocs_24

theorem lawOrd_out (ao : Option Addr) (n cap : Nat) (again : Int) (w : World) (h : n < 1 ∨ 30 < n ∨ again < 0) : Calls Tryd.prog 3 #[.slice ao n cap, .int .i64 again] w fun e w' => e = .returned (.bool true) ∧ Below w.heap.size w w' := by
  by_cases h0 : (n : Int) < 1
  · clear h
    go_enter Tryd.func3, Tryd.ntmps3
    go_wp2_with (go_at_call 4; refine (alive_any _).mono ?_; rintro e w1 ⟨rfl, hb⟩)
    go_ret
    exact ⟨rfl, hb⟩
  · have h2 : decide ((n : Int) < 1) = false := by simp; omega
    by_cases h1 : 30 < (n : Int)
    · clear h h0
      go_enter Tryd.func3, Tryd.ntmps3
      go_wp2_with (go_at_call 4; refine (alive_any _).mono ?_; rintro e w1 ⟨rfl, hb⟩)
      go_ret
      exact ⟨rfl, hb⟩
    · have h3 : decide (30 < (n : Int)) = false := by simp; omega
      have h4 : again < 0 := by omega
      clear h h0 h1
      go_enter Tryd.func3, Tryd.ntmps3
      go_wp2_with (go_at_call 4; refine (alive_any _).mono ?_; rintro e w1 ⟨rfl, hb⟩)
      go_ret
      exact ⟨rfl, hb⟩
/-- Between two rounds. -/
def LOrd (w0 : World) (hb g c ob pb mb : Nat) (th : Th) (ks : List KV) (j : Nat) (v : Value) (wr : World) : Prop :=
  ∃ ns, Hx w0 wr hb g c ob pb mb j 0 th ns ∧ keysN ns = once (ks.take j) ∧ wr.ownsRow w0.heap.size 35 2 v (once (ks.take j)).length (cellsK (once (ks.take j))) ∧ ∀ k ∈ ks.take j, Fine k
/-- The descriptor that the law puts. -/
def putD (n : Int) : Ds := { zeroD with hv := true, v := ⟨3, n, ⟨#[]⟩⟩ }
theorem run_bdPut (n : Int) (w : World) : (Bd 38 #[(0, .bool true), (6, .agg #[.int .i64 3, .int .i64 n, .string ⟨#[]⟩])]).run Tryd.prog w = .ok (.agg (dcs (putD n))) w := run_build w _ _ _ (by kernel_rfl)
theorem memb_once (l : List KV) (k : KV) : memb k (once l) = memb k l := once_memb
theorem LOrd.old {w0 w1 w2 : World} {hb g c ob pb mb j : Nat} {th : Th} {ks : List KV} {v : Value} {ns : List Nd} {k : KV} (h1 : Hx w0 w1 hb g c ob pb mb (j + 1) 0 th ns) (h2 : keysN ns = once (ks.take j)) (h3 : w1.ownsRow w0.heap.size 35 2 v (once (ks.take j)).length (cellsK (once (ks.take j)))) (h4 : ∀ k ∈ ks.take j, Fine k) (hk : ks[j]? = some k) (hf : Fine k) (hm : memb k (once (ks.take j)) = true) (hb2 : Below w1.heap.size w1 w2) : LOrd w0 hb g c ob pb mb th ks (j + 1) v w2 := by
  have e := once_old hk hm
  refine ⟨ns, h1.next hb2, by rw [e]; exact h2, by rw [e]; exact own_below h3 hb2, fun x hx => ?_⟩
  rw [take_snoc hk] at hx
  rcases List.mem_append.1 hx with hx | hx
  · exact h4 x hx
  · rw [List.mem_singleton.1 hx]; exact hf
theorem LOrd.new {w0 w2 w3 : World} {hb g c ob pb mb j : Nat} {th : Th} {ks : List KV} {v v' : Value} {ns : List Nd} {k : KV} {o : Obj} (h1 : Hx w0 w2 hb g c ob pb mb (j + 1) 0 th ns) (h2 : keysN ns = once (ks.take j) ++ [k]) (h3 : w2.ownsRow w0.heap.size 35 2 v (once (ks.take j)).length (cellsK (once (ks.take j)))) (h4 : ∀ k ∈ ks.take j, Fine k) (hk : ks[j]? = some k) (hf : Fine k) (hm : memb k (once (ks.take j)) = false)
    (hown : w3.ownsRow w0.heap.size 35 2 v' ((once (ks.take j)).length + 1) (cellsK (once (ks.take j)) ++ [.string k.1, .int .i64 k.2])) (hg : (w2.alloc o).grownBy w3 v.ownBlock) : LOrd w0 hb g c ob pb mb th ks (j + 1) v' w3 := by
  have e := once_new hk hm
  have hne : ∀ {b : Nat} {cs : Array Value} {t : TypeId}, Blk w2 b cs t → t ≠ 35 → w3.heap[b]? = w2.heap[b]? := fun {b cs t} hB ht => (hg.block b (by have := hB.lt; simp; omega) (fun e => own_ne h3 hB ht e.symm)).trans (heap_alloc_old _ _ hB.lt)
  refine ⟨ns, ?_, by rw [e]; exact h2, by rw [e, List.length_append, cellsK_append, cellsK_one]; exact hown, fun x hx => ?_⟩
  · obtain ⟨q1, ⟨cur, q2, q2'⟩, q3, q4, q5, q6, q7, q8⟩ := h1
    have hs := q8.size
    refine ⟨(hne q1 (by decide)).trans q1, ⟨cur, (hne q2 (by decide)).trans q2, q2'⟩, (hne q3 (by decide)).trans q3, ⟨q4.ring.same fun b hb => ?_, q4.map.same ?_⟩, q5, q6, q7, (q8.alloc hs o).grown hg (by simp; omega) (fun k hk => (h3.lt k hk).1)⟩
    · obtain ⟨cs, t, hbl, ht⟩ := q4.ring.cells b hb
      exact hne hbl (by rcases ht with rfl | rfl <;> decide)
    · refine (hg.block mb (by have := q4.map.lt; simp; omega) (fun e => ?_)).trans (heap_alloc_old _ _ q4.map.lt)
      obtain ⟨es', c, ho⟩ := q4.map.obj
      rcases h3.2 with ⟨rfl, _⟩ | ⟨g, cap, cur, rfl, _, hgb, _⟩
      · simp [Value.ownBlock] at e
      · simp [Value.ownBlock] at e
        rw [e, hgb] at ho
        cases ho
  · rw [take_snoc hk] at hx
    rcases List.mem_append.1 hx with hx | hx
    · exact h4 x hx
    · rw [List.mem_singleton.1 hx]; exact hf
theorem keysN_split {ns : List Nd} {O : List KV} {r : Nat} {K : KV} (h : keysN ns = O) (hr : O[r]? = some K) : ∃ l x q, ns = l ++ x :: q ∧ ekey x.e = K ∧ keysN l = O.take r ∧ keysN q = O.drop (r + 1) := by
  subst h
  have hlt : r < ns.length := by
    have := (List.getElem?_eq_some_iff.1 hr).1
    simpa [keysN] using this
  refine ⟨ns.take r, ns[r], ns.drop (r + 1), ?_, ?_, ?_, ?_⟩
  · have := List.take_append_drop r ns
    rw [List.drop_eq_getElem_cons hlt] at this
    exact this.symm
  · simp [keysN, hlt] at hr
    exact hr
  · simp [keysN, List.map_take]
  · simp [keysN, List.map_drop]
/-- The key is gone from the others. -/
theorem gone_memb {O : List KV} {r : Nat} {K : KV} (h : O.Nodup) (hr : O[r]? = some K) : memb K (O.take r ++ O.drop (r + 1)) = false := by
  cases hm : memb K (O.take r ++ O.drop (r + 1))
  · rfl
  · have hin := (memb_iff _ _).1 hm
    have hlt := (List.getElem?_eq_some_iff.1 hr).1
    have e : O = O.take r ++ K :: O.drop (r + 1) := by
      have := List.take_append_drop r O
      rw [List.drop_eq_getElem_cons hlt] at this
      rw [(List.getElem?_eq_some_iff.1 hr).2] at this
      exact this.symm
    rw [e] at h
    rw [List.nodup_append, List.nodup_cons] at h
    rcases List.mem_append.1 hin with hin | hin
    · exact absurd rfl (h.2.2 K hin K (by simp))
    · exact absurd hin h.2.1.1
theorem rem_cast (A L : Nat) : (A : Int).tmod (L : Int) = ((A % L : Nat) : Int) := (Int.ofNat_tmod A L).symm
end Go.Proofs.YtlhgiihooalanaaDoor.Hp
