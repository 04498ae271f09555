/-
 Texts of this seat in build order: UnPoint, UnRef, UnUnits.
-/
import Derived.Test.YtkadkmnolkkhgaaGreatDoorMb02
/-
 understudyref1.point: what it gives.
-/
set_option linter.unusedVariables false
namespace Go.Proofs.YtkadkmnolkkhgaaGreatDoor.Uni
open Go.RowKit
def PtPost (s:ByteArray) (i:Nat) (w:World) (e:Ending) (w':World):Prop :=
 e = .returned (.tuple #[.int .i64 ((pt s i).1:Nat),.int .i64 ((pt s i).2:Nat)])∧w=w'
theorem int_eq {k:IntKind} {a b:Int} (h:a=b):Value.int k a=Value.int k b:=by rw [h]
theorem conts_snoc {s:ByteArray} {i q:Nat} (h:Conts s i q) (hq:B s (i+q) / 64=2):Conts s i (q+1):=by
 intro j h1 h2
 by_cases e:j=q
 ·subst e;exact hq
 ·exact h j h1 (by omega)
theorem wraps_i64 (n:Int) (h0:0≤n) (h1:n < 2 ^ 63):IntKind.i64.wrap n=n:=by rw [IntKind.wrap_i64];omega
theorem and64 (x:Int) (h0:0≤x) (h1:x < 1000000000):bits .and .i64 x 63=x % 64:=bits_mask .i64 63 (by decide) wraps_i64 6 (by decide) x h0 (by omega)
theorem and32 (x:Int) (h0:0≤x) (h1:x < 1000000000):bits .and .i64 x 31=x % 32:=bits_mask .i64 63 (by decide) wraps_i64 5 (by decide) x h0 (by omega)
theorem and16 (x:Int) (h0:0≤x) (h1:x < 1000000000):bits .and .i64 x 15=x % 16:=bits_mask .i64 63 (by decide) wraps_i64 4 (by decide) x h0 (by omega)
theorem and8 (x:Int) (h0:0≤x) (h1:x < 1000000000):bits .and .i64 x 7=x % 8:=bits_mask .i64 63 (by decide) wraps_i64 3 (by decide) x h0 (by omega)
theorem and1024 (x:Int) (h0:0≤x) (h1:x < 1000000000):bits .and .i64 x 1023=x % 1024:=bits_mask .i64 63 (by decide) wraps_i64 10 (by decide) x h0 (by omega)
theorem or64 (x y:Int) (h0:0≤x) (h1:x < 1000000000) (h2:0≤y) (h3:y < 64):bits .or .i64 (x*64) y=x*64+y:=bits_join .i64 63 (by decide) wraps_i64 6 (x*64) y (by omega) (by omega) (by omega) h2 (by omega) (by omega)
theorem point_1 (s:ByteArray) (i:Nat) (w:World) (_hs:s.size≤100000000) (hi:i < s.size) (h1:B s i < 128) :
  Calls Tryz.prog 125 #[.string s,.int .i64 i] w (PtPost s i w):=by
 have hpt:=pt_ascii h1
 have HP:=Lib.hid hpt
 have hb:=gB s
 have c1:((B s i:Nat):Int) < 128:=by omega
 have hi0:(i:Int) < s.size:=by omega
 clear hpt
 go_enter Tryz.func125,Tryz.ntmps125
 go_wp2
 go_ret2
 exact ⟨by rw [HP.out];rfl,rfl⟩
set_option maxRecDepth 100000 in
set_option maxHeartbeats 1000000 in
theorem point_2 (s:ByteArray) (i:Nat) (w:World) (hs:s.size≤100000000) (hi:i < s.size) (h1:194≤B s i) (h2:B s i≤223) :
  Calls Tryz.prog 125 #[.string s,.int .i64 i] w (PtPost s i w):=by
 have hcls0:Cls (B s i) 2 (B s i % 32) 128:=.inl ⟨h1,h2,rfl,rfl,rfl⟩
 have hb:=gB s
 have hB0:=B_lt s i
 have hm0:=and32 (B s i:Nat) (by omega) (by omega)
 have c1:(194:Int)≤(B s i:Nat):=by omega
 have c2:((B s i:Nat):Int)≤223:=by omega
 have hi0:(i:Int) < s.size:=by omega
 have HCL:=Lib.hid hcls0
 clear hcls0 h1 h2
 by_cases hz:i+2≤s.size
 ·have hz1:¬ ((s.size:Int) - i < 2):=by omega
  go_enter Tryz.func125,Tryz.ntmps125
  go_wp2
  go_loop [6,9] (fun c k=>∃ q:Nat,1≤q∧q≤2∧k = .int .i64 q∧c = .int .i64 (acc s i (B s i % 32) q:Nat)∧Conts s i q) (fun _ k=>2 - (intOf k).toNat)
  case atStart=>exact ⟨1,by omega,by omega,rfl,int_eq rfl,fun q h1 h2=>by omega⟩
  case round =>
   obtain ⟨q,hq1,hq2,rfl,rfl,hcs⟩:=hrel
   have ha:=acc_le s i (B s i % 32) (by omega) q (by omega)
   have hs1:=acc_succ s i (B s i % 32) q hq1
   have hbq:=B_lt s (i+q)
   by_cases hlt:q < 2
   ·have hiq:((i:Int)+q) < s.size:=by omega
    have hiq2:i+q < s.size:=by omega
    by_cases hcont:B s (i+q) / 64=2
    ·have d1:¬ ((B s (i+q):Nat):Int) < 128:=by omega
     have m1:=and64 (B s (i+q):Nat) (by omega) (by omega)
     have m2:=or64 (acc s i (B s i % 32) q:Nat) ((B s (i+q):Nat) % 64) (by omega) (by omega) (by omega) (by omega)
     have d2:((B s (i+q):Nat):Int)≤191:=by omega
     have HS:=Lib.hid hs1
     have HC:=Lib.hid hcont
     clear hs1 hcont
     go_wp2
     go_round
     case rel=>exact ⟨q+1,by omega,by omega,by go_num,by rw [HS.out];go_num,conts_snoc hcs HC.out⟩
     case measure=>simp [intOf];omega
    ·have hpt:=pt_bad (s:=s) (i:=i) HCL.out (fun x=>hcont (x.2.1 q hq1 hlt))
     have HP:=Lib.hid hpt
     clear hpt hs1
     by_cases d1:((B s (i+q):Nat):Int) < 128
     ·clear hcont
      go_wp2
      go_ret2
      exact ⟨by rw [HP.out];rfl,rfl⟩
     ·have d2:¬ ((B s (i+q):Nat):Int)≤191:=by omega
      clear hcont
      go_wp2
      go_ret2
      exact ⟨by rw [HP.out];rfl,rfl⟩
   ·obtain rfl:q=2:=by omega
    clear hs1
    by_cases hl:128≤acc s i (B s i % 32) 2∧acc s i (B s i % 32) 2≤1114111
    ·have hpt:=pt_ok (s:=s) (i:=i) HCL.out (by omega) hcs hl.1 hl.2
     have HP:=Lib.hid hpt
     have l1:¬ ((acc s i (B s i % 32) 2:Nat):Int) < 128:=by omega
     have l2:¬ 1114111 < ((acc s i (B s i % 32) 2:Nat):Int):=by omega
     clear hpt hl
     go_wp2
     go_ret2
     exact ⟨by rw [HP.out];rfl,rfl⟩
    ·have hpt:=pt_bad (s:=s) (i:=i) HCL.out (fun x=>hl x.2.2)
     have HP:=Lib.hid hpt
     clear hpt
     by_cases l1:((acc s i (B s i % 32) 2:Nat):Int) < 128
     ·clear hl
      go_wp2
      go_ret2
      exact ⟨by rw [HP.out];rfl,rfl⟩
     ·have l2:1114111 < ((acc s i (B s i % 32) 2:Nat):Int):=by omega
      clear hl
      go_wp2
      go_ret2
      exact ⟨by rw [HP.out];rfl,rfl⟩
 ·have hpt:=pt_bad HCL.out (fun x=>hz x.1)
  have HP:=Lib.hid hpt
  have hz1:(s.size:Int) - i < 2:=by omega
  clear hpt hz
  go_enter Tryz.func125,Tryz.ntmps125
  go_wp2
  go_ret2
  exact ⟨by rw [HP.out];rfl,rfl⟩
set_option maxRecDepth 100000 in
set_option maxHeartbeats 1000000 in
theorem point_3 (s:ByteArray) (i:Nat) (w:World) (hs:s.size≤100000000) (hi:i < s.size) (h1:224≤B s i) (h2:B s i≤239) :
  Calls Tryz.prog 125 #[.string s,.int .i64 i] w (PtPost s i w):=by
 have hcls0:Cls (B s i) 3 (B s i % 16) 2048:=.inr (.inl ⟨h1,h2,rfl,rfl,rfl⟩)
 have hb:=gB s
 have hB0:=B_lt s i
 have hm0:=and16 (B s i:Nat) (by omega) (by omega)
 have c1:(224:Int)≤(B s i:Nat):=by omega
 have c2:((B s i:Nat):Int)≤239:=by omega
 have hi0:(i:Int) < s.size:=by omega
 have HCL:=Lib.hid hcls0
 clear hcls0 h1 h2
 by_cases hz:i+3≤s.size
 ·have hz1:¬ ((s.size:Int) - i < 3):=by omega
  go_enter Tryz.func125,Tryz.ntmps125
  go_wp2
  go_loop [6,9] (fun c k=>∃ q:Nat,1≤q∧q≤3∧k = .int .i64 q∧c = .int .i64 (acc s i (B s i % 16) q:Nat)∧Conts s i q) (fun _ k=>3 - (intOf k).toNat)
  case atStart=>exact ⟨1,by omega,by omega,rfl,int_eq rfl,fun q h1 h2=>by omega⟩
  case round =>
   obtain ⟨q,hq1,hq2,rfl,rfl,hcs⟩:=hrel
   have ha:=acc_le s i (B s i % 16) (by omega) q (by omega)
   have hs1:=acc_succ s i (B s i % 16) q hq1
   have hbq:=B_lt s (i+q)
   by_cases hlt:q < 3
   ·have hiq:((i:Int)+q) < s.size:=by omega
    have hiq2:i+q < s.size:=by omega
    by_cases hcont:B s (i+q) / 64=2
    ·have d1:¬ ((B s (i+q):Nat):Int) < 128:=by omega
     have m1:=and64 (B s (i+q):Nat) (by omega) (by omega)
     have m2:=or64 (acc s i (B s i % 16) q:Nat) ((B s (i+q):Nat) % 64) (by omega) (by omega) (by omega) (by omega)
     have d2:((B s (i+q):Nat):Int)≤191:=by omega
     have HS:=Lib.hid hs1
     have HC:=Lib.hid hcont
     clear hs1 hcont
     go_wp2
     go_round
     case rel=>exact ⟨q+1,by omega,by omega,by go_num,by rw [HS.out];go_num,conts_snoc hcs HC.out⟩
     case measure=>simp [intOf];omega
    ·have hpt:=pt_bad (s:=s) (i:=i) HCL.out (fun x=>hcont (x.2.1 q hq1 hlt))
     have HP:=Lib.hid hpt
     clear hpt hs1
     by_cases d1:((B s (i+q):Nat):Int) < 128
     ·clear hcont
      go_wp2
      go_ret2
      exact ⟨by rw [HP.out];rfl,rfl⟩
     ·have d2:¬ ((B s (i+q):Nat):Int)≤191:=by omega
      clear hcont
      go_wp2
      go_ret2
      exact ⟨by rw [HP.out];rfl,rfl⟩
   ·obtain rfl:q=3:=by omega
    clear hs1
    by_cases hl:2048≤acc s i (B s i % 16) 3∧acc s i (B s i % 16) 3≤1114111
    ·have hpt:=pt_ok (s:=s) (i:=i) HCL.out (by omega) hcs hl.1 hl.2
     have HP:=Lib.hid hpt
     have l1:¬ ((acc s i (B s i % 16) 3:Nat):Int) < 2048:=by omega
     have l2:¬ 1114111 < ((acc s i (B s i % 16) 3:Nat):Int):=by omega
     clear hpt hl
     go_wp2
     go_ret2
     exact ⟨by rw [HP.out];rfl,rfl⟩
    ·have hpt:=pt_bad (s:=s) (i:=i) HCL.out (fun x=>hl x.2.2)
     have HP:=Lib.hid hpt
     clear hpt
     by_cases l1:((acc s i (B s i % 16) 3:Nat):Int) < 2048
     ·clear hl
      go_wp2
      go_ret2
      exact ⟨by rw [HP.out];rfl,rfl⟩
     ·have l2:1114111 < ((acc s i (B s i % 16) 3:Nat):Int):=by omega
      clear hl
      go_wp2
      go_ret2
      exact ⟨by rw [HP.out];rfl,rfl⟩
 ·have hpt:=pt_bad HCL.out (fun x=>hz x.1)
  have HP:=Lib.hid hpt
  have hz1:(s.size:Int) - i < 3:=by omega
  clear hpt hz
  go_enter Tryz.func125,Tryz.ntmps125
  go_wp2
  go_ret2
  exact ⟨by rw [HP.out];rfl,rfl⟩
set_option maxRecDepth 100000 in
set_option maxHeartbeats 1000000 in
theorem point_4 (s:ByteArray) (i:Nat) (w:World) (hs:s.size≤100000000) (hi:i < s.size) (h1:240≤B s i) (h2:B s i≤244) :
  Calls Tryz.prog 125 #[.string s,.int .i64 i] w (PtPost s i w):=by
 have hcls0:Cls (B s i) 4 (B s i % 8) 65536:=.inr (.inr ⟨h1,h2,rfl,rfl,rfl⟩)
 have hb:=gB s
 have hB0:=B_lt s i
 have hm0:=and8 (B s i:Nat) (by omega) (by omega)
 have c1:(240:Int)≤(B s i:Nat):=by omega
 have c2:((B s i:Nat):Int)≤244:=by omega
 have hi0:(i:Int) < s.size:=by omega
 have HCL:=Lib.hid hcls0
 clear hcls0 h1 h2
 by_cases hz:i+4≤s.size
 ·have hz1:¬ ((s.size:Int) - i < 4):=by omega
  go_enter Tryz.func125,Tryz.ntmps125
  go_wp2
  go_loop [6,9] (fun c k=>∃ q:Nat,1≤q∧q≤4∧k = .int .i64 q∧c = .int .i64 (acc s i (B s i % 8) q:Nat)∧Conts s i q) (fun _ k=>4 - (intOf k).toNat)
  case atStart=>exact ⟨1,by omega,by omega,rfl,int_eq rfl,fun q h1 h2=>by omega⟩
  case round =>
   obtain ⟨q,hq1,hq2,rfl,rfl,hcs⟩:=hrel
   have ha:=acc_le s i (B s i % 8) (by omega) q (by omega)
   have hs1:=acc_succ s i (B s i % 8) q hq1
   have hbq:=B_lt s (i+q)
   by_cases hlt:q < 4
   ·have hiq:((i:Int)+q) < s.size:=by omega
    have hiq2:i+q < s.size:=by omega
    by_cases hcont:B s (i+q) / 64=2
    ·have d1:¬ ((B s (i+q):Nat):Int) < 128:=by omega
     have m1:=and64 (B s (i+q):Nat) (by omega) (by omega)
     have m2:=or64 (acc s i (B s i % 8) q:Nat) ((B s (i+q):Nat) % 64) (by omega) (by omega) (by omega) (by omega)
     have d2:((B s (i+q):Nat):Int)≤191:=by omega
     have HS:=Lib.hid hs1
     have HC:=Lib.hid hcont
     clear hs1 hcont
     go_wp2
     go_round
     case rel=>exact ⟨q+1,by omega,by omega,by go_num,by rw [HS.out];go_num,conts_snoc hcs HC.out⟩
     case measure=>simp [intOf];omega
    ·have hpt:=pt_bad (s:=s) (i:=i) HCL.out (fun x=>hcont (x.2.1 q hq1 hlt))
     have HP:=Lib.hid hpt
     clear hpt hs1
     by_cases d1:((B s (i+q):Nat):Int) < 128
     ·clear hcont
      go_wp2
      go_ret2
      exact ⟨by rw [HP.out];rfl,rfl⟩
     ·have d2:¬ ((B s (i+q):Nat):Int)≤191:=by omega
      clear hcont
      go_wp2
      go_ret2
      exact ⟨by rw [HP.out];rfl,rfl⟩
   ·obtain rfl:q=4:=by omega
    clear hs1
    by_cases hl:65536≤acc s i (B s i % 8) 4∧acc s i (B s i % 8) 4≤1114111
    ·have hpt:=pt_ok (s:=s) (i:=i) HCL.out (by omega) hcs hl.1 hl.2
     have HP:=Lib.hid hpt
     have l1:¬ ((acc s i (B s i % 8) 4:Nat):Int) < 65536:=by omega
     have l2:¬ 1114111 < ((acc s i (B s i % 8) 4:Nat):Int):=by omega
     clear hpt hl
     go_wp2
     go_ret2
     exact ⟨by rw [HP.out];rfl,rfl⟩
    ·have hpt:=pt_bad (s:=s) (i:=i) HCL.out (fun x=>hl x.2.2)
     have HP:=Lib.hid hpt
     clear hpt
     by_cases l1:((acc s i (B s i % 8) 4:Nat):Int) < 65536
     ·clear hl
      go_wp2
      go_ret2
      exact ⟨by rw [HP.out];rfl,rfl⟩
     ·have l2:1114111 < ((acc s i (B s i % 8) 4:Nat):Int):=by omega
      clear hl
      go_wp2
      go_ret2
      exact ⟨by rw [HP.out];rfl,rfl⟩
 ·have hpt:=pt_bad HCL.out (fun x=>hz x.1)
  have HP:=Lib.hid hpt
  have hz1:(s.size:Int) - i < 4:=by omega
  clear hpt hz
  go_enter Tryz.func125,Tryz.ntmps125
  go_wp2
  go_ret2
  exact ⟨by rw [HP.out];rfl,rfl⟩
set_option maxRecDepth 100000 in
theorem point_0 (s:ByteArray) (i:Nat) (w:World) (_hs:s.size≤100000000) (hi:i < s.size) (h1:128≤B s i) (h2:B s i < 194∨244 < B s i) :
  Calls Tryz.prog 125 #[.string s,.int .i64 i] w (PtPost s i w):=by
 have hpt:pt s i=(0,0):=pt_out h1 (fun n c0 low h=>by rcases h with h |h |h <;> omega)
 have HP:=Lib.hid hpt
 have hb:=gB s
 have hi0:(i:Int) < s.size:=by omega
 have c1:¬ ((B s i:Nat):Int) < 128:=by omega
 clear hpt
 rcases h2 with h2 |h2
 ·have c2:¬ (194:Int)≤(B s i:Nat):=by omega
  have c3:¬ (224:Int)≤(B s i:Nat):=by omega
  have c4:¬ (240:Int)≤(B s i:Nat):=by omega
  clear h1 h2
  go_enter Tryz.func125,Tryz.ntmps125
  go_wp2
  go_ret2
  exact ⟨by rw [HP.out];rfl,rfl⟩
 ·have hB0:=B_lt s i
  have c2:(244:Int) < (B s i:Nat):=by omega
  have c3:¬ ((B s i:Nat):Int)≤223:=by omega
  have c4:¬ ((B s i:Nat):Int)≤239:=by omega
  have c5:¬ ((B s i:Nat):Int)≤244:=by omega
  clear h1 h2
  go_enter Tryz.func125,Tryz.ntmps125
  go_wp2
  go_ret2
  exact ⟨by rw [HP.out];rfl,rfl⟩
theorem point_any (s:ByteArray) (i:Nat) (w:World) (hs:s.size≤100000000) (hi:i < s.size) :
  Calls Tryz.prog 125 #[.string s,.int .i64 i] w (PtPost s i w):=by
 by_cases h1:B s i < 128
 ·exact point_1 s i w hs hi h1
 ·by_cases h2:194≤B s i∧B s i≤223
  ·exact point_2 s i w hs hi h2.1 h2.2
  ·by_cases h3:224≤B s i∧B s i≤239
   ·exact point_3 s i w hs hi h3.1 h3.2
   ·by_cases h4:240≤B s i∧B s i≤244
    ·exact point_4 s i w hs hi h4.1 h4.2
    ·exact point_0 s i w hs hi (by omega) (by omega)
end Go.Proofs.YtkadkmnolkkhgaaGreatDoor.Uni

/-
 understudyref1.points, RightText and Units: what they give.
-/
namespace Go.Proofs.YtkadkmnolkkhgaaGreatDoor.Uni
open Go.RowKit
def ic (l:List Nat):List Value:=l.map fun n:Nat=>Value.int .i64 (n:Int)
theorem ic_append (a b:List Nat):ic (a++b)=ic a++ic b:=by simp [ic]
theorem info3:(Tryz.prog.info? 3).map (fun i=>(i.zero,i.size,i.bytes))=some (some (.int .i64 0),1,8):=by kernel_rfl
def RPost (s:ByteArray) (w:World) (e:Ending) (w':World):Prop :=
 ∃ v,e = .returned (.tuple #[v,.bool (pts s).isSome])∧w'.ownsRow w.heap.size 3 1 v ((pts s).getD []).length (ic ((pts s).getD []))∧Below w.heap.size w w'
def lastHi (l:List Nat):Bool:=match l.getLast? with |some c=>isHi c |none=>false
theorem lastHi_snoc (l:List Nat) (c:Nat):lastHi (l++[c])=isHi c:=by simp [lastHi]
def RInv (s:ByteArray) (w0:World) (v i:Value) (wr:World):Prop :=
 ∃ done f j,i = .int .i64 (j:Nat)∧wr.ownsRow w0.heap.size 3 1 v done.length (ic done)∧Below w0.heap.size w0 wr∧Went s done f j (lastHi done)
theorem isLo_bd {c:Nat} (h:isLo c=true):56320≤c∧c≤57343:=of_decide_eq_true h
theorem isHi_bd {c:Nat} (h:isHi c=true):55296≤c∧c < 56320:=of_decide_eq_true h
theorem isHi_bd2 {c:Nat} (h:isHi c=false):¬ (55296≤c∧c < 56320):=of_decide_eq_false h
theorem isLo_bd2 {c:Nat} (h:¬ isLo c=true):¬ (56320≤c∧c≤57343):=of_decide_eq_false (by simpa [isLo] using h)
theorem last_cell2 {w:World} {base:Nat} {v:Value} {done:List Nat} (h:w.ownsRow base 3 1 v done.length (ic done)) :
  done.length=0∨∃ (m d g cp:Nat),v = .slice (some ⟨g,0,none⟩) (m+1) cp∧w.cell? ⟨g,m,none⟩=some (.int .i64 (d:Nat))∧done.length=m+1∧lastHi done=isHi d:=by
 rcases List.eq_nil_or_concat done with rfl |⟨pre,d,rfl⟩
 ·exact .inl rfl
 ·right
  rcases h.2 with ⟨_,hn⟩ |⟨g,cap,cur,hv,_⟩
  ·simp at hn
  ·refine ⟨pre.length,d,g,cap,by rw [hv];simp,?_,by simp,by simp [lastHi]⟩
   have:=h.cells (g:=g) (by rw [hv];rfl) pre.length (.int .i64 (d:Nat)) (by simp [ic])
   have e:(⟨g,0,none⟩:Addr).add pre.length=⟨g,pre.length,none⟩:=by unfold Addr.add;split <;> simp_all
   rw [e] at this
   exact this
theorem last_cell {w:World} {base:Nat} {v:Value} {done:List Nat} (h:w.ownsRow base 3 1 v done.length (ic done)) (hh:lastHi done=true) :
  ∃ (m d g cp:Nat),v = .slice (some ⟨g,0,none⟩) (m+1) cp∧w.cell? ⟨g,m,none⟩=some (.int .i64 (d:Nat))∧done.length=m+1∧isHi d=true:=by
 rcases last_cell2 h with h0 |⟨m,d,g,cp,h1,h2,h3,h4⟩
 ·have:done=[]:=List.eq_nil_of_length_eq_zero h0
  subst this
  simp [lastHi] at hh
 ·exact ⟨m,d,g,cp,h1,h2,h3,by rw [← h4];exact hh⟩
theorem rinv_step {w0 wr w1:World} {o:Obj} {v v':Value} {done:List Nat} {c m:Nat} (hm:done.length=m) (hown:wr.ownsRow w0.heap.size 3 1 v m (ic done)) (hbel:Below w0.heap.size w0 wr)
  (hown':w1.ownsRow w0.heap.size 3 1 v' (m+1) (ic done++[.int .i64 (c:Nat)])) (hgrow':(wr.alloc o).grownBy w1 v.ownBlock) :
  w1.ownsRow w0.heap.size 3 1 v' (done++[c]).length (ic (done++[c]))∧Below w0.heap.size w0 w1:=by
 subst hm
 refine ⟨by rw [ic_append,List.length_append];exact hown',?_⟩
 refine (hbel.alloc hbel.size o).grown hgrow' (by have:=hbel.size;simp;omega) (fun k hk=>(hown.lt k hk).1)
set_option maxRecDepth 100000 in
set_option maxHeartbeats 1000000 in
theorem rpoints_any (s:ByteArray) (w:World) (hs:s.size≤100000000) :
  Calls Tryz.prog 80 #[.string s] w (RPost s w):=by
 obtain ⟨i0,hi,hz0,hz1,hz2⟩:=info_parts info3
 go_enter Tryz.func80,Tryz.ntmps80
 go_wp2
 go_loopw [4,5] (fun v i wr=>RInv s w v i wr) (fun _ i _=>s.size - (intOf i).toNat)
 case atStart=>exact ⟨[],s.size,0,rfl,World.ownsRow_nil _ _ _ _,Below.refl _ _,went_start s⟩
 case round =>
  obtain ⟨done,f,j,rfl,hown,hbel,hw⟩:=hrel
  have hbs:=hbel.size
  have hjs:=hw.2.1
  have hdl:=hw.2.2.1
  by_cases hlt:j < s.size
  ·have hlt2:(j:Int) < s.size:=by omega
   obtain ⟨c,n,hcn⟩:∃ c n,pt s j=(c,n):=⟨_,_,rfl⟩
   have hp:Calls Tryz.prog 125 #[.string s,.int .i64 j] wr fun e w'=>e = .returned (.tuple #[.int .i64 (c:Nat),.int .i64 (n:Nat)])∧wr=w':=by
    refine (point_any s j wr hs hlt).mono ?_
    rintro e w' ⟨rfl,rfl⟩
    rw [hcn]
    exact ⟨rfl,rfl⟩
   have hle:=pt_le s j hlt
   rw [hcn] at hle
   simp only at hle
   by_cases hn0:n=0
   ·subst hn0
    have hpts:=went_none hw hlt (by rw [hcn])
    have HP:=Lib.hid hpts
    clear hpts hw hcn hle
    go_wp2_with (go_at_call 125;refine hp.mono ?_;rintro e w' ⟨rfl,rfl⟩)
    go_ret2
    refine ⟨_,by rw [HP.out];rfl,?_,hbel⟩
    rw [HP.out]
    exact World.ownsRow_nil _ _ _ _
   ·have hn1:((n:Int) == 0)=false:=by simp;omega
    have hn2:1≤n:=by omega
    by_cases hpair:lastHi done=true∧isLo c=true
    ·have hpts:=went_pair hw hlt hpair.1 (by rw [hcn];exact hpair.2)
     have HP:=Lib.hid hpts
     obtain ⟨m,d,g,cp,rfl,hcell,hdl2,hd⟩:=last_cell hown hpair.1
     have hl:=isLo_bd hpair.2
     have l1:(56320:Int)≤(c:Nat):=by omega
     have l2:((c:Nat):Int)≤57343:=by omega
     have hd2:=isHi_bd hd
     have d1:(55296:Int)≤(d:Nat):=by omega
     have d2:((d:Nat):Int)≤56319:=by omega
     have hm9:m≤100000000:=by omega
     clear hpts hw hcn hle hn0 hpair hl hd2 hd hown hdl hdl2
     go_wp2_with (go_at_call 125;refine hp.mono ?_;rintro e w' ⟨rfl,rfl⟩)
     go_ret2
     refine ⟨_,by rw [HP.out];rfl,?_,hbel⟩
     rw [HP.out]
     exact World.ownsRow_nil _ _ _ _
    ·obtain ⟨g,hw2⟩:=went_step hw hlt (by rw [hcn];simp only;omega) (by rw [hcn];exact hle) (by rw [hcn];exact hpair)
     rw [hcn] at hw2
     simp only at hw2
     rw [← lastHi_snoc done c] at hw2
     have HW:=Lib.hid hw2
     clear hw hw2 hcn
     by_cases hlo:isLo c=true
     ·have hl:=isLo_bd hlo
      have l1:(56320:Int)≤(c:Nat):=by omega
      have l2:((c:Nat):Int)≤57343:=by omega
      have hh:lastHi done=false:=by
       cases e:lastHi done with
       | false=>rfl
       | true=>exact absurd ⟨e,hlo⟩ hpair
      clear hpair hl hlo hn0
      rcases last_cell2 hown with h0 |⟨m,d,g2,cp,rfl,hcell,hdl2,hd⟩
      ·obtain ⟨ao,cp,rfl⟩:=own_shape hown
       have h0':¬ (0:Int) < (done.length:Nat):=by omega
       clear h0 hh
       go_wp2_with (first |(go_at_call 125;refine hp.mono ?_;rintro e w' ⟨rfl,rfl⟩) |(at_builtin;refine wpList_append_own _ rfl _ _ 149 rfl w.heap.size 3 i0 (.int .i64 0) 1 8 Tryz.underlying149 hi hz0 hz1 hz2 rfl (by decide) _ _ _ rfl (hown.alloc _) ⟨wr.heap.size,0,none⟩ 1 1 [.int .i64 (c:Nat)] rfl rfl (cell_one_new _ _ _) (by intro u hu;simp at hu;subst hu;rfl) (by unfold maxLen;omega) (by omega) (by simp;omega) ?_;intro v' w1 hown' hgrow' _))
       have R:=rinv_step rfl hown hbel hown' hgrow'
       clear hown' hgrow' hown
       go_wp2
       go_roundw
       case rel=>exact ⟨_,g,j+n,by go_num,R.1,R.2,HW.out⟩
       case measure=>simp [intOf];omega
      ·rw [hdl2] at hown
       have HD:=Lib.hid hdl2
       have hm9:m≤100000000:=by omega
       clear hdl2 hdl
       rw [hh] at hd
       have hd2:=isHi_bd2 hd.symm
       clear hh hd
       by_cases d1:(55296:Int)≤(d:Nat)
       ·have d2:¬ ((d:Nat):Int)≤56319:=by omega
        clear hd2
        go_wp2_with (first |(go_at_call 125;refine hp.mono ?_;rintro e w' ⟨rfl,rfl⟩) |(at_builtin;refine wpList_append_own _ rfl _ _ 149 rfl w.heap.size 3 i0 (.int .i64 0) 1 8 Tryz.underlying149 hi hz0 hz1 hz2 rfl (by decide) _ _ _ rfl (hown.alloc _) ⟨wr.heap.size,0,none⟩ 1 1 [.int .i64 (c:Nat)] rfl rfl (cell_one_new _ _ _) (by intro u hu;simp at hu;subst hu;rfl) (by unfold maxLen;omega) (by omega) (by simp;omega) ?_;intro v' w1 hown' hgrow' _))
        have R:=rinv_step HD.out hown hbel hown' hgrow'
        clear hown' hgrow' hown
        go_wp2
        go_roundw
        case rel=>exact ⟨_,g,j+n,by go_num,R.1,R.2,HW.out⟩
        case measure=>simp [intOf];omega
       ·have d3:decide ((55296:Int)≤(d:Nat))=false:=decide_eq_false d1
        clear hd2 d1
        go_wp2_with (first |(go_at_call 125;refine hp.mono ?_;rintro e w' ⟨rfl,rfl⟩) |(at_builtin;refine wpList_append_own _ rfl _ _ 149 rfl w.heap.size 3 i0 (.int .i64 0) 1 8 Tryz.underlying149 hi hz0 hz1 hz2 rfl (by decide) _ _ _ rfl (hown.alloc _) ⟨wr.heap.size,0,none⟩ 1 1 [.int .i64 (c:Nat)] rfl rfl (cell_one_new _ _ _) (by intro u hu;simp at hu;subst hu;rfl) (by unfold maxLen;omega) (by omega) (by simp;omega) ?_;intro v' w1 hown' hgrow' _))
        have R:=rinv_step HD.out hown hbel hown' hgrow'
        clear hown' hgrow' hown
        go_wp2
        go_roundw
        case rel=>exact ⟨_,g,j+n,by go_num,R.1,R.2,HW.out⟩
        case measure=>simp [intOf];omega
     ·have hl:=isLo_bd2 hlo
      obtain ⟨ao,cp,rfl⟩:=own_shape hown
      clear hpair hlo hn0
      by_cases l1:(56320:Int)≤(c:Nat)
      ·have l2:¬ ((c:Nat):Int)≤57343:=by omega
       clear hl
       go_wp2_with (first |(go_at_call 125;refine hp.mono ?_;rintro e w' ⟨rfl,rfl⟩) |(at_builtin;refine wpList_append_own _ rfl _ _ 149 rfl w.heap.size 3 i0 (.int .i64 0) 1 8 Tryz.underlying149 hi hz0 hz1 hz2 rfl (by decide) _ _ _ rfl (hown.alloc _) ⟨wr.heap.size,0,none⟩ 1 1 [.int .i64 (c:Nat)] rfl rfl (cell_one_new _ _ _) (by intro u hu;simp at hu;subst hu;rfl) (by unfold maxLen;omega) (by omega) (by simp;omega) ?_;intro v' w1 hown' hgrow' _))
       have R:=rinv_step rfl hown hbel hown' hgrow'
       clear hown' hgrow' hown
       go_wp2
       go_roundw
       case rel=>exact ⟨_,g,j+n,by go_num,R.1,R.2,HW.out⟩
       case measure=>simp [intOf];omega
      ·have l3:decide ((56320:Int)≤(c:Nat))=false:=decide_eq_false l1
       clear hl l1
       go_wp2_with (first |(go_at_call 125;refine hp.mono ?_;rintro e w' ⟨rfl,rfl⟩) |(at_builtin;refine wpList_append_own _ rfl _ _ 149 rfl w.heap.size 3 i0 (.int .i64 0) 1 8 Tryz.underlying149 hi hz0 hz1 hz2 rfl (by decide) _ _ _ rfl (hown.alloc _) ⟨wr.heap.size,0,none⟩ 1 1 [.int .i64 (c:Nat)] rfl rfl (cell_one_new _ _ _) (by intro u hu;simp at hu;subst hu;rfl) (by unfold maxLen;omega) (by omega) (by simp;omega) ?_;intro v' w1 hown' hgrow' _))
       have R:=rinv_step rfl hown hbel hown' hgrow'
       clear hown' hgrow' hown
       go_wp2
       go_roundw
       case rel=>exact ⟨_,g,j+n,by go_num,R.1,R.2,HW.out⟩
       case measure=>simp [intOf];omega
  ·have hpts:=went_end hw hlt
   have HP:=Lib.hid hpts
   clear hpts hw
   obtain ⟨ao,cp,rfl⟩:=own_shape hown
   go_wp2
   go_ret2
   refine ⟨_,by rw [HP.out];rfl,?_,hbel⟩
   rw [HP.out]
   exact hown
end Go.Proofs.YtkadkmnolkkhgaaGreatDoor.Uni

/-
 understudyref1.RightText and Units.
-/
namespace Go.Proofs.YtkadkmnolkkhgaaGreatDoor.Uni
open Go.RowKit
theorem pt_bd (s:ByteArray) (i:Nat) (h:i < s.size):(pt s i).1≤1114111:=by
 by_cases e:surB s i=true
 ·rw [pt_sur e];have:=surV_bd e;simp;omega
 ·by_cases d:Utf8.decode s i=(65533,1)
  ·rw [pt_none (by simpa using e) d];simp
  ·rw [pt_dec d]
   rcases decode_cases s i h with x |x
   ·exact absurd x d
   ·exact x.2.2.2.1
theorem dec_bd (s:ByteArray):∀ f i ah l,dec s f i ah=some l→∀ c ∈ l,c≤1114111:=by
 intro f
 induction f with
 | zero=>intro i ah l h c hc;simp [dec] at h;subst h;simp at hc
 | succ f ih =>
  intro i ah l h c hc
  simp only [dec] at h
  split at h
  ·rename_i hlt
   split at h
   ·simp at h
   ·simp only [Option.map_eq_some_iff] at h
    obtain ⟨r,hr,rfl⟩:=h
    simp at hc
    rcases hc with rfl |hc
    ·exact pt_bd s i hlt
    ·exact ih _ _ r hr c hc
  ·simp at h;subst h;simp at hc
theorem pts_bd {s:ByteArray} {l:List Nat} (h:pts s=some l):∀ c ∈ l,c≤1114111:=dec_bd s _ _ _ l h
theorem un_big {p:Nat} (h:65536≤p):∃ _h:True,uc (un p)=[.int .u16 (55296+((p:Int) - 65536) / 1024),.int .u16 (56320+((p:Int) - 65536) % 1024)]∧(un p).length=2:=by
 refine ⟨trivial,?_,by rw [un_great (by omega)];rfl⟩
 rw [un_great (by omega)]
 simp [uc]
 omega
theorem two_new (w:World) (k:IntKind) (a b:Int) (t:TypeId):∀ j u,[Value.int k a,Value.int k b][j]? = some u→(w.alloc (.cells #[.int k a,.int k b] t)).cell? ((⟨w.heap.size,0,none⟩:Addr).add j)=some u:=by
 intro j u hj
 match j,hj with
 | 0,hj=>simp at hj;subst hj;simp [Addr.add]
 | 1,hj=>simp at hj;subst hj;simp [Addr.add]
theorem one_cells (k:IntKind) (a:Int):∀ u ∈ [Value.int k a],u.oneCell'=true:=by
 intro u hu
 simp at hu
 subst hu
 rfl
theorem two_cells (k:IntKind) (a b:Int):∀ u ∈ [Value.int k a,Value.int k b],u.oneCell'=true:=by
 intro u hu
 simp at hu
 rcases hu with rfl |rfl <;> rfl
theorem size_alloc_le {w:World} {B:Nat} (o:Obj) (h:B≤w.heap.size):B≤(w.alloc o).heap.size:=by simp;omega
theorem own_at {w:World} {base e:Nat} {n:Nat} {ao:Option Addr} {cp k:Nat} {xs:List Value} {u:Value} (h:w.ownsRow base e 1 (.slice ao n cp) n xs) (hu:xs[k]? = some u) :
  ∃ g,ao=some ⟨g,0,none⟩∧w.cell? ⟨g,k,none⟩=some u:=by
 rcases h.2 with ⟨hv,hn⟩ |⟨g,cap,cur,hv,_⟩
 ·subst hn
  have:xs=[]:=List.eq_nil_of_length_eq_zero (by simpa using h.1)
  subst this
  simp at hu
 ·simp at hv
  refine ⟨g,hv.1,?_⟩
  have:=h.cells (g:=g) (by rw [hv.1];rfl) k u hu
  have e:(⟨g,0,none⟩:Addr).add k=⟨g,k,none⟩:=by unfold Addr.add;split <;> simp_all
  rw [e] at this
  exact this
theorem rightText_any (s:ByteArray) (w:World) (hs:s.size≤100000000) :
  Calls Tryz.prog 35 #[.string s] w fun e w'=>e = .returned (.bool (pts s).isSome)∧Below w.heap.size w w':=by
 go_enter Tryz.func35,Tryz.ntmps35
 go_wp2_with (go_at_call 80;refine (rpoints_any s w hs).mono ?_)
 rintro e w' ⟨v,rfl,hown,hbel⟩
 obtain ⟨ao,cp,rfl⟩:=own_shape hown
 go_wp2
 go_ret
 exact ⟨rfl,hbel⟩
def UInv (w0:World) (lv:Value) (L:List Nat) (v i:Value) (wr:World):Prop :=
 ∃ k:Nat,i = .int .i64 k∧k≤L.length∧wr.ownsRow w0.heap.size 192 1 v (uns (L.take k)).length (uc (uns (L.take k)))∧wr.ownsRow w0.heap.size 3 1 lv L.length (ic L)∧Below w0.heap.size w0 wr
theorem own_ne2 {w:World} {base e1 e2:Nat} {v v2:Value} {n n2:Nat} {xs xs2:List Value} (h:w.ownsRow base e1 1 v n xs) (h2:w.ownsRow base e2 1 v2 n2 xs2) (hne:e1 ≠ e2):v2.ownBlock=none∨v2.ownBlock ≠ v.ownBlock:=by
 rcases h2.2 with ⟨rfl,_⟩ |⟨g,cap,cur,rfl,_,hg,_⟩
 ·exact .inl rfl
 ·right
  intro e
  exact own_ne h hg hne e.symm
theorem uinv_step {w0 wr w1:World} {o:Obj} {lv v v':Value} {L:List Nat} {k p n:Nat} (hp:L[k]? = some p) (hn:(uns (L.take k)).length=n) (hown:wr.ownsRow w0.heap.size 192 1 v n (uc (uns (L.take k)))) (hl:wr.ownsRow w0.heap.size 3 1 lv L.length (ic L)) (hbel:Below w0.heap.size w0 wr)
  (hown':w1.ownsRow w0.heap.size 192 1 v' (n+(un p).length) (uc (uns (L.take k))++uc (un p))) (hgrow':(wr.alloc o).grownBy w1 v.ownBlock) :
  w1.ownsRow w0.heap.size 192 1 v' (uns (L.take (k+1))).length (uc (uns (L.take (k+1))))∧w1.ownsRow w0.heap.size 3 1 lv L.length (ic L)∧Below w0.heap.size w0 w1:=by
 subst hn
 have e:L.take (k+1)=L.take k++[p]:=by rw [List.take_add_one,hp];rfl
 refine ⟨?_,(hl.alloc o).kept hgrow' (own_ne2 hown hl (by decide)),?_⟩
 ·rw [e,uns_snoc,uc_append,List.length_append]
  exact hown'
 ·exact (hbel.alloc hbel.size o).grown hgrow' (by have:=hbel.size;simp;omega) (fun j hj=>(hown.lt j hj).1)
set_option maxRecDepth 100000 in
set_option maxHeartbeats 1000000 in
theorem runits_any (s:ByteArray) (w:World) (hs:s.size≤100000000) :
  Calls Tryz.prog 63 #[.string s] w (OfPost s w):=by
 obtain ⟨i0,hi,hz0,hz1,hz2⟩:=info_parts info32
 go_enter Tryz.func63,Tryz.ntmps63
 go_wp2_with (go_at_call 80;refine (rpoints_any s w hs).mono ?_)
 rintro e w' ⟨lv,rfl,hownl,hbel⟩
 obtain ⟨ao,cp,rfl⟩:=own_shape hownl
 cases hp:pts s with
 | none =>
  have H:=Lib.hid hp
  clear hp hownl
  go_wp2
  refine wp_loop_rounds 1 ?_
  rw [rounds_succ]
  go_wp2
  go_ret
  refine ⟨_,rfl,?_,hbel⟩
  unfold units
  rw [H.out]
  exact World.ownsRow_nil _ _ _ _
 | some L =>
  rw [hp] at hownl
  simp only [Option.getD_some] at hownl
  have hbd:=pts_bd hp
  have hLl:=pts_len hp
  have H:=Lib.hid hp
  have HB:=Lib.hid hbd
  clear hp hbd
  go_wp2
  go_loopw [5,6] (fun v i wr=>UInv w (.slice ao L.length cp) L v i wr) (fun _ i _=>L.length - (intOf i).toNat)
  case atStart=>exact ⟨0,rfl,Nat.zero_le _,World.ownsRow_nil _ _ _ _,hownl,hbel⟩
  case round =>
   clear hownl hbel
   obtain ⟨k,rfl,hk,hown,hl,hbel⟩:=hrel
   have hbs:=hbel.size
   have hul:=uns_le (L.take k)
   have htl:(L.take k).length≤k:=List.length_take_le _ _
   obtain ⟨n,hn⟩:∃ n,(uns (L.take k)).length=n:=⟨_,rfl⟩
   rw [hn] at hown hul
   have HN:=Lib.hid hn
   have hn9:n≤200000000:=by omega
   obtain ⟨ao2,cp2,rfl⟩:=own_shape hown
   clear hul htl hn
   by_cases hlt:k < L.length
   ·have hlt2:(k:Int) < L.length:=by omega
    obtain ⟨p,hp⟩:∃ p,L[k]? = some p:=⟨L[k],by simp [hlt]⟩
    have hpb:=HB.out p (List.mem_of_getElem? hp)
    obtain ⟨g,rfl,hcell⟩:=own_at hl (k:=k) (u:=.int .i64 (p:Nat)) (by simp [ic,hp])
    have HL:=Lib.hid hl
    have HP:=Lib.hid hp
    clear hl hp
    by_cases hbig:(65535:Int) < (p:Nat)
    ·have hm:=and1024 ((p:Int) - 65536) (by omega) (by omega)
     have hm0:0≤((p:Int) - 65536) % 1024:=by omega
     have hm1:((p:Int) - 65536) % 1024≤1023:=by omega
     go_wp2_with (at_builtin;refine wpList_append_own _ rfl _ _ 129 rfl w.heap.size 192 i0 (.int .u16 0) 1 2 Tryz.underlying129 hi hz0 hz1 hz2 rfl (by decide) _ _ _ rfl (hown.alloc _) ⟨wr.heap.size,0,none⟩ 2 2 [.int .u16 (55296+((p:Int) - 65536) / 1024),.int .u16 (56320+((p:Int) - 65536) % 1024)] rfl rfl (two_new _ _ _ _ _) (two_cells _ _ _) (by unfold maxLen;omega) (by omega) (size_alloc_le _ hbs) ?_)
     intro v' w1 hown' hgrow' _
     have R:=uinv_step (p:=p) HP.out HN.out hown HL.out hbel (by obtain ⟨_,e1,e2⟩:=un_big (p:=p) (by omega);rw [e1,e2];exact hown') hgrow'
     clear hown' hgrow' hown
     go_wp2
     go_roundw
     case rel=>exact ⟨k+1,by go_num,by omega,R.1,R.2.1,R.2.2⟩
     case measure=>simp [intOf];omega
    ·go_wp2_with (at_builtin;refine wpList_append_own _ rfl _ _ 129 rfl w.heap.size 192 i0 (.int .u16 0) 1 2 Tryz.underlying129 hi hz0 hz1 hz2 rfl (by decide) _ _ _ rfl (hown.alloc _) ⟨wr.heap.size,0,none⟩ 1 1 [.int .u16 (p:Nat)] rfl rfl (cell_one_new _ _ _) (one_cells _ _) (by unfold maxLen;omega) (by omega) (size_alloc_le _ hbs) ?_)
     intro v' w1 hown' hgrow' _
     have R:=uinv_step (p:=p) HP.out HN.out hown HL.out hbel (by rw [un_small (by omega)];exact hown') hgrow'
     clear hown' hgrow' hown
     go_wp2
     go_roundw
     case rel=>exact ⟨k+1,by go_num,by omega,R.1,R.2.1,R.2.2⟩
     case measure=>simp [intOf];omega
   ·obtain rfl:k=L.length:=by omega
    clear hl
    go_wp2
    go_ret
    refine ⟨_,rfl,?_,hbel⟩
    have e:=HN.out
    rw [List.take_length] at e hown
    unfold units
    rw [H.out]
    show World.ownsRow _ _ _ _ _ (uns L).length (uc (uns L))
    rw [e]
    exact hown
end Go.Proofs.YtkadkmnolkkhgaaGreatDoor.Uni
