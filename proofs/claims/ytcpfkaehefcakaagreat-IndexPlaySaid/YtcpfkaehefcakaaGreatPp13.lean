/- ZpChunksRef, ZpTfMath, ZpChunksApi -/
import Derived.Test.YtcpfkaehefcakaaGreatPp06
import Derived.Test.YtcpfkaehefcakaaGreatPp03
import Derived.Test.YtcpfkaehefcakaaGreatPp01
import Derived.Test.YtcpfkaehefcakaaGreatPp02
namespace Go.Proofs.YtcpfkaehefcakaaGreat
set_option maxRecDepth 100000
set_option linter.unusedVariables false
section
open Go.RowKit
def hdT (n:Nat) : ByteArray:=⟨#[99,104,110,107]⟩++bs (be 4 n)
def hdS (n:Int) : ByteArray:=if 0≤n∧n≤199 then sealS (hdT n.toNat) else ByteArray.empty
theorem hd_no {n:Int}(h:¬ (0≤n∧n≤199)) : hdS n=ByteArray.empty:=by unfold hdS;rw[if_neg h]
theorem hd_yes {n:Nat}(h:n≤199) : hdS (n:Nat)=sealS (hdT n):=by unfold hdS;rw[if_pos (by omega),Int.toNat_natCast]
theorem hdT_size (n:Nat) : (hdT n).size=8:=by unfold hdT;rw[ByteArray.size_append,bs_size,be_length];rfl
theorem hd_size {n:Nat}(h:n≤199) : (hdS (n:Nat)).size=12:=by rw[hd_yes h,sealS_size,hdT_size]
def scK (s:ByteArray)(n:Int) : Nat:=if ¬ (0≤n∧n≤199) then 0 else if ¬ s.extract 0 (min s.size 12)=(hdS n).extract 0 (min s.size 12) then 0 else if s.size<12 then 1 else 2
def scL (s:ByteArray)(n:Int) : List Int:=if scK s n=2 then wlL s 12 else []
def scE (s:ByteArray)(n:Int) : Nat:=if scK s n=2 then wlE s 12 else 0
def scOk (s:ByteArray)(n:Int) : Bool:=decide (¬ scK s n=0)
theorem sc_0 {s:ByteArray}{n:Int}(h:scK s n=0) : scL s n=[]∧scE s n=0∧scOk s n=false:=by simp[scL,scE,scOk,h]
theorem sc_1 {s:ByteArray}{n:Int}(h:scK s n=1) : scL s n=[]∧scE s n=0∧scOk s n=true:=by simp[scL,scE,scOk,h]
theorem sc_2 {s:ByteArray}{n:Int}(h:scK s n=2) : scL s n=wlL s 12∧scE s n=wlE s 12∧scOk s n=true:=by simp[scL,scE,scOk,h]
theorem scK_no {s:ByteArray}{n:Int}(h:¬ (0≤n∧n≤199)) : scK s n=0:=by unfold scK;rw[if_pos h]
theorem scK_bad {s:ByteArray}{n:Int}(h:0≤n∧n≤199)(h2:¬ s.extract 0 (min s.size 12)=(hdS n).extract 0 (min s.size 12)) : scK s n=0:=by unfold scK;rw[if_neg (by omega),if_pos h2]
theorem scK_short {s:ByteArray}{n:Int}(h:0≤n∧n≤199)(h2:s.extract 0 (min s.size 12)=(hdS n).extract 0 (min s.size 12))(h3:s.size<12) : scK s n=1:=by unfold scK;rw[if_neg (by omega),if_neg (by simp[h2]),if_pos h3]
theorem scK_whole {s:ByteArray}{n:Int}(h:0≤n∧n≤199)(h2:s.extract 0 (min s.size 12)=(hdS n).extract 0 (min s.size 12))(h3:¬ s.size<12) : scK s n=2:=by unfold scK;rw[if_neg (by omega),if_neg (by simp[h2]),if_neg h3]
def Scanned (s:ByteArray)(n:Int)(w:World)(e:Ending)(w':World) : Prop:=∃ u,e = .returned (.tuple #[u,.int .i64 (scE s n:Nat),.bool (scOk s n)])∧IntsIn w' u (scL s n)∧Below w.heap.size w w'
theorem ne_nil_of_size {H:ByteArray}(hz:H.size=12) : ¬ H.toList=[]∧(H.toList==[])=false:=by
 have:¬ H.toList=[]:=fun e=>by
  have h:H=ByteArray.empty:=ByteArray.ext (Array.toList_inj.1 (by rw[← Lib.toList_data,e];rfl))
  rw[h] at hz
  cases hz
 exact⟨this,by rw[beq_eq_false_iff_ne];exact this⟩
def NoChunk (w:World)(e:Ending)(w':World) : Prop:=∃ u,e = .returned (.tuple #[u,.int .i64 0,.bool false])∧IntsIn w' u []∧Below w.heap.size w w'
def HalfChunk (w:World)(e:Ending)(w':World) : Prop:=∃ u,e = .returned (.tuple #[u,.int .i64 0,.bool true])∧IntsIn w' u []∧Below w.heap.size w w'
end
section
structure LogS where
 starts:Nat
 chunks:Nat
 endp:Nat
 sure:Nat
abbrev nmC (n:Nat) : ByteArray:=nmS 99 (n:Nat)
def newB : ByteArray:=⟨#[110,101,119]⟩
def stR (r:Nat→Nat) : Nat→Nat→Nat × Nat
 | 0,k=>(0,k)
 | n+1,k=>if r k=0 then stR r n (k+1) else(r k,k+1)
def readyT (D:DiskS)(L:LogS) : Nat:=if D.down then 61 else if D.starts=L.starts then 0 else 61
def rdC (D:DiskS)(n:ByteArray) : ByteArray × Nat × DiskS:=if (sizeS D n).2=0 then readS D n 0 ((sizeS D n).1:Nat) else(ByteArray.empty,(sizeS D n).2,D)
def syncT (D:DiskS)(L:LogS) : Nat × DiskS × LogS :=
 if L.chunks=0 then(0,D, { L with sure:=L.endp }) else
 if (syncS D (nmC (L.chunks-1))).1=0 then(0,(syncS D (nmC (L.chunks-1))).2, { L with sure:=L.endp }) else((syncS D (nmC (L.chunks-1))).1,(syncS D (nmC (L.chunks-1))).2,L)
def thenT (a:Nat × DiskS × LogS)(f:DiskS→LogS→Nat × DiskS × LogS) : Nat × DiskS × LogS:=if a.1=0 then f a.2.1 a.2.2 else a
def onD (f:DiskS→Nat × DiskS)(D:DiskS)(L:LogS) : Nat × DiskS × LogS:=((f D).1,(f D).2,L)
def flushT (D:DiskS)(L:LogS) : Nat × DiskS × LogS:=if readyT D L≠0 then(readyT D L,D,L) else syncT D L
def sweepT (D:DiskS) : Nat × DiskS:=if (deleteS D newB).1=4 then(0,(deleteS D newB).2) else deleteS D newB
def isC (s:ByteArray) : Bool:=npOk s&&npK s==99
def cntL : List ByteArray→Nat→Nat × Nat
 | [],c=>(0,c)
 | s::r,c=>if isC s=true then(if npN s≠c∨200≤npN s then(63,c) else cntL r (c+1)) else cntL r c
def countT (D:DiskS)(L:LogS) : Nat × DiskS × LogS:=((cntL (D.l.map FileS.name) L.chunks).1,D, { L with chunks:=(cntL (D.l.map FileS.name) L.chunks).2 })
def thenD (a:Nat × DiskS)(f:DiskS→Nat × DiskS) : Nat × DiskS:=if a.1=0 then f a.2 else a
def rewriteT (D:DiskS)(n s:ByteArray) : Nat × DiskS:=thenD (thenD (thenD (createS D newB) fun E=>appendS E newB s) fun E=>syncS E newB) fun E=>renameS E newB n
def mendT (D:DiskS)(L:LogS)(n:Nat)(s:ByteArray)(e:Nat) : Nat × DiskS × LogS :=
 if s.size<12 then((deleteS D (nmC n)).1,(deleteS D (nmC n)).2, { L with chunks:=n }) else
 if e<s.size then onD (fun E=>rewriteT E (nmC n) (s.extract 0 e)) D { L with endp:=4096*n+e } else onD (fun E=>syncS E (nmC n)) D { L with endp:=4096*n+e }
def loadK : Nat→Nat→DiskS→LogS→Nat × DiskS × LogS
 | 0,_,D,L=>(0,D,L)
 | k+1,n,D,L =>
   if (rdC D (nmC n)).2.1≠0 then((rdC D (nmC n)).2.1,(rdC D (nmC n)).2.2,L) else
   if scOk (rdC D (nmC n)).1 (n:Nat)=false then(63,(rdC D (nmC n)).2.2,L) else
   if k=0 then mendT (rdC D (nmC n)).2.2 L n (rdC D (nmC n)).1 (scE (rdC D (nmC n)).1 (n:Nat)) else
   if (rdC D (nmC n)).1.size<12∨scE (rdC D (nmC n)).1 (n:Nat)<(rdC D (nmC n)).1.size then(63,(rdC D (nmC n)).2.2,L) else
   loadK k (n+1) (rdC D (nmC n)).2.2 { L with endp:=4096*n+scE (rdC D (nmC n)).1 (n:Nat) }
def loadT (D:DiskS)(L:LogS) : Nat × DiskS × LogS:=loadK L.chunks 0 D L
def openT (D:DiskS) : Nat × DiskS × LogS:=thenT (thenT (onD sweepT D ⟨D.starts,0,0,0⟩) countT) loadT
end
section
open Go.RowKit
structure ChunksApi : Prop where
 head:∀ (n:Int) (w:World),(Lit.int .i64 n).wf=true→Calls Tryz.prog 132 #[.int .i64 n] w fun e w'=>e = .returned (.string (hdS n))∧Below w.heap.size w w'
 scan:∀ (s:ByteArray) (n:Int) (w:World),s.size≤1100000→(Lit.int .i64 n).wf=true→Calls Tryz.prog 75 #[.string s,.int .i64 n] w (Scanned s n w)
theorem IntsIn.forms {w:World}{v:Value}{l:List Int}(h:IntsIn w v l) : ∃ A c,v = .slice A l.length c:=by
 obtain⟨A,off,cap,hv,_⟩:=h.cell
 exact⟨A,cap,hv⟩
end
end Go.Proofs.YtcpfkaehefcakaaGreat
