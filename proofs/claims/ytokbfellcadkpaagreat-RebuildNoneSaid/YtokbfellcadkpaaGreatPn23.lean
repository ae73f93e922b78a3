/- ZnPtFltMath -/
import Derived.Test.YtokbfellcadkpaaGreatPn15
import Derived.Test.YtokbfellcadkpaaGreatPn02
import Derived.Lib.SlicesCompact
namespace Go.Proofs.YtokbfellcadkpaaGreat
set_option maxRecDepth 100000
set_option linter.unusedVariables false
section
def hashP (l:List EntS) : List Nat:=Lib.compactUpTo (l.map EntS.h).toArray (l.map EntS.h).toArray.size
def fltP (l:List EntS)(p:Nat) : ByteArray:=putP (bs (makeL (hashP l) (p:Nat) (480*(pagesS (hashP l).length (p:Nat):Nat):Int))) (p:Nat)
def FltOf (l:List EntS)(r:Nat)(t:ByteArray) : Prop:=∃ p,ProbesOf r p∧t=fltP l p
theorem hashP_length (l:List EntS) : (hashP l).length≤l.length:=by
 unfold hashP Lib.compactUpTo;rw[List.length_map];refine Nat.le_trans (List.length_filter_le _ _) ?_;rw[List.length_range,List.size_toArray,List.length_map];exact Nat.le_refl _
theorem hashP_words {l:List EntS}(hok:∀ x∈l,EntOk x) : ∀ z∈hashP l,z<18446744073709551616:=by
 intro z hz;unfold hashP Lib.compactUpTo at hz;obtain⟨j,hj,rfl⟩:=List.mem_map.1 hz;have hj2:=List.mem_range.1 (List.mem_filter.1 hj).1
 have e:(l.map EntS.h).toArray[j]! = (l.map EntS.h)[j]'(by simpa using hj2):=by
  rw[getElem!_pos _ j hj2];simp
 rw[e];obtain⟨x,hx,e2⟩:=List.mem_map.1 (List.getElem_mem (l:=l.map EntS.h) (n:=j) (by simpa using hj2));rw[← e2];exact(hok x hx).h
theorem probes_range {r p:Nat}(h:ProbesOf r p) : 1≤p∧p≤16:=by
 unfold ProbesOf at h;split at h
 ·omega
 ·exact⟨h.1,h.2.1⟩
theorem pagesS_le {n:Nat}{k:Int}(hn:n≤10000) : 1≤pagesS (n:Nat) k∧480*pagesS (n:Nat) k≤24*n+960:=by
 have b2:=cK_le k;have e:cN (n:Nat)=n:=by unfold cN;split;omega;split<;>omega
 unfold pagesS;rw[e];have hp:n*cK k≤n*16:=Nat.mul_le_mul_left _ b2;unfold pagesN bitsS;generalize n*cK k=q at *;split<;>omega
theorem flt_size {l:List EntS}{r:Nat}{t:ByteArray}(hl:l.length≤10000)(h:FltOf l r t) : t.size≤256+4*l.length:=by
 obtain⟨p,hp,rfl⟩:=h;obtain⟨p1,p2⟩:=probes_range hp;have hh:=hashP_length l;have hg:=pagesS_le (n:=(hashP l).length) (k:=(p:Nat)) (by omega);unfold fltP;generalize (hashP l).length=m at *;by_cases h1:pgOk (bs (makeL (hashP l) (p:Nat) (480*(pagesS (m:Nat) (p:Nat):Nat):Int))).size (p:Nat)=true
 ·rw[putP_size h1,show(480*(pagesS (m:Nat) (p:Nat):Nat):Int)=((8*(60*pagesS (m:Nat) (p:Nat)):Nat):Int) by omega,make_size _ _ _ (by omega) (by omega)];omega
 ·rw[putP_no (Bool.eq_false_iff.2 h1)];show 0≤_;omega
end
end Go.Proofs.YtokbfellcadkpaaGreat
