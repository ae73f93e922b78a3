/- ZpBase, ZpOwn, ZpDiskRef, ZpDiskRefSet, ZpDiskRefCrash, ZpDiskRefActs, ZpSrc, ZpDiskRefWrite, ZpDiskRefRead, ZpDiskRefCut, ZpBytes, ZpDiskRefNew, ZpIntsDef, ZpIntsIn, ZpDiskApi, ZpSumsInto, ZpNumsPut, ZpNumsGet, ZpHash, ZpBlProbe, ZpNumsPutRef, ZpLvMath, ZpMtSearch, ZpFloats, ZpFloatOrd, ZpRates -/
import Derived.Test.YtcpfkaehefcakaaGreatProg
import Derived.WalkKit
import Derived.WalkLawsBesides
import Derived.WalkSpells
import Derived.LoopTactic
import Derived.Lib.Hide
import Derived.Laws.BitsAllLaws
import Derived.Laws.BitsLemmas
import Derived.Laws.IdiomStrings
import Derived.Deep.OwnRows
import Derived.Deep.QuietTactic
import Derived.BigQuiet
import Derived.RegionTactic
import Derived.ChangeAlike
import Derived.OpenShut
import Derived.Below
import Derived.Laws.OwnMore
import Derived.Deep.Draws
import Derived.Test.YtcpfkaehefcakaaGreatPp01
import Derived.Maps.AppendAt
import Derived.Deep.DeepCutAuto
import Derived.Laws.Bits64
import Derived.Shelf.Abstract
import Derived.WalkMore
import Derived.Laws.Externs
namespace Go.Proofs.YtcpfkaehefcakaaGreat
set_option maxRecDepth 100000
set_option linter.unusedVariables false
section
open Go.RowKit
theorem ret_int {k:IntKind}{a b:Int}(h:a=b) : Ending.returned (.int k a) = .returned (.int k b):=by rw[h]
theorem val_int {k:IntKind}{a b:Int}(h:a=b) : Value.int k a = .int k b:=by rw[h]
theorem ret_bool {a b:Bool}(h:a=b) : Ending.returned (.bool a) = .returned (.bool b):=by rw[h]
theorem below_drewN {B:Nat}{a w:World}(h:Below B a w)(n:Nat) : Below B a (w.drewN n):=⟨h.os,h.tape,h.output,h.size,h.block⟩
theorem bj {a b c:World}(h:Below a.heap.size a b)(k:Below b.heap.size b c) : Below a.heap.size a c:=h.trans (k.mono h.size)
theorem u64_nat {a:Int}(h:(Lit.int .u64 a).wf=true) : ∃ n:Nat,a=n∧n<18446744073709551616:=by
 have:=bounds_u64 h
 exact⟨a.toNat,by omega,by omega⟩
theorem u8_nat {a:Int}(h:(Lit.int .u8 a).wf=true) : ∃ n:Nat,a=n∧n<256:=by
 have:=bounds_u8 h
 exact⟨a.toNat,by omega,by omega⟩
end
end Go.Proofs.YtcpfkaehefcakaaGreat
namespace Go.Proofs.YtcpfkaehefcakaaGreat
open Go.RowKit
set_option linter.unusedVariables false
set_option maxRecDepth 100000
structure Touch (F:List Nat)(w w':World) : Prop where
 os:w'.os=w.os
 tape:w'.tape=w.tape
 output:w'.output=w.output
 size:w.heap.size≤w'.heap.size
 block:∀ b,b<w.heap.size→b ∉ F→w'.heap[b]? = w.heap[b]?
section
variable {F G : List Nat} {w a b c w' : World}
theorem Touch.refl (F:List Nat)(w:World) : Touch F w w:=⟨rfl,rfl,rfl,Nat.le_refl _,fun _ _ _=>rfl⟩
theorem Touch.trans (h:Touch F a b)(k:Touch G b c)(hG:∀ x∈G,x∈F∨a.heap.size≤x) : Touch F a c :=
 ⟨k.os.trans h.os,k.tape.trans h.tape,k.output.trans h.output,Nat.le_trans h.size k.size,fun x hx hn =>
  (k.block x (Nat.lt_of_lt_of_le hx h.size) (fun hg=>by rcases hG x hg with h1 | h1;exact hn h1;omega)).trans (h.block x hx hn)⟩
theorem Touch.more (h:Touch F a b)(hG:∀ x∈F,x∈G∨a.heap.size≤x) : Touch G a b :=
 ⟨h.os,h.tape,h.output,h.size,fun x hx hn=>h.block x hx (fun hf=>by rcases hG x hf with h1 | h1;exact hn h1;omega)⟩
theorem Touch.drew (h:Touch F a w) : Touch F a w.drew:=⟨h.os,h.tape,h.output,h.size,h.block⟩
theorem Touch.drewN (h:Touch F a w)(n:Nat) : Touch F a (w.drewN n):=⟨h.os,h.tape,h.output,h.size,h.block⟩
theorem Touch.alloc (h:Touch F a w)(o:Obj) : Touch F a (w.alloc o) :=
 h.trans (G:=[]) ⟨rfl,rfl,rfl,by simp,fun k hk _=>Below.heap_alloc _ _ _ hk⟩ (fun _ h=>by cases h)
theorem Touch.setCell (h:Touch F a w){p:Addr}(hp:p.block∈F∨a.heap.size≤p.block)(u:Value) : Touch F a (w.setCell p u) :=
 h.trans (G:=[p.block]) ⟨rfl,rfl,rfl,by simp[World.setCell],fun k _ hn=>Below.heap_setCell _ _ _ _ (fun e=>hn (by simp[e]))⟩ (fun x hx=>by
  obtain rfl:x=p.block:=by simpa using hx
  exact hp)
theorem Touch.grown (h:Touch F a w){row:Option Nat}(hg:w.grownBy w' row)(hr:∀ k,row=some k→k∈F∨a.heap.size≤k) : Touch F a w' :=
 h.trans (G:=row.toList) ⟨hg.os,hg.tape,hg.output,hg.size,fun k hk hn=>hg.block k hk (fun e=>hn (by rw[← e];simp))⟩ (fun x hx=>hr x (by simpa using hx))
theorem Touch.of_below (h:Below w.heap.size w w') : Touch [] w w':=⟨h.os,h.tape,h.output,h.size,fun k hk _=>h.block k hk⟩
theorem Touch.below (h:Touch F w w'){B:Nat}(hB:B≤w.heap.size)(hF:∀ x∈F,B≤x) : Below B w w' :=
 ⟨h.os,h.tape,h.output,h.size,fun k hk=>h.block k (by omega) (fun hf=>by have:=hF k hf;omega)⟩
theorem Touch.cell (h:Touch F w w'){p:Addr}(hp:p.block<w.heap.size)(hn:p.block ∉ F) : w'.cell? p=w.cell? p:=World.cell?_of_block (w:=w) (h.block p.block hp hn)
end
def Blok (w:World)(g:Nat)(t:TypeId)(cs:Array Value) : Prop:=w.heap[g]? = some (.cells cs t (0,0))
section
variable {F : List Nat} {w w' : World} {g : Nat} {t : TypeId} {cs : Array Value}
theorem Blok.lt (h:Blok w g t cs) : g<w.heap.size:=by
 rcases Nat.lt_or_ge g w.heap.size with hlt | hge
 ·exact hlt
 ·unfold Blok at h;rw[Array.getElem?_eq_none hge] at h;cases h
theorem Blok.cell (h:Blok w g t cs)(i:Nat) : w.cell? ⟨g,i,none⟩=cs[i]? := cell_of_row w g i cs t (0,0) h
theorem Blok.frozen (h:Blok w g t cs)(i:Nat) : w.frozen? ⟨g,i,none⟩=false:=frozen_of_row w g i cs t h
theorem Blok.new (w:World)(t:TypeId)(cs:Array Value) : Blok (w.alloc (.cells cs t)) w.heap.size t cs:=heap_alloc_new w _
theorem Blok.drew (h:Blok w g t cs) : Blok w.drew g t cs:=h
theorem Blok.drewN (h:Blok w g t cs)(n:Nat) : Blok (w.drewN n) g t cs:=h
theorem Blok.alloc (h:Blok w g t cs)(o:Obj) : Blok (w.alloc o) g t cs:=(Below.heap_alloc w o g h.lt).trans h
theorem Blok.put (h:Blok w g t cs)(i:Nat)(u:Value) : Blok (w.setCell ⟨g,i,none⟩ u) g t (cs.setIfInBounds i u):=heap_setCell_same w g i cs t u h
theorem Blok.far (h:Blok w g t cs){p:Addr}(hp:g≠p.block)(u:Value) : Blok (w.setCell p u) g t cs:=(heap_setCell_other w p g u hp).trans h
theorem Blok.touch (h:Blok w g t cs)(ht:Touch F w w')(hg:g ∉ F) : Blok w' g t cs:=(ht.block g h.lt hg).trans h
theorem Blok.type_ne {g':Nat}{t':TypeId}{cs':Array Value}(h:Blok w g t cs)(h':Blok w g' t' cs')(hne:t≠t') : g≠g':=by
 rintro rfl
 unfold Blok at h h'
 rw[h] at h'
 injection h' with h'
 injection h' with _ ht
 exact hne ht
end
section
variable {F : List Nat} {w w' : World} {base : Nat} {e : TypeId} {size n : Nat} {v : Value} {xs : List Value}
theorem own_touch (h:w.ownsRow base e size v n xs)(ht:Touch F w w')(hF:∀ b,v.ownBlock=some b→b ∉ F) : w'.ownsRow base e size v n xs:=by
 refine⟨h.1, ?_⟩
 rcases h.2 with h0 | ⟨g,cap,cur,rfl,hb,hg,h1,h2,h3,h4⟩
 ·exact .inl h0
 ·have hlt:g<w.heap.size:=(h.lt g rfl).2
  exact .inr ⟨g,cap,cur,rfl,hb,(ht.block g hlt (hF g rfl)).trans hg,h1,h2,h3,h4⟩
theorem own_far (h:w.ownsRow base e size v n xs){p:Addr}(hp:v.ownBlock≠some p.block)(u:Value) : (w.setCell p u).ownsRow base e size v n xs :=
 own_touch h (Touch.setCell (F:=[p.block]) (Touch.refl _ w) (Or.inl (by simp)) u) (fun b hb hm=>hp (by rw[hb];simpa using hm))
theorem own_ne {g:Nat}{t:TypeId}{cs:Array Value}(h:w.ownsRow base e size v n xs)(hg:Blok w g t cs)(hne:e≠t) : v.ownBlock≠some g:=by
 rcases h.2 with⟨rfl,_⟩ | ⟨g',cap,cur,rfl,_,hh,_⟩
 ·simp[Value.ownBlock]
 ·intro he
  have:g'=g:=by simpa[Value.ownBlock] using he
  subst this
  exact Blok.type_ne (show Blok w g' e cur from hh) hg hne rfl
theorem own_own_ne {base':Nat}{e':TypeId}{size' n':Nat}{v':Value}{xs':List Value}(h:w.ownsRow base e size v n xs)(h':w.ownsRow base' e' size' v' n' xs')(hne:e≠e') : ∀ b,v'.ownBlock=some b→v.ownBlock≠some b:=by
 intro b hb
 rcases h'.2 with⟨rfl,_⟩ | ⟨g',cap,cur,rfl,_,hh,_⟩
 ·simp[Value.ownBlock] at hb
 ·obtain rfl:g'=b:=by simpa[Value.ownBlock] using hb
  exact own_ne h (show Blok w g' e' cur from hh) hne
theorem own_form (h:w.ownsRow base e size v n xs) : ∃ A cap,v = .slice A n cap∧n≤cap∧cap≤maxLen∧(0<n→∃ b,A=some ⟨b,0,none⟩∧base≤b∧b<w.heap.size)∧(A=none→n=0∧cap=0):=by
 rcases h.2 with⟨rfl,rfl⟩ | ⟨g,cap,cur,rfl,hb,hg,h1,h2,h3,h4⟩
 ·exact⟨none,0,rfl,Nat.le_refl _,Nat.zero_le _,fun h=>absurd h (by omega),fun _=>⟨rfl,rfl⟩⟩
 ·exact⟨_,cap,rfl,h1,h2,fun _=>⟨g,rfl,hb,(h.lt g rfl).2⟩,fun h=>by cases h⟩
end
end Go.Proofs.YtcpfkaehefcakaaGreat
namespace Go.Proofs.YtcpfkaehefcakaaGreat
set_option maxRecDepth 100000
set_option linter.unusedVariables false
section
open Go.RowKit
def ints (l:List Int) : List Value:=l.map (Value.int .i64)
theorem some_at {l:List FileS}{k:Nat}(h:k<l.length) : ∃ f,l[k]? = some f:=⟨l[k],List.getElem?_eq_getElem h⟩
theorem find_lt {l:List FileS}{n:ByteArray}{k:Nat}{f:FileS}(h:l[k]? = some f)(hf:f.name=n) : findS l n≤k:=by
 unfold findS
 have hk:k<l.length:=(List.getElem?_eq_some_iff.1 h).1
 rcases Nat.lt_or_ge k (l.findIdx (fun f=>decide (f.name=n))) with c | c
 ·have:=List.not_of_lt_findIdx c
  rw[List.getElem?_eq_getElem hk] at h
  have e:l[k]=f:=by simpa using h
  rw[e] at this
  simp[hf] at this
 ·exact c
theorem find_at {l:List FileS}{n:ByteArray}(h:findS l n<l.length) : ∃ f,l[findS l n]? = some f∧f.name=n:=by
 have h':l.findIdx (fun f=>decide (f.name=n))<l.length:=h
 have:=List.findIdx_getElem (w:=h')
 exact⟨l[findS l n],List.getElem?_eq_getElem h,of_decide_eq_true this⟩
theorem setF_length (l:List FileS)(k:Nat)(h:FileS→FileS) : (setF l k h).length=l.length:=by unfold setF;simp
def IntsAt (w:World)(v:Value)(l:List Int) : Prop :=
 (l=[]∧∃ a c,v = .slice a 0 c)∨∃ b off cap cs fr,v = .slice (some ⟨b,off,none⟩) l.length cap∧l.length≤cap∧cap≤maxLen∧w.heap[b]? = some (.cells cs 3 fr)∧∀ i x,l[i]? = some x→cs[off+i]? = some (.int .i64 x)
theorem IntsAt.of_own {w:World}{base:Nat}{v:Value}{l:List Int}(h:w.ownsRow base 3 1 v l.length (ints l)) : IntsAt w v l:=by
 rcases h.2 with⟨rfl,e⟩ | ⟨b,cap,cs,rfl,_,h2,h3,h4,_,h6⟩
 ·exact Or.inl ⟨List.eq_nil_of_length_eq_zero e,none,0,rfl⟩
 ·refine Or.inr ⟨b,0,cap,cs,(0,0),rfl,h3,h4,h2,fun i x hx=>?_⟩
  have hi:i<l.length:=(List.getElem?_eq_some_iff.1 hx).1
  have e:(ints l)[i]? = some (.int .i64 x):=by unfold ints;rw[List.getElem?_map,hx];rfl
  rw[← h6,List.getElem?_take,if_pos (by omega)] at e
  simpa using e
theorem setF_get (l:List FileS)(k j:Nat)(h:FileS→FileS) : (setF l k h)[j]? = if j=k then(l[j]?).map h else l[j]? := by
 unfold setF
 rw[List.getElem?_modify]
 by_cases e:j=k
 ·subst e;simp
 ·rw[if_neg e]
  have e2:¬ k=j:=fun x=>e x.symm
  cases l[j]?<;>simp[e2]
theorem crashF_size {f:FileS}{x:Int}(hs:f.synced≤f.data.size) : (crashF f x).data.size=staysS f x:=by
 show(f.data.extract 0 (staysS f x)).size=_
 rw[ByteArray.size_extract]
 unfold staysS
 omega
structure RefOk (D:DiskS) : Prop where
 sizes:∀ f∈D.l,f.synced≤f.data.size∧f.data.size≤1048576
 many:D.l.length≤400
 used:usedS D.l≤1048576
 cap:D.cap≤1048576
 fails:D.fails≤1099511627777
theorem none_at {l:List FileS}{n:ByteArray}(h:¬ findS l n<l.length) : l[findS l n]? = none:=List.getElem?_eq_none (by omega)
end
end Go.Proofs.YtcpfkaehefcakaaGreat
namespace Go.Proofs.YtcpfkaehefcakaaGreat
open Go.RowKit
set_option linter.unusedVariables false
set_option maxRecDepth 100000
def SrcAt (w:World)(size:Nat)(v:Value)(m:Nat)(news:List Value) : Prop :=
 news.length=m*size∧((∃ c,v = .slice none 0 c∧m=0)∨∃ a c,v = .slice (some a) m c∧∀ j u,news[j]? = some u→w.cell? (a.add j)=some u)
section
variable {P : Program}
theorem run_append_src (w:World)(base:Nat)(t e:TypeId)(i:TypeInfo)(z:Value)(size bytes:Nat)(ty:TypeId)(ht:P.underlying t=some (.slice e))(hi:P.info? e=some i)(hz:i.zero=some z)
  (hsize:i.size=size) (hby:i.bytes=bytes) (hzs:z.cells.size=size) (hsz:0<size)
  (v:Value) (n:Nat) (xs:List Value) (hown:w.ownsRow base e size v n xs) (vx:Value) (m:Nat) (news:List Value) (hs:SrcAt w size vx m news) (h1:∀ u∈news,u.oneCell'=true)
  (h63:n+m≤maxLen) (hbytes:(n+m)*bytes≤140737488355328) (hbase:base≤w.heap.size) :
  ∃ v' w',(Builtin.append_ #[t,t] ty #[v,vx]).run P w = .ok v' w'∧w'.ownsRow base e size v' (n+m) (xs++news)∧w.grownBy w' v.ownBlock∧(v'.ownBlock=v.ownBlock∨v'.ownBlock=some w.heap.size):=by
 rcases hs.2 with⟨c,rfl,rfl⟩ | ⟨a,c,rfl,hc⟩
 ·have hn:news=[]:=List.eq_nil_of_length_eq_zero (by simpa using hs.1)
  subst hn
  refine⟨v,w, ?_,by simpa using hown,⟨rfl,rfl,rfl,Nat.le_refl _,fun _ _ _=>rfl⟩,Or.inl rfl⟩
  rcases hown.2 with⟨rfl,rfl⟩ | ⟨g,cap,cur,rfl,_,_,hnc,_⟩
  ·simp[Builtin.append_,run_underlying ht,sizeOf,typeInfo,hi,Builtin.lenOf,Builtin.firstCells]
  ·simp[Builtin.append_,run_underlying ht,sizeOf,typeInfo,hi,Builtin.lenOf,Builtin.firstCells,hnc,storeCells]
 ·obtain⟨v',w',e1,e2,e3,_,e5⟩:=run_append_own_at (P:=P) w base t ty e i z size bytes ht hi hz hsize hby hzs hsz v n xs hown a m c news hs.1 hc h1 h63 hbytes hbase
  exact⟨v',w',e1,e2,e3,e5⟩
theorem step_append_run {ops:Array Oper}{o:Oper}{a:Act}{w w':World}{K:Act→World→Prop}{Q:Exit→Act→World→Prop}{E:Prop}{vs vx v':Value}(hgd:o.guard=none)(s x:Operand)(t:TypeId)
  (ho:o.op = .call { callee:=.builtin .append,args:=#[s,x],argTypes:=#[t,t] }) (hs:a.eval s=vs) (hx:a.eval x=vx)
  (hr:(Builtin.append_ #[t,t] o.type #[vs,vx]).run P w = .ok v' w') (h:K (a.put o.dst v') w'):if Region.wanted o (yielded ops a.tmps)=true then Oper.wp P o a w K Q else E:=by
 have hw:Region.wanted o (yielded ops a.tmps)=true:=by simp[Region.wanted,hgd]
 rw[if_pos hw]
 unfold Oper.wp execOp
 simp only[ho,resolve,invoke,builtin,Sem.run_bind,Sem.run_pure,Result.andThen_ok,List.map_toArray,List.map_cons,List.map_nil,hs,hx,hr]
 exact h
end
theorem wpList_append_two {P:Program}{w w':World}{ops:Array Oper}{rest:List Oper}{o:Oper}{a:Act}{Q:Exit→Act→World→Prop}{vs vx v':Value}{t tx:TypeId}(hgd:o.guard=none)(s x:Operand)
  (ho:o.op = .call { callee:=.builtin .append,args:=#[s,x],argTypes:=#[t,tx] }) (hs:a.eval s=vs) (hx:a.eval x=vx) (hr:(Builtin.append_ #[t,tx] o.type #[vs,vx]).run P w = .ok v' w') (h:wpList P ops Q rest (a.put o.dst v') w'):wpList P ops Q (o::rest) a w:=by
 refine wpList_plain hgd fun K' hK'=>?_
 unfold Oper.wp execOp
 simp only[ho,resolve,invoke,builtin,Sem.run_bind,Sem.run_pure,Result.andThen_ok,List.map_toArray,List.map_cons,List.map_nil,hs,hx,hr]
 exact hK' _ _ h
end Go.Proofs.YtcpfkaehefcakaaGreat
namespace Go.Proofs.YtcpfkaehefcakaaGreat
set_option maxRecDepth 100000
set_option linter.unusedVariables false
section
open Go.RowKit
theorem used_mem {l:List FileS}{f:FileS}(h:f∈l) : f.data.size≤usedS l:=by
 induction l with
 | nil=>cases h
 | cons x l ih =>
   have e:usedS (x::l)=x.data.size+usedS l:=by unfold usedS;simp
   rcases List.mem_cons.1 h with rfl | h
   ·omega
   ·have:=ih h;omega
theorem used_setF (l:List FileS) : ∀ (k:Nat) (f:FileS) (h:FileS→FileS),l[k]? = some f→usedS (setF l k h)+f.data.size=usedS l+(h f).data.size:=by
 induction l with
 | nil=>intro k f h hk;simp at hk
 | cons x l ih =>
   intro k f h hk
   have e:∀ x l,usedS (x::l)=x.data.size+usedS l:=fun x l=>by unfold usedS;simp
   cases k with
   | zero =>
     obtain rfl:x=f:=by simpa using hk
     have e2:setF (x::l) 0 h=h x::l:=rfl
     rw[e2,e,e]
     omega
   | succ k =>
     have e2:setF (x::l) (k+1) h=x::setF l k h:=rfl
     have:=ih k f h (by simpa using hk)
     rw[e2,e,e]
     omega
theorem mem_setF {l:List FileS}{k:Nat}{h:FileS→FileS}{x:FileS}(hx:x∈setF l k h) : x∈l∨∃ f,l[k]? = some f∧x=h f:=by
 obtain⟨j,hj⟩:=List.getElem?_of_mem hx
 rw[setF_get] at hj
 by_cases e:j=k
 ·subst e
  rw[if_pos rfl] at hj
  cases hl:l[j]? with
  | none=>rw[hl] at hj;cases hj
  | some f=>rw[hl] at hj;exact Or.inr ⟨f,rfl,by simpa using hj.symm⟩
 ·rw[if_neg e] at hj
  exact Or.inl (List.mem_of_getElem? hj)
theorem RefOk.app {D:DiskS}(h:RefOk D){k:Nat}{f:FileS}(hk:D.l[k]? = some f)(s:ByteArray)(hs:usedS D.l+s.size≤D.cap) : RefOk { D with l:=setF D.l k (fun f=>{ f with data:=f.data++s }) }:=by
 have hu:usedS (setF D.l k (fun f=>{ f with data:=f.data++s }))+f.data.size=usedS D.l+(f.data++s).size:=used_setF D.l k f (fun f=>{ f with data:=f.data++s }) hk
 have hz:(f.data++s).size=f.data.size+s.size:=ByteArray.size_append
 have hc:=h.cap
 have hu2:usedS (setF D.l k (fun f=>{ f with data:=f.data++s }))=usedS D.l+s.size:=by omega
 refine⟨fun x hx=>?_,by show(setF _ _ _).length≤_;rw[setF_length];exact h.many,by show usedS (setF _ _ _)≤_;omega,h.cap,h.fails⟩
 have hb:x.data.size≤usedS (setF D.l k (fun f=>{ f with data:=f.data++s })):=used_mem hx
 refine⟨?_,by omega⟩
 rcases mem_setF hx with hx | ⟨f',hf',rfl⟩
 ·exact(h.sizes x hx).1
 ·have:=(h.sizes f' (List.mem_of_getElem? hf')).1
  show f'.synced≤(f'.data++s).size
  rw[ByteArray.size_append]
  omega
theorem readS_down {D:DiskS}{n:ByteArray}{a k:Int}(hd:D.down=true) : readS D n a k=(ByteArray.empty,61,D):=by
 unfold readS
 rw[if_pos hd]
def readE (D:DiskS) : DiskS:={ D with count:=D.count+1 }
theorem readS_none {D:DiskS}{n:ByteArray}{a k:Int}(hd:D.down=false)(hf:¬ findS D.l n<D.l.length) : readS D n a k=(ByteArray.empty,4,readE D):=by
 unfold readS
 rw[if_neg (by rw[hd];decide)]
 simp only[none_at hf]
 rfl
theorem readS_bad {D:DiskS}{n:ByteArray}{a k:Int}{f:FileS}(hd:D.down=false)(hf:D.l[findS D.l n]? = some f)(hb:a<0∨k<0∨(f.data.size:Int)<a∨(f.data.size:Int)-a<k) : readS D n a k=(ByteArray.empty,2,readE D):=by
 unfold readS
 rw[if_neg (by rw[hd];decide)]
 simp only[hf]
 rw[if_pos hb]
 rfl
theorem readS_go {D:DiskS}{n:ByteArray}{a k:Int}{f:FileS}(hd:D.down=false)(hf:D.l[findS D.l n]? = some f)(hb:¬ (a<0∨k<0∨(f.data.size:Int)<a∨(f.data.size:Int)-a<k)) : readS D n a k=(f.data.extract a.toNat (a.toNat+k.toNat),0,readE D):=by
 unfold readS
 rw[if_neg (by rw[hd];decide)]
 simp only[hf]
 rw[if_neg hb]
 rfl
theorem min_int {P:Program}(x y:Int)(m:Nat)(h:(m:Int)=if y<x then y else x) : ∀ ts t w,(Builtin.min_ ts t #[.int .i64 x,.int .i64 y]).run P w = .ok (.int .i64 (m:Nat)) w:=fun ts t w=>by
 rw[run_min_int2,h]
end
end Go.Proofs.YtcpfkaehefcakaaGreat
namespace Go.Proofs.YtcpfkaehefcakaaGreat
open Go.RowKit
set_option linter.unusedVariables false
set_option maxRecDepth 100000
def RowB (w:World)(b:Nat)(n:Nat)(f:Nat→Value) : Prop :=
 ∃ (c:Array Value) (t:TypeId) (fr:Nat × Nat),w.heap[b]? = some (.cells c t fr)∧n≤c.size∧(fr=(0,0)∨n≤fr.1)∧∀ i,i<n→c[i]? = some (f i)
namespace RowB
variable {w : World} {b n : Nat} {f g : Nat → Value}
theorem cell (h:RowB w b n f){i:Nat}(hi:i<n) : w.cell? ⟨b,i,none⟩=some (f i):=by
 obtain⟨c,t,fr,hb,_,_,hc⟩:=h
 simp[World.cell?,hb,hc i hi]
theorem frozen (h:RowB w b n f){i:Nat}(hi:i<n) : w.frozen? ⟨b,i,none⟩=false:=by
 obtain⟨c,t,⟨lo,hi'⟩,hb,_,hf,_⟩:=h
 rcases hf with hf | hf
 ·cases hf
  simp[World.frozen?,hb]
 ·have hf':n≤lo:=hf
  simp[World.frozen?,hb]
  omega
theorem lt (h:RowB w b n f) : b<w.heap.size:=by
 obtain⟨c,t,fr,hb,_⟩:=h
 obtain⟨hlt,_⟩:=Array.getElem?_eq_some_iff.1 hb
 exact hlt
theorem congr (h:RowB w b n f)(e:∀ i,i<n→f i=g i) : RowB w b n g:=by
 obtain⟨c,t,fr,hb,hn,hf,hc⟩:=h
 exact⟨c,t,fr,hb,hn,hf,fun i hi=>by rw[hc i hi,e i hi]⟩
theorem of_block {w':World}(h:RowB w b n f)(e:w'.heap[b]? = w.heap[b]?) : RowB w' b n f:=by
 obtain⟨c,t,fr,hb,hn,hf,hc⟩:=h
 exact⟨c,t,fr,e.trans hb,hn,hf,hc⟩
theorem below {w':World}(h:RowB w b n f)(hb:Below w.heap.size w w') : RowB w' b n f:=h.of_block (hb.block _ h.lt)
theorem set (h:RowB w b n f)(i:Nat)(v:Value) : RowB (w.setCell ⟨b,i,none⟩ v) b n (fun j=>if j=i then v else f j):=by
 obtain⟨c,t,fr,hb,hn,hf,hc⟩:=h
 refine⟨c.setIfInBounds i v,t,fr, ?_,by simpa using hn,hf,fun j hj=>?_⟩
 ·simp[World.setCell,Array.getElem?_modify,hb]
 ·rw[Array.getElem?_setIfInBounds]
  by_cases e:j=i
  ·subst e
   simp[show j<c.size by omega]
  ·rw[if_neg (fun h=>e h.symm)]
   show c[j]? = some (if j=i then v else f j)
   rw[if_neg e]
   exact hc j hj
end RowB
def u8At (l:List UInt8)(j:Nat) : Value:=.int .u8 ((l.getD j 0).toNat:Int)
theorem conv_out {w:World}{b n:Nat}{l:List UInt8}(h:RowB w b n (u8At l))(hl:l.length=n)(cap:Nat) : (convert 127 9 (.slice (some ⟨b,0,none⟩) n cap)).run Tryz.prog w = .ok (.string ⟨l.toArray⟩) w:=by
 have h:=run_convert_bytes_back (P:=Tryz.prog) w 127 9 5 ⟨b,0,none⟩ cap l Tryz.underlying127 Tryz.underlying5 Tryz.underlying9
  (fun j hj=>by
   have e:(⟨b,0,none⟩:Addr).add j=⟨b,j,none⟩:=by simp[Addr.add];omega
   rw[e,h.cell (by omega)]
   unfold u8At
   rw[List.getD_eq_getElem?_getD,List.getElem?_eq_getElem hj]
   rfl)
 rw[hl] at h
 exact h
end Go.Proofs.YtcpfkaehefcakaaGreat
namespace Go.Proofs.YtcpfkaehefcakaaGreat
set_option maxRecDepth 100000
set_option linter.unusedVariables false
section
open Go.RowKit
def newS (c:Nat) : DiskS:=⟨c,[],0,false,0,0,[]⟩
def IntsIn (w:World)(v:Value)(l:List Int) : Prop :=
 (l=[]∧∃ a c,v = .slice a 0 c)∨∃ b off cap,v = .slice (some ⟨b,off,none⟩) l.length cap∧l.length≤cap∧cap≤maxLen∧b<w.heap.size∧∀ i x,l[i]? = some x→w.cell? ⟨b,off+i,none⟩=some (.int .i64 x)
theorem IntsIn.cell {w:World}{v:Value}{l:List Int}(h:IntsIn w v l) : ∃ A off cap,v = .slice A l.length cap∧l.length≤maxLen∧∀ i x,l[i]? = some x→∃ b,A=some ⟨b,off,none⟩∧w.cell? ⟨b,off+i,none⟩=some (.int .i64 x):=by
 rcases h with⟨rfl,a,c,rfl⟩ | ⟨b,off,cap,h1,h2,h3,h4,h5⟩
 ·exact⟨a,0,c,rfl,Nat.zero_le _,fun i x h=>by simp at h⟩
 ·exact⟨some ⟨b,off,none⟩,off,cap,h1,by omega,fun i x hx=>⟨b,rfl,h5 i x hx⟩⟩
theorem IntsIn.below {w w':World}{v:Value}{l:List Int}{B:Nat}(h:IntsIn w v l)(hb:Below B w w')(hB:w.heap.size≤B) : IntsIn w' v l:=by
 rcases h with h | ⟨b,off,cap,rfl,h2,h3,h4,h5⟩
 ·exact Or.inl h
 ·exact Or.inr ⟨b,off,cap,rfl,h2,h3,Nat.lt_of_lt_of_le h4 hb.size,fun i x hx=>(hb.cell (p:=⟨b,off+i,none⟩) (Nat.lt_of_lt_of_le h4 hB)).trans (h5 i x hx)⟩
theorem info_int : (Tryz.prog.info? 3).map (fun i=>(i.zero,i.size,i.bytes))=some (some (.int .i64 0),1,8):=by kernel_rfl
theorem IntsAt.in_ {w:World}{v:Value}{l:List Int}(h:IntsAt w v l) : IntsIn w v l:=by
 rcases h with h | ⟨b,off,cap,cs,fr,h1,h2,h3,h4,h5⟩
 ·exact Or.inl h
 ·refine Or.inr ⟨b,off,cap,h1,h2,h3, ?_,fun i x hx=>?_⟩
  ·rcases Nat.lt_or_ge b w.heap.size with c | c
   ·exact c
   ·rw[Array.getElem?_eq_none c] at h4;cases h4
  ·rw[cell_of_row w b (off+i) cs _ fr h4]
   exact h5 i x hx
theorem IntsIn.touch {F:List Nat}{w w':World}{v:Value}{l:List Int}(h:IntsIn w v l)(ht:Touch F w w')(hF:∀ b,v.ownBlock=some b→b ∉ F) : IntsIn w' v l:=by
 rcases h with h | ⟨b,off,cap,rfl,h2,h3,h4,h5⟩
 ·exact Or.inl h
 ·exact Or.inr ⟨b,off,cap,rfl,h2,h3,Nat.lt_of_lt_of_le h4 ht.size,fun i x hx=>(ht.cell (p:=⟨b,off+i,none⟩) h4 (hF b rfl)).trans (h5 i x hx)⟩
structure ProgOk (D:DiskS) : Prop where
 sizes:∀ f∈D.l,f.synced≤f.data.size∧f.data.size≤1048576
 many:D.l.length≤400
 used:usedS D.l≤1048576
 cap:D.cap≤1048576
abbrev Lies := World→Nat→Nat→List Nat→DiskS→Prop
abbrev ptr (g:Nat) : Value:=.pointer (some ⟨g,0,none⟩)
def EndAt (At:Lies)(base g:Nat)(F:List Nat)(w:World)(v:Value)(E:DiskS)(e:Ending)(w':World) : Prop :=
 ∃ F',e = .returned v∧At w' base g F' E∧(∀ x∈F',x∈F∨w.heap.size≤x)∧Touch F w w'
def StrsAt (w:World)(v:Value)(l:List ByteArray) : Prop :=
 (l=[]∧∃ a c,v = .slice a 0 c)∨∃ b off cap,v = .slice (some ⟨b,off,none⟩) l.length cap∧l.length≤cap∧cap≤maxLen∧b<w.heap.size∧∀ i x,l[i]? = some x→w.cell? ⟨b,off+i,none⟩=some (.string x)
theorem StrsAt.cell {w:World}{v:Value}{l:List ByteArray}(h:StrsAt w v l) : ∃ A off cap,v = .slice A l.length cap∧l.length≤maxLen∧∀ i x,l[i]? = some x→∃ b,A=some ⟨b,off,none⟩∧w.cell? ⟨b,off+i,none⟩=some (.string x):=by
 rcases h with⟨rfl,a,c,rfl⟩ | ⟨b,off,cap,h1,h2,h3,h4,h5⟩
 ·exact⟨a,0,c,rfl,Nat.zero_le _,fun i x h=>by simp at h⟩
 ·exact⟨some ⟨b,off,none⟩,off,cap,h1,by omega,fun i x hx=>⟨b,rfl,h5 i x hx⟩⟩
def StrsEnd (At:Lies)(base g:Nat)(F:List Nat)(w:World)(l:List ByteArray)(E:DiskS)(e:Ending)(w':World) : Prop :=
 ∃ F' v,e = .returned v∧StrsAt w' v l∧(∀ b,v.ownBlock=some b→w.heap.size≤b∧b ∉ F')∧At w' base g F' E∧(∀ x∈F',x∈F∨w.heap.size≤x)∧Touch F w w'
def MadeAt (At:Lies)(base:Nat)(w:World)(c:Nat)(e:Ending)(w':World) : Prop :=
 ∃ g F,e = .returned (.tuple #[ptr g,.int .i64 0])∧At w' base g F (newS c)∧(∀ x∈F,w.heap.size≤x)∧Touch [] w w'
abbrev err (n:Nat) : Value:=.int .i64 (n:Nat)
structure DiskApi (At:Lies) : Prop where
 touch:∀ {w w':World} {base g:Nat} {F G:List Nat} {D:DiskS},At w base g F D→Touch G w w'→(∀ x∈F,x ∉ G)→At w' base g F D
 low:∀ {w:World} {base g:Nat} {F:List Nat} {D:DiskS},At w base g F D→∀ x∈F,base≤x∧x<w.heap.size
 new_ : ∀ (base c:Nat) (w:World),base≤w.heap.size→c≤1048576→Calls Tryz.prog 6 #[.int .i64 (c:Nat)] w (MadeAt At base w c)
 create:∀ {w:World} {base g:Nat} {F:List Nat} {D:DiskS} (n:ByteArray),At w base g F D→ProgOk D→n.size≤maxLen →
  Calls Tryz.prog 172 #[ptr g,.string n] w (EndAt At base g F w (err (createS D n).1) (createS D n).2)
 append:∀ {w:World} {base g:Nat} {F:List Nat} {D:DiskS} (n s:ByteArray),At w base g F D→ProgOk D→s.size≤1099511627776→n.size≤maxLen →
  Calls Tryz.prog 174 #[ptr g,.string n,.string s] w (EndAt At base g F w (err (appendS D n s).1) (appendS D n s).2)
 read:∀ {w:World} {base g:Nat} {F:List Nat} {D:DiskS} (n:ByteArray) (a k:Int),At w base g F D→ProgOk D→D.count≤1099511627776→(Lit.int .i64 a).wf=true→(Lit.int .i64 k).wf=true→n.size≤maxLen →
  Calls Tryz.prog 131 #[ptr g,.string n,.int .i64 a,.int .i64 k] w (EndAt At base g F w (.tuple #[.string (readS D n a k).1,err (readS D n a k).2.1]) (readS D n a k).2.2)
 sync:∀ {w:World} {base g:Nat} {F:List Nat} {D:DiskS} (n:ByteArray),At w base g F D→ProgOk D→n.size≤maxLen →
  Calls Tryz.prog 136 #[ptr g,.string n] w (EndAt At base g F w (err (syncS D n).1) (syncS D n).2)
 rename:∀ {w:World} {base g:Nat} {F:List Nat} {D:DiskS} (n m:ByteArray),At w base g F D→ProgOk D→m.size≤maxLen→n.size≤maxLen →
  Calls Tryz.prog 177 #[ptr g,.string n,.string m] w (EndAt At base g F w (err (renameS D n m).1) (renameS D n m).2)
 delete:∀ {w:World} {base g:Nat} {F:List Nat} {D:DiskS} (n:ByteArray),At w base g F D→ProgOk D→n.size≤maxLen →
  Calls Tryz.prog 72 #[ptr g,.string n] w (EndAt At base g F w (err (deleteS D n).1) (deleteS D n).2)
 size:∀ {w:World} {base g:Nat} {F:List Nat} {D:DiskS} (n:ByteArray),At w base g F D→ProgOk D→n.size≤maxLen →
  Calls Tryz.prog 33 #[ptr g,.string n] w (EndAt At base g F w (.tuple #[.int .i64 ((sizeS D n).1:Nat),err (sizeS D n).2]) D)
 names:∀ {w:World} {base g:Nat} {F:List Nat} {D:DiskS},At w base g F D→ProgOk D →
  Calls Tryz.prog 67 #[ptr g] w (StrsEnd At base g F w (D.l.map FileS.name) D)
 free:∀ {w:World} {base g:Nat} {F:List Nat} {D:DiskS},At w base g F D→ProgOk D →
  Calls Tryz.prog 152 #[ptr g] w (EndAt At base g F w (.int .i64 ((D.cap:Int)-(usedS D.l:Nat))) D)
 up:∀ {w:World} {base g:Nat} {F:List Nat} {D:DiskS},At w base g F D→ProgOk D →
  Calls Tryz.prog 149 #[ptr g] w (EndAt At base g F w (.bool (!D.down)) D)
 starts:∀ {w:World} {base g:Nat} {F:List Nat} {D:DiskS},At w base g F D→ProgOk D →
  Calls Tryz.prog 28 #[ptr g] w (EndAt At base g F w (.int .i64 (D.starts:Nat)) D)
 crash:∀ {w:World} {base g:Nat} {F:List Nat} {D:DiskS} (v:Value) (keep:List Int),At w base g F D→ProgOk D→IntsIn w v keep→(∀ b,v.ownBlock=some b→b ∉ F)→keep.length≤1048576 →
  Calls Tryz.prog 26 #[ptr g,v] w (EndAt At base g F w (err (crashS D keep).1) (crashS D keep).2)
 upq:∀ {w:World} {base g:Nat} {F:List Nat} {D:DiskS},At w base g F D→Calls Tryz.prog 149 #[ptr g] w fun e w'=>e = .returned (.bool (!D.down))∧w=w'
 startsq:∀ {w:World} {base g:Nat} {F:List Nat} {D:DiskS},At w base g F D→Calls Tryz.prog 28 #[ptr g] w fun e w'=>e = .returned (.int .i64 (D.starts:Nat))∧w=w'
 sizeq:∀ {w:World} {base g:Nat} {F:List Nat} {D:DiskS} (n:ByteArray),At w base g F D→ProgOk D→n.size≤maxLen→Calls Tryz.prog 33 #[ptr g,.string n] w fun e w'=>e = .returned (.tuple #[.int .i64 ((sizeS D n).1:Nat),err (sizeS D n).2])∧w=w'
 rise:∀ {w:World} {base g:Nat} {F:List Nat} {D:DiskS},At w base g F D→D.l.Pairwise (fun f g=>lessB f.name g.name=true)∧∀ f∈D.l,nameB f.name=true
theorem val_u32 {a b:Int}(h:a=b) : Value.int .u32 a = .int .u32 b:=by rw[h]
theorem ret_u32 {a b:Int}(h:a=b) : Ending.returned (.int .u32 a) = .returned (.int .u32 b):=by rw[h]
theorem stp_walk (y:Nat)(hy:y<4294967296) : bits .xor .u32 ((y:Int)/2) (bits .and .u32 (y:Int) 1*3988292384%4294967296)=((stp y:Nat):Int):=by
 have h1:bits .and .u32 (y:Int) 1=((y%2:Nat):Int):=by
  have h:=u32_and_nat y 1 hy (by decide)
  rw[nat_mask1] at h
  exact h
 have h2:((y%2:Nat):Int)*3988292384%4294967296=((y%2*3988292384:Nat):Int):=by omega
 have h3:(y:Int)/2=((y/2:Nat):Int):=by omega
 rw[h1,h2,h3]
 exact u32_xor_nat _ _ (by omega) (by omega)
set_option maxHeartbeats 400000 in
theorem into_any (x c:Nat)(w:World)(hx:x<4294967296)(hc:c<256) :
  Calls Tryz.prog 257 #[.int .u32 (x:Nat),.int .u8 (c:Nat)] w fun e w'=>e = .returned (.int .u32 (intoS x c:Nat))∧w=w':=by
 go_enter Tryz.func257,Tryz.ntmps257
 go_wp2
 go_loop [0,9] (fun a i=>∃ k:Nat,k≤8∧i = .int .i64 k∧a = .int .u32 (stk k (x^^^c):Nat)) (fun _ i=>8-(intOf i).toNat)
 case atStart=>exact⟨0,by omega,rfl,val_u32 (u32_xor_nat x c hx (by omega))⟩
 case round =>
  obtain⟨k,hk,rfl,rfl⟩:=hrel
  by_cases hlt:k<8
  ·have hy:stk k (x^^^c)<4294967296:=stk_lt k (xor_lt hx (by omega))
   have hs:=Lib.hid (stk_one k (x^^^c))
   generalize stk k (x^^^c)=y at *
   go_wp2
   go_round
   case rel=>exact⟨k+1,by omega,by go_num,val_u32 (by rw[hs.out];exact stp_walk y hy)⟩
   case measure=>simp[intOf];omega
  ·obtain rfl:k=8:=by omega
   go_wp2
   go_ret
   exact⟨rfl,rfl⟩
theorem compl (x:Nat)(hx:x<4294967296) : bits .xor .u32 IntKind.u32.max (x:Int)=((4294967295-x:Nat):Int):=by
 have e:IntKind.u32.max=((4294967295:Nat):Int):=by decide
 rw[e,all_xor hx]
 exact u32_xor_nat _ _ (by decide) hx
set_option maxHeartbeats 400000 in
theorem more_any (x:Nat)(s:ByteArray)(w:World)(hx:x<4294967296)(hs:s.size≤maxLen) :
  Calls Tryz.prog 246 #[.int .u32 (x:Nat),.string s] w fun e w'=>e = .returned (.int .u32 (moreS x s.data.toList:Nat))∧w=w':=by
 unfold maxLen at hs
 go_enter Tryz.func246,Tryz.ntmps246
 go_wp2
 go_loop [5,11] (fun a i=>∃ k:Nat,k≤s.size∧i = .int .i64 k∧a = .int .u32 (foldS (4294967295-x) (s.data.toList.take k):Nat)) (fun _ i=>s.size-(intOf i).toNat)
 case atStart =>
  exact⟨0,by omega,rfl,val_u32 (by rw[List.take_zero,foldS_nil];exact compl x hx)⟩
 case round =>
  obtain⟨k,hk,rfl,rfl⟩:=hrel
  have hy:foldS (4294967295-x) (s.data.toList.take k)<4294967296:=foldS_lt _ (by omega)
  by_cases hlt:k<s.size
  ·have h1:=Lib.hid (take_snoc s k hlt)
   have h2:=Lib.hid (foldS_snoc (4294967295-x) (s.data.toList.take k) s[k])
   have hc:=(s[k]).toNat_lt
   generalize foldS (4294967295-x) (s.data.toList.take k)=y at *
   go_wp2_with fail
   refine(into_any y _ _ hy hc).mono ?_
   rintro e w' ⟨rfl,rfl⟩
   go_wp2
   go_round
   case rel=>exact⟨k+1,by omega,by go_num,val_u32 (by rw[h1.out,h2.out])⟩
   case measure=>simp[intOf];omega
  ·obtain rfl:k=s.size:=by omega
   have h1:List.take s.size s.data.toList=s.data.toList:=List.take_of_length_le (by simp)
   have hm:moreS x s.data.toList=4294967295-foldS (4294967295-x) s.data.toList:=rfl
   rw[h1] at hy ⊢
   clear h1
   generalize foldS (4294967295-x) s.data.toList=y at *
   have Hm:=Lib.hid hm
   clear hm
   go_wp2
   go_ret
   exact⟨ret_u32 (by rw[Hm.out];exact compl y hy),rfl⟩
theorem sum_any (s:ByteArray)(w:World)(hs:s.size≤maxLen) :
  Calls Tryz.prog 218 #[.string s] w fun e w'=>e = .returned (.int .u32 (sumS s.data.toList:Nat))∧w=w':=by
 have h:=Lib.hid (fun w=>more_any 0 s w (by decide) hs)
 unfold maxLen at hs
 go_enter Tryz.func218,Tryz.ntmps218
 go_wp2_with fail
 refine(h.out _).mono ?_
 rintro e w' ⟨rfl,rfl⟩
 go_wp2
 go_ret
 exact⟨rfl,rfl⟩
theorem be_at : ∀ (k n j:Nat) (h:j<(be k n).length),(be k n)[j]=UInt8.ofNat (n/256 ^ (k-1-j))
 | 0,n,j,h=>by simp[be] at h
 | k+1,n,0,h=>by simp[be]
 | k+1,n,j+1,h=>by
   have hj:j<(be k n).length:=by simpa[be] using h
   have e:k+1-1-(j+1)=k-1-j:=by omega
   simp only[be,List.getElem_cons_succ,be_at k n j hj,e]
def laidAt (n N k j:Nat) : Value:=.int .u8 (if j+k<N then 0 else((n/256 ^ (N-1-j)%256:Nat):Int))
theorem laid_step (n N k j:Nat)(hk:k<N) : (if j=N-1-k then Value.int .u8 ((n/256 ^ k%256:Nat):Int) else laidAt n N k j)=laidAt n N (k+1) j:=by
 unfold laidAt
 by_cases h:j=N-1-k
 ·have e:N-1-j=k:=by omega
  rw[if_pos h,if_neg (by omega),e]
 ·rw[if_neg h]
  by_cases h2:j+k<N
  ·rw[if_pos h2,if_pos (by omega)]
  ·rw[if_neg h2,if_neg (by omega)]
theorem laid_full (n N j:Nat)(h:j<(be N n).length) : laidAt n N N j = .int .u8 ((be N n)[j].toNat:Int):=by
 unfold laidAt
 rw[if_neg (by omega),be_at,UInt8.toNat_ofNat']
theorem byte_val (n k:Nat) : (n:Int)/2 ^ (8*k)%256=((n/256 ^ k%256:Nat):Int):=by
 have e:(2:Nat) ^ (8*k)=256 ^ k:=by rw[Nat.pow_mul]
 rw[← e,Int.natCast_emod,Int.natCast_ediv,Int.natCast_pow];rfl
set_option maxHeartbeats 400000 in
theorem put_some (n N:Nat)(w:World)(h1:1≤N)(h8:N≤8)(hn:n<18446744073709551616) :
  Calls Tryz.prog 109 #[.int .u64 (n:Nat),.int .i64 (N:Nat)] w fun e w'=>e = .returned (.string (bs (be N n)))∧Below w.heap.size w w':=by
 have hmk:=run_make_row' (P:=Tryz.prog) 127 5 (.int .u8 0) 1 Tryz.underlying127 (by kernel_rfl) rfl .i64 .i64 N (by omega) (by omega)
 go_enter Tryz.func109,Tryz.ntmps109
 go_wp2
 go_loopw [16] (fun i wr=>∃ k:Nat,k≤N∧i = .int .i64 k∧wr.rowIs w.heap.size 5 N (laidAt n N k)∧Below w.heap.size w wr) (fun i _=>N-(intOf i).toNat)
 case atStart=>exact⟨0,Nat.zero_le _,rfl,(World.rowIs_made _ _ _ _).congr (fun j hj=>by unfold laidAt;rw[if_pos (by omega)]),(Below.refl _ _).alloc (Nat.le_refl _) _⟩
 case round =>
  obtain⟨k,hk,rfl,hrow,hbel⟩:=hrel
  by_cases hlt:k<N
  ·have hcell:=hrow.cell (i:=N-1-k) (by omega)
   have hfz:=hrow.frozen (N-1-k)
   go_wp2
   go_roundw
   case rel =>
    rw[byte_val n k]
    exact⟨k+1,by omega,by go_num,(hrow.set _ _).congr (fun j _=>laid_step n N k j hlt),hbel.setCell (Nat.le_refl _) _⟩
   case measure=>simp[intOf];omega
  ·obtain rfl:k=N:=by omega
   have hcv:(convert 127 9 (.slice (some ⟨w.heap.size,0,none⟩) k k)).run Tryz.prog wr = .ok (.string (bs (be k n))) wr:=by
    have h:=run_convert_bytes_back (P:=Tryz.prog) wr 127 9 5 ⟨w.heap.size,0,none⟩ k (be k n) Tryz.underlying127 Tryz.underlying5 Tryz.underlying9
     (fun j hj=>by
      have e:(⟨w.heap.size,0,none⟩:Addr).add j=⟨w.heap.size,j,none⟩:=by simp[Addr.add];omega
      rw[e,hrow.cell (by rw[be_length] at hj;exact hj),laid_full n k j hj])
    rw[be_length] at h
    exact h
   go_wp2
   go_ret
   exact⟨rfl,hbel⟩
theorem un_take_lt (s:ByteArray)(k:Nat)(h:k≤7) : un (s.data.toList.take k)≤72057594037927935:=by
 have h1:=un_lt (s.data.toList.take k)
 have h2:(s.data.toList.take k).length≤7:=by rw[List.length_take];omega
 have h3:256 ^ (s.data.toList.take k).length≤256 ^ 7:=Nat.pow_le_pow_right (by decide) h2
 have:(256:Nat) ^ 7=72057594037927936:=by decide
 omega
theorem getS_step (s:ByteArray)(k:Nat)(h:k<s.size) : un (s.data.toList.take (k+1))=un (s.data.toList.take k)*256+(s[k]).toNat:=by
 rw[take_snoc s k h,un_snoc]
theorem getS_end (s:ByteArray)(k:Nat)(h:k=s.size∨k=8)(hk:k≤8) : un (s.data.toList.take k)=getS s:=by
 unfold getS
 rcases h with h | h
 ·subst h
  rw[List.take_of_length_le (by simp),List.take_of_length_le (by simp;omega)]
 ·rw[h]
theorem or_byte (a c:Nat)(ha:a≤72057594037927935)(hc:c<2 ^ 8) : bits .or .u64 ((a:Int)*256) (c:Int)=((a*256+c:Nat):Int):=by
 have e:(a:Int)*256=((a*256:Nat):Int):=by omega
 have h:=Nat.shiftLeft_add_eq_or_of_lt hc a
 rw[Nat.shiftLeft_eq] at h
 have h1:(BitVec.ofInt 64 ((a*256:Nat):Int)).toNat=a*256:=by
  rw[BitVec.ofInt_natCast,BitVec.toNat_ofNat];exact Nat.mod_eq_of_lt (by omega)
 have h2:(BitVec.ofInt 64 (c:Int)).toNat=c:=by
  rw[BitVec.ofInt_natCast,BitVec.toNat_ofNat];exact Nat.mod_eq_of_lt (by omega)
 rw[e]
 show IntKind.u64.wrap ((BitVec.ofInt 64 ((a*256:Nat):Int)|||BitVec.ofInt 64 (c:Int)).toNat:Int)=_
 rw[BitVec.toNat_or,h1,h2,← show a*256+c=a*256|||c from h,IntKind.wrap_u64]
 omega
set_option maxHeartbeats 400000 in
theorem get_any (s:ByteArray)(w:World)(hs:s.size≤maxLen) :
  Calls Tryz.prog 180 #[.string s] w fun e w'=>e = .returned (.int .u64 (getS s:Nat))∧w=w':=by
 unfold maxLen at hs
 by_cases h8:s.size≤8
 all_goals
  go_enter Tryz.func180,Tryz.ntmps180
  go_wp2
  go_loop [3,8] (fun n i=>∃ k:Nat,k≤s.size∧k≤8∧i = .int .i64 k∧n = .int .u64 (un (s.data.toList.take k):Nat)) (fun _ i=>8-(intOf i).toNat)
  case atStart=>exact⟨0,Nat.zero_le _,by omega,rfl,rfl⟩
  case round =>
   obtain⟨k,hk,hk8,rfl,rfl⟩:=hrel
   by_cases hlt:k<s.size∧k<8
   ·obtain⟨h1,h2⟩:=hlt
    have hb:=un_take_lt s k (by omega)
    have hst:=Lib.hid (getS_step s k h1)
    have hc:=(s[k]).toNat_lt
    go_wp2
    go_round
    case rel=>exact⟨k+1,by omega,by omega,by go_num,by rw[hst.out,or_byte _ _ (by omega) hc]⟩
    case measure=>simp[intOf];omega
   ·have hend:=Lib.hid (getS_end s k (by omega) hk8)
    go_wp2
    go_ret
    exact⟨ret_int (by rw[hend.out]),rfl⟩
theorem ret_u64 {a b:Int}(h:a=b) : Ending.returned (.int .u64 a) = .returned (.int .u64 b):=by rw[h]
theorem amount : bits .and .u64 (IntKind.u64.wrap (-17)) 63=47:=by decide +kernel
theorem rotH_or (x:Nat)(hx:x<18446744073709551616) : x*140737488355328%18446744073709551616|||x/131072=rotH x:=by
 have e:x*140737488355328%18446744073709551616=x%131072*140737488355328:=by omega
 have h:=nat_join 47 (x%131072*140737488355328) (x/131072) (Nat.mul_mod_left _ _) (by omega)
 rw[e,h]
 unfold rotH
 omega
theorem rot_walk (x:Nat)(hx:x<18446744073709551616) : bits .or .u64 (IntKind.u64.wrap ((x:Int)*140737488355328)) ((x:Int)/131072)=((rotH x:Nat):Int):=by
 have e1:IntKind.u64.wrap ((x:Int)*140737488355328)=((x*140737488355328%18446744073709551616:Nat):Int):=by
  rw[IntKind.wrap_u64]
  omega
 have e2:(x:Int)/131072=((x/131072:Nat):Int):=by omega
 rw[e1,e2,u64_or_nat _ _ (by omega) (by omega),rotH_or x hx]
theorem rot_any (x:Nat)(w:World)(hx:x<18446744073709551616) :
  Calls Tryz.prog 248 #[.int .u64 (x:Nat),.int .i64 (-17)] w fun e w'=>e = .returned (.int .u64 (rotH x:Nat))∧w=w':=by
 have hb:=amount
 go_enter Tryz.func248,Tryz.ntmps248
 go_wp2
 go_ret
 exact⟨ret_u64 (rot_walk x hx),rfl⟩
theorem step_walk (x:Nat)(hx:x<18446744073709551616) : bits .or .u64 ((rotH x:Nat):Int) 1=((stepH x:Nat):Int):=by
 have h:=u64_or_nat (rotH x) 1 (rotH_lt hx) (by decide)
 rw[stepH_or] at h
 exact h
theorem step_any (x:Nat)(w:World)(hx:x<18446744073709551616) :
  Calls Tryz.prog 221 #[.int .u64 (x:Nat)] w fun e w'=>e = .returned (.int .u64 (stepH x:Nat))∧w=w':=by
 have h:=Lib.hid (fun w=>rot_any x w hx)
 have hr:=rotH_lt hx
 have hs:=Lib.hid (step_walk x hx)
 generalize rotH x=r at *
 go_enter Tryz.func221,Tryz.ntmps221
 go_wp2_with fail
 refine(h.out _).mono ?_
 rintro e w' ⟨rfl,rfl⟩
 go_wp2
 go_ret
 exact⟨ret_u64 hs.out,rfl⟩
theorem prb_walk (h n m:Nat)(hh:h<18446744073709551616)(hm:0<m) : prb h (n:Nat) (m:Nat)=(h+n*stepH h%18446744073709551616)%18446744073709551616%m:=by
 unfold prb
 rw[if_neg (by omega),Int.toNat_natCast,Int.toNat_natCast]
 congr 1
 omega
theorem prb_wrap (h n m s:Nat)(hh:h<18446744073709551616)(hn:n<9223372036854775808)(hm:m<9223372036854775808)(hm0:0<m)(hs:stepH h=s) :
  wrap64 (Int.tmod (IntKind.u64.wrap ((h:Int)+IntKind.u64.wrap ((n:Int)*(s:Int)))) (m:Int))=((prb h (n:Nat) (m:Nat):Nat):Int):=by
 rw[prb_walk h n m hh hm0,hs,IntKind.wrap_u64,IntKind.wrap_u64,← Int.natCast_mul]
 have e:((h:Int)+((n*s:Nat):Int)%18446744073709551616)%18446744073709551616=(((h+n*s%18446744073709551616)%18446744073709551616:Nat):Int):=by omega
 rw[e]
 generalize (h+n*s%18446744073709551616)%18446744073709551616=x
 rw[← Int.ofNat_tmod]
 have:=Nat.mod_lt x hm0
 generalize x%m=y at *
 unfold wrap64
 omega
set_option maxHeartbeats 400000 in
theorem probe_any (h:Nat)(i b:Int)(w:World)(hh:h<18446744073709551616)(wi:(Lit.int .i64 i).wf=true)(wb:(Lit.int .i64 b).wf=true) :
  Calls Tryz.prog 185 #[.int .u64 (h:Nat),.int .i64 i,.int .i64 b] w fun e w'=>e = .returned (.int .i64 (prb h i b:Nat))∧w=w':=by
 have bi:=bounds_i64 wi
 have bb:=bounds_i64 wb
 by_cases hb:b<1
 ·have e:prb h i b=0:=by unfold prb;rw[if_pos (Or.inl hb)]
  rw[e]
  go_enter Tryz.func185,Tryz.ntmps185
  go_wp2
  go_ret
  exact⟨rfl,rfl⟩
 ·by_cases hi:i<0
  ·have e:prb h i b=0:=by unfold prb;rw[if_pos (Or.inr hi)]
   rw[e]
   go_enter Tryz.func185,Tryz.ntmps185
   go_wp2
   go_ret
   exact⟨rfl,rfl⟩
  ·obtain⟨n,rfl⟩:∃ n:Nat,i=n:=⟨i.toNat,by omega⟩
   obtain⟨m,rfl⟩:∃ m:Nat,b=m:=⟨b.toNat,by omega⟩
   have hs:=Lib.hid fun w=>step_any h w hh
   have hl:=stepH_lt hh
   have hw:=Lib.hid (prb_wrap h n m (stepH h) hh (by omega) (by omega) (by omega) rfl)
   generalize stepH h=s at *
   generalize prb h (n:Nat) (m:Nat)=r at *
   have hm0:((m:Int)==0)=false:=by simp;omega
   go_enter Tryz.func185,Tryz.ntmps185
   go_wp2_with fail
   refine(hs.out _).mono ?_
   rintro e w' ⟨rfl,rfl⟩
   go_wp2
   go_ret
   refine⟨ret_int ?_,rfl⟩
   exact hw.out
theorem mask_any (k:Nat)(w:World)(hk:k<9223372036854775808) :
  Calls Tryz.prog 226 #[.int .i64 (k:Nat)] w fun e w'=>e = .returned (.int .u8 (2 ^ (k%8):Nat))∧w=w':=by
 go_enter Tryz.func226,Tryz.ntmps226
 go_wp2
 go_ret
 refine⟨ret_int ?_,rfl⟩
 have h:=pow8_lt (Nat.mod_lt k (by decide):k%8<8)
 have e:(2:Int) ^ (k%8)=((2 ^ (k%8):Nat):Int):=by rw[Int.natCast_pow];rfl
 rw[e]
 generalize 2 ^ (k%8)=x at *
 omega
theorem conv_one {m:Nat} : ∀ wx:World,(convert 127 9 (.slice (some ⟨wx.heap.size,0,none⟩) 1 1)).run Tryz.prog (wx.alloc (.cells #[.int .u8 ((m:Int)%256)] 5)) = .ok (.string (bs [UInt8.ofNat m])) (wx.alloc (.cells #[.int .u8 ((m:Int)%256)] 5)):=fun wx=>by
 refine run_convert_bytes_back (P:=Tryz.prog) _ 127 9 5 ⟨wx.heap.size,0,none⟩ 1 [UInt8.ofNat m] Tryz.underlying127 Tryz.underlying5 Tryz.underlying9 (fun j hj=>?_)
 obtain rfl:j=0:=by simpa using hj
 have e:(⟨wx.heap.size,0,none⟩:Addr).add 0=⟨wx.heap.size,0,none⟩:=by simp[Addr.add]
 rw[e,World.cell?_alloc_at _ _ _ _ rfl]
 simp
set_option maxHeartbeats 400000 in
theorem putr_some (n N:Nat)(w:World)(h1:1≤N)(h8:N≤8)(hn:n<18446744073709551616) :
  Calls Tryz.prog 122 #[.int .u64 (n:Nat),.int .i64 (N:Nat)] w fun e w'=>e = .returned (.string (bs (be N n)))∧Below w.heap.size w w':=by
 go_enter Tryz.func122,Tryz.ntmps122
 go_wp2
 go_loopw [0,5,6] (fun m s i wr=>∃ k:Nat,k≤N∧i = .int .i64 k∧m = .int .u64 (n/256 ^ k:Nat)∧s = .string (bs (be k n))∧Below w.heap.size w wr) (fun _ _ i _=>N-(intOf i).toNat)
 case atStart=>exact⟨0,Nat.zero_le _,rfl,by simp,rfl,Below.refl _ _⟩
 case round =>
  obtain⟨k,hk,rfl,rfl,rfl,hbel⟩:=hrel
  by_cases hlt:k<N
  ·obtain⟨m,hm⟩:∃ m,n/256 ^ k=m:=⟨_,rfl⟩
   have hb:UInt8.ofNat m::be k n=be (k+1) n:=by rw[be,hm]
   have hm2:n/256 ^ (k+1)=m/256:=by rw[Nat.pow_succ,← Nat.div_div_eq_div_mul,hm]
   have hcv:=conv_one (m:=m)
   have hadd:∀ wx:World,(Op.stringOp .add (bs [UInt8.ofNat m]) (bs (be k n))).run Tryz.prog wx = .ok (.string (bs (be (k+1) n))) wx:=fun wx=>by
    have h:=run_string_add_sum (P:=Tryz.prog) (w:=wx) (bs [UInt8.ofNat m]) (bs (be k n)) (by rw[bs_size,bs_size,be_length];simp;omega)
    rw[bs_append,List.singleton_append,hb] at h
    exact h
   have hm64:m≤18446744073709551615:=by rw[← hm];exact Nat.le_trans (Nat.div_le_self _ _) (by omega)
   rw[hm]
   have Hm:=Lib.hid hm2
   clear hm hm2 hb
   go_wp2
   go_roundw
   case rel=>exact⟨k+1,by omega,by go_num,by rw[Hm.out];go_num,rfl,hbel.alloc hbel.size _⟩
   case measure=>simp[intOf];omega
  ·obtain rfl:k=N:=by omega
   go_wp2
   go_ret
   exact⟨rfl,hbel⟩
end
section
abbrev LvL := List (List Int)
def MayBe (L:LvL) : Prop:=L.length≤5∧L.flatten.length≤40∧(∀ x∈L.flatten,0≤x)∧L.flatten.Nodup
instance (L : LvL) : Decidable (MayBe L) := by unfold MayBe; infer_instance
def validL (L:LvL) : Bool:=decide (MayBe L)
def wideTo (L:LvL)(k:Nat) : LvL:=L.take k++List.replicate (5-k) []
def wideL (L:LvL) : LvL:=wideTo L L.length
def trimN (L:LvL) : Nat→Nat
 | 0=>0
 | n+1=>if L.getD n []=[] then trimN L n else n+1
def trimL (L:LvL) : LvL:=L.take (trimN L L.length)
def putLv (L:LvL)(k:Nat)(n:Int) : LvL:=L.set k (L.getD k []++[n])
def addLE (L:LvL)(n:Int) : Int:=if validL L=false∨n<0∨n∈L.flatten then 2 else if L.flatten.length=40 then 60 else 0
def addL (L:LvL)(n:Int) : LvL:=if addLE L n=0 then trimL (putLv (wideL L) 0 n) else []
def pickE (L:LvL)(k:Int) : Int:=if validL L=false∨k<0∨4<k then 2 else if (wideL L).getD k.toNat []=[] then 4 else 0
def pickL (L:LvL)(k:Int) : List Int:=if pickE L k=0 then(wideL L).getD k.toNat [] else []
def toL (k:Nat) : Nat:=if k<4 then k+1 else 4
def replE (L:LvL)(k n:Int) : Int:=if pickE L k≠0 then pickE L k else if n<0∨n∈L.flatten then 2 else 0
def replL (L:LvL)(k n:Int) : LvL:=if replE L k n=0 then trimL (putLv ((wideL L).set k.toNat []) (toL k.toNat) n) else []
theorem wideTo_length {L:LvL}{k:Nat}(hk:k≤L.length)(h:L.length≤5) : (wideTo L k).length=5:=by
 unfold wideTo
 rw[List.length_append,List.length_take,List.length_replicate]
 omega
theorem wideL_length {L:LvL}(h:L.length≤5) : (wideL L).length=5:=wideTo_length (Nat.le_refl _) h
theorem flatten_empty (n:Nat) : (List.replicate n ([]:List Int)).flatten=[]:=by
 induction n with
 | zero=>rfl
 | succ n ih=>rw[List.replicate_succ,List.flatten_cons,ih];rfl
theorem wideL_flatten (L:LvL) : (wideL L).flatten=L.flatten:=by
 unfold wideL wideTo
 rw[List.take_length,List.flatten_append,flatten_empty,List.append_nil]
theorem wideL_getD (L:LvL)(k:Nat) : (wideL L).getD k []=L.getD k []:=by
 unfold wideL wideTo
 rw[List.take_length,List.getD_eq_getElem?_getD,List.getD_eq_getElem?_getD]
 rcases Nat.lt_or_ge k L.length with h | h
 ·rw[List.getElem?_append_left h]
 ·rw[List.getElem?_append_right h,List.getElem?_eq_none h]
  rcases Nat.lt_or_ge (k-L.length) (5-L.length) with h2 | h2
  ·rw[List.getElem?_eq_getElem (by rw[List.length_replicate];exact h2),List.getElem_replicate]
   rfl
  ·rw[List.getElem?_eq_none (by rw[List.length_replicate];exact h2)]
theorem trimN_le (L:LvL) : ∀ n,trimN L n≤n
 | 0=>Nat.le_refl _
 | n+1=>by
   unfold trimN
   split
   ·exact Nat.le_succ_of_le (trimN_le L n)
   ·exact Nat.le_refl _
theorem trimN_flatten (L:LvL) : ∀ n,n≤L.length→(L.take (trimN L n)).flatten=(L.take n).flatten
 | 0,_=>rfl
 | n+1,h=>by
   unfold trimN
   split
   ·rename_i e
    rw[trimN_flatten L n (by omega),List.take_add_one,List.getElem?_eq_getElem (by omega),List.flatten_append]
    rw[List.getD_eq_getElem?_getD,List.getElem?_eq_getElem (by omega)] at e
    have e':L[n]=[]:=e
    rw[e']
    simp
   ·rfl
theorem trimL_flatten (L:LvL) : (trimL L).flatten=L.flatten:=by
 unfold trimL
 rw[trimN_flatten L _ (Nat.le_refl _),List.take_length]
theorem trimL_length (L:LvL) : (trimL L).length≤L.length:=by unfold trimL;rw[List.length_take];omega
theorem putLv_length (L:LvL)(k:Nat)(n:Int) : (putLv L k n).length=L.length:=List.length_set
theorem putL_perm {L:LvL}{k:Nat}(n:Int)(h:k<L.length) : (putLv L k n).flatten.Perm (n::L.flatten):=by
 unfold putLv
 rw[List.set_eq_take_append_cons_drop,if_pos h,List.getD_eq_getElem?_getD,List.getElem?_eq_getElem h]
 have e:L.flatten=(L.take k).flatten++(L[k]++(L.drop (k+1)).flatten):=by
  conv=>lhs;rw[← List.take_append_drop k L,List.flatten_append,List.drop_eq_getElem_cons h,List.flatten_cons]
 rw[e,List.flatten_append,List.flatten_cons]
 show((L.take k).flatten++((L[k]++[n])++(L.drop (k+1)).flatten)).Perm _
 have e2:(L.take k).flatten++((L[k]++[n])++(L.drop (k+1)).flatten)=((L.take k).flatten++L[k])++n::(L.drop (k+1)).flatten:=by simp
 rw[e2]
 refine List.perm_middle.trans ?_
 rw[List.append_assoc]
theorem setLv_sub {L:LvL}{k:Nat}(h:k<L.length) : (L.set k []).flatten.Sublist L.flatten∧(L.set k []).flatten.length+(L.getD k []).length=L.flatten.length:=by
 rw[List.set_eq_take_append_cons_drop,if_pos h,List.getD_eq_getElem?_getD,List.getElem?_eq_getElem h]
 have e:L.flatten=(L.take k).flatten++(L[k]++(L.drop (k+1)).flatten):=by
  conv=>lhs;rw[← List.take_append_drop k L,List.flatten_append,List.drop_eq_getElem_cons h,List.flatten_cons]
 rw[e,List.flatten_append,List.flatten_cons,List.nil_append]
 refine⟨List.Sublist.append_left (List.sublist_append_right _ _) _, ?_⟩
 simp only[List.length_append,Option.getD_some]
 omega
theorem toL_lt (k:Nat) : toL k<5:=by unfold toL;split<;>omega
theorem addL_ok {L:LvL}{n:Int}(h:addLE L n=0) : MayBe (addL L n)∧(addL L n).flatten.length=L.flatten.length+1∧∀ x∈(addL L n).flatten,x=n∨x∈L.flatten:=by
 have h':=h
 unfold addLE at h'
 split at h'
 ·cases h'
 ·rename_i c
  split at h'
  ·cases h'
  ·rename_i c2
   have hv:MayBe L:=of_decide_eq_true (by cases hq:validL L with | true=>exact hq | false=>exact absurd (Or.inl hq) c)
   have hn:¬ n<0:=fun e=>c (Or.inr (Or.inl e))
   have hm:n ∉ L.flatten:=fun e=>c (Or.inr (Or.inr e))
   unfold addL
   rw[if_pos h]
   have hl:=wideL_length hv.1
   have hp:=putL_perm n (L:=wideL L) (k:=0) (by omega)
   rw[wideL_flatten] at hp
   rw[← trimL_flatten (putLv (wideL L) 0 n)] at hp
   have hlen:=hp.length_eq
   rw[List.length_cons] at hlen
   refine⟨⟨?_, ?_,fun x hx=>?_,hp.nodup_iff.2 (List.nodup_cons.2 ⟨hm,hv.2.2.2⟩)⟩,hlen,fun x hx=>?_⟩
   ·have:=trimL_length (putLv (wideL L) 0 n)
    rw[putLv_length] at this
    omega
   ·have:=hv.2.1
    omega
   ·rcases List.mem_cons.1 (hp.mem_iff.1 hx) with e | e
    ·omega
    ·exact hv.2.2.1 x e
   ·exact List.mem_cons.1 (hp.mem_iff.1 hx)
theorem pickE_ok {L:LvL}{k:Int}(h:pickE L k=0) : MayBe L∧0≤k∧k≤4∧pickL L k=L.getD k.toNat []∧0<(pickL L k).length:=by
 have h':=h
 unfold pickE at h'
 split at h'
 ·cases h'
 ·rename_i c
  split at h'
  ·cases h'
  ·rename_i c2
   have e:pickL L k=(wideL L).getD k.toNat []:=by unfold pickL;rw[if_pos h]
   refine⟨of_decide_eq_true (by cases hq:validL L with | true=>exact hq | false=>exact absurd (Or.inl hq) c), ?_, ?_,by rw[e,wideL_getD],by rw[e];exact List.length_pos_iff.2 c2⟩
   ·exact Int.not_lt.1 fun e=>c (Or.inr (Or.inl e))
   ·exact Int.not_lt.1 fun e=>c (Or.inr (Or.inr e))
theorem replL_ok {L:LvL}{k n:Int}(h:replE L k n=0) : MayBe (replL L k n)∧(replL L k n).flatten.length+(pickL L k).length=L.flatten.length+1∧∀ x∈(replL L k n).flatten,x=n∨x∈L.flatten:=by
 have h':=h
 unfold replE at h'
 split at h'
 ·rename_i c;exact absurd h' c
 ·rename_i c
  split at h'
  ·cases h'
  ·rename_i c2
   obtain⟨hv,k0,k4,hpl,-⟩:=pickE_ok (L:=L) (k:=k) (by omega)
   have hn:¬ n<0:=fun e=>c2 (Or.inl e)
   have hm:n ∉ L.flatten:=fun e=>c2 (Or.inr e)
   unfold replL
   rw[if_pos h]
   have hl:=wideL_length hv.1
   obtain⟨hs,hsl⟩:=setLv_sub (L:=wideL L) (k:=k.toNat) (by omega)
   rw[wideL_getD,← hpl,wideL_flatten] at hsl
   rw[wideL_flatten] at hs
   have hp:=putL_perm n (L:=(wideL L).set k.toNat []) (k:=toL k.toNat) (by rw[List.length_set,hl];exact toL_lt _)
   rw[← trimL_flatten (putLv ((wideL L).set k.toNat []) (toL k.toNat) n)] at hp
   have hlen:=hp.length_eq
   rw[List.length_cons] at hlen
   have hpos:0<(pickL L k).length:=(pickE_ok (L:=L) (k:=k) (by omega)).2.2.2.2
   refine⟨⟨?_, ?_,fun x hx=>?_,hp.nodup_iff.2 (List.nodup_cons.2 ⟨fun e=>hm (hs.subset e),hs.nodup hv.2.2.2⟩)⟩,by omega,fun x hx=>?_⟩
   ·have:=trimL_length (putLv ((wideL L).set k.toNat []) (toL k.toNat) n)
    rw[putLv_length,List.length_set] at this
    omega
   ·have:=hv.2.1
    omega
   ·rcases List.mem_cons.1 (hp.mem_iff.1 hx) with e | e
    ·omega
    ·exact hv.2.2.1 x (hs.subset e)
   ·rcases List.mem_cons.1 (hp.mem_iff.1 hx) with e | e
    ·exact Or.inl e
    ·exact Or.inr (hs.subset e)
def StepsOk (s:List Int)(m:Nat) : Prop:=∀ i,i<m→0≤s.getD i 0∧(0<i→s.getD i 0≠s.getD (i-1) 0)
def sortI (l:List Int) : List Int:=l.mergeSort fun x y=>decide (x≤y)
theorem sortI_length (l:List Int) : (sortI l).length=l.length:=(List.mergeSort_perm l _).length_eq
theorem sortI_rise (l:List Int) : ∀ i j:Nat,(hi:i<(sortI l).length)→(hj:j<(sortI l).length)→i<j→(sortI l)[i]≤(sortI l)[j]:=by
 have h:=List.pairwise_mergeSort (le:=fun x y:Int=>decide (x≤y)) (fun a b c h1 h2=>by simp at *;omega) (fun a b=>by simp;omega) l
 intro i j hi hj hij
 exact of_decide_eq_true (List.pairwise_iff_getElem.1 h i j hi hj hij)
theorem stepsOk_iff (l:List Int) : StepsOk (sortI l) (sortI l).length↔(∀ x∈l,0≤x)∧l.Nodup:=by
 have hp:(sortI l).Perm l:=List.mergeSort_perm l _
 have hr:=sortI_rise l
 constructor
 ·intro h
  refine⟨fun x hx=>?_,hp.nodup_iff.1 ?_⟩
  ·obtain⟨i,hi,rfl⟩:=List.getElem_of_mem (hp.mem_iff.2 hx)
   have:=(h i hi).1
   rwa [List.getD_eq_getElem?_getD,List.getElem?_eq_getElem hi] at this
  ·refine List.pairwise_iff_getElem.2 fun i j hi hj hij=>?_
   have h1:=(h j hj).2 (by omega)
   rw[List.getD_eq_getElem?_getD,List.getElem?_eq_getElem hj,List.getD_eq_getElem?_getD,List.getElem?_eq_getElem (show j-1<(sortI l).length by omega)] at h1
   have h1':(sortI l)[j]≠(sortI l)[j-1]:=h1
   have h2:=hr (j-1) j (by omega) hj (by omega)
   have h3:(sortI l)[i]≤(sortI l)[j-1]:=by
    rcases Nat.lt_or_ge i (j-1) with c | c
    ·exact hr i (j-1) hi (by omega) c
    ·have:i=j-1:=by omega
     subst this
     exact Int.le_refl _
   omega
 ·rintro ⟨h1,h2⟩ i hi
  refine⟨?_,fun h0=>?_⟩
  ·rw[List.getD_eq_getElem?_getD,List.getElem?_eq_getElem hi]
   exact h1 _ (hp.mem_iff.1 (List.getElem_mem hi))
  ·rw[List.getD_eq_getElem?_getD,List.getElem?_eq_getElem hi,List.getD_eq_getElem?_getD,List.getElem?_eq_getElem (show i-1<(sortI l).length by omega)]
   have:=List.pairwise_iff_getElem.1 (hp.nodup_iff.2 h2) (i-1) i (by omega) hi (by omega)
   exact fun e=>this e.symm
def FirstsOk (s:List Int)(m:Nat) : Prop:=∀ i x,i<m→s[i]? = some x→0≤x∧x ∉ s.take i
theorem firstsOk_iff (l:List Int) : FirstsOk l l.length↔(∀ x∈l,0≤x)∧l.Nodup:=by
 constructor
 ·intro h
  refine⟨fun x hx=>?_,List.pairwise_iff_getElem.2 fun i j hi hj hij e=>?_⟩
  ·obtain⟨i,hi⟩:=List.getElem?_of_mem hx
   exact(h i x (List.getElem?_eq_some_iff.1 hi).1 hi).1
  ·refine(h j l[j] hj (List.getElem?_eq_getElem hj)).2 ?_
   rw[← e]
   refine List.mem_of_getElem? (i:=i) ?_
   rw[List.getElem?_take,if_pos hij,List.getElem?_eq_getElem hi]
 ·rintro ⟨h1,h2⟩ i x hi hx
  refine⟨h1 x (List.mem_of_getElem? hx),fun hm=>?_⟩
  obtain⟨j,hj⟩:=List.getElem?_of_mem hm
  rw[List.getElem?_take] at hj
  split at hj
  ·rename_i hji
   obtain⟨hi',ex⟩:=List.getElem?_eq_some_iff.1 hx
   obtain⟨hj',ey⟩:=List.getElem?_eq_some_iff.1 hj
   exact List.pairwise_iff_getElem.1 h2 j i hj' hi' hji (ey.trans ex.symm)
  ·cases hj
end
section
open Go.RowKit Go.Shelf
def AtEnd (K:Nat)(w:World)(e:Ending)(w':World) : Prop:=e = .returned (.int .i64 (K:Nat))∧Below w.heap.size w w'
set_option maxHeartbeats 1000000 in
set_option maxRecDepth 100000 in
theorem ssearch_any (f:FuncId)(p1 p2:Value)(n K:Nat)(w:World)(hn:n≤1000000)(hKn:K≤n)(hE:Enters Tryz.prog f)
  (hc:∀ (i:Nat) (W:World),i<n→Below w.heap.size w W→Calls Tryz.prog f #[.int .i64 (i:Nat),p1,p2] W fun e W'=>e = .returned (.bool (decide (K≤i)))∧Below W.heap.size W W') :
  Calls Tryz.prog 110 #[.int .i64 (n:Nat),.func (.func f) #[] #[p1,p2]] w (AtEnd K w):=by
 have HC:=Lib.hid hc
 unfold Enters at hE
 clear hc
 go_enter Tryz.func110,Tryz.ntmps110
 go_wp2
 go_loopw [5,6] (fun lo hi wr=>∃ a b:Nat,a≤K∧K≤b∧b≤n∧lo = .int .i64 a∧hi = .int .i64 b∧Below w.heap.size w wr) (fun lo hi _=>(intOf hi).toNat-(intOf lo).toNat)
 case atStart=>exact⟨0,n,Nat.zero_le _,hKn,Nat.le_refl _,rfl,rfl,Below.refl _ _⟩
 case round =>
  obtain⟨a,b,hak,hkb,hbn,rfl,rfl,hbel⟩:=hrel
  by_cases hlt:a<b
  ·obtain⟨d,hd⟩:∃ d,d=(a+b)/2:=⟨_,rfl⟩
   have hd1:a≤d:=by omega
   have hd2:d<b:=by omega
   have s1:(a:Int)<(b:Int):=by omega
   have hm:((a:Int)+(b:Int))/2=(d:Int):=by omega
   have hdn:d<n:=by omega
   have hd3:(d:Int)≤1000000:=by omega
   have hcl:=HC.out d wr hdn hbel
   cases hq:decide (K≤d)
   all_goals
    rw[hq] at hcl
    have HCL:=Lib.hid hcl
    have HQ:=Lib.hid hq
    have HD:=Lib.hid hd
    clear hq hcl hd
    go_wp2_with fail
    refine HCL.out.mono ?_
    rintro e w2 ⟨rfl,hb2⟩
    have hbel2:=bj hbel hb2
    clear hbel hb2
    go_wp2
    go_roundw
    case rel =>
     first
     | exact⟨d+1,b,by have:=of_decide_eq_false HQ.out;omega,hkb,hbn,by go_num,rfl,hbel2⟩
     | exact⟨a,d,hak,of_decide_eq_true HQ.out,by omega,rfl,by go_num,hbel2⟩
    case measure=>simp[intOf];omega
  ·obtain rfl:a=b:=by omega
   obtain rfl:a=K:=by omega
   go_wp2
   go_ret
   exact⟨rfl,hbel⟩
end
section
open Go.RowKit
def RowOf (mk:Nat→Value)(w:World)(v:Value)(l:List Nat) : Prop :=
 (l=[]∧∃ a cap,v = .slice a 0 cap) ∨
 (0<l.length∧∃ b off cap,v = .slice (some ⟨b,off,none⟩) l.length cap∧l.length≤cap∧b<w.heap.size∧∀ i,i<l.length→w.cell? ⟨b,off+i,none⟩=some (mk (l.getD i 0)))
def u64V (n:Nat) : Value:=.int .u64 (n:Int)
theorem RowOf.of_owns {w:World}{base:Nat}{e:TypeId}{v:Value}{l:List Nat}(mk:Nat→Value)(h:w.ownsRow base e 1 v l.length (l.map mk)) : RowOf mk w v l:=by
 have h':=h
 rcases h.2 with⟨hv,h0⟩ | ⟨g,cap,cur,hv,hg,hh,hn,hm,hsz,ht⟩
 ·exact Or.inl ⟨List.length_eq_zero_iff.1 h0,none,0,hv⟩
 ·by_cases hl:l=[]
  ·subst hl
   exact Or.inl ⟨rfl,_,_,hv⟩
  ·refine Or.inr ⟨List.length_pos_iff.2 hl,g,0,cap,hv,hn, ?_,fun i hi=>?_⟩
   ·obtain⟨hlt,_⟩:=Array.getElem?_eq_some_iff.1 hh
    exact hlt
   ·rw[hv] at h'
    rw[Nat.zero_add,h'.cellAt i (by omega),List.getElem?_map,List.getD_eq_getElem?_getD,List.getElem?_eq_getElem hi]
    rfl
theorem words_at {l:List Nat}(h:Words l)(k:Nat) : l.getD k 0<18446744073709551616:=by
 by_cases hk:k<l.length
 ·rw[List.getD_eq_getElem?_getD,List.getElem?_eq_getElem hk];exact h _ (List.getElem_mem hk)
 ·rw[List.getD_eq_getElem?_getD,List.getElem?_eq_none (by omega)];exact(by decide:(0:Nat)<18446744073709551616)
theorem take_next (l:List Nat)(k:Nat)(h:k<l.length) : l.take (k+1)=l.take k++[l.getD k 0]:=by
 rw[List.take_add_one,List.getElem?_eq_getElem h,List.getD_eq_getElem?_getD,List.getElem?_eq_getElem h]
 rfl
theorem f_lt {a b:Nat}(ha:a<18446744073709551616)(hb:b<18446744073709551616) : (FloatKind.f64.format.order a b==some Ordering.lt)=(!nanB a&&!nanB b&&decide (sr a<sr b)):=by
 show(Ieee.double.order a b==some Ordering.lt)=_
 rw[order_eq ha hb]
 cases nanB a<;>cases nanB b<;>simp[compare,compareOfLessAndEq]
 by_cases h:sr a<sr b
 ·simp[h]
 ·by_cases h2:sr a=sr b<;>simp[h,h2]
theorem f_eq {a b:Nat}(ha:a<18446744073709551616)(hb:b<18446744073709551616) : (FloatKind.f64.format.order a b==some Ordering.eq)=(!nanB a&&!nanB b&&decide (sr a=sr b)):=by
 show(Ieee.double.order a b==some Ordering.eq)=_
 rw[order_eq ha hb]
 cases nanB a<;>cases nanB b<;>simp[compare,compareOfLessAndEq]
 by_cases h:sr a<sr b
 ·have:¬ sr a=sr b:=by omega
  simp[h,this]
 ·by_cases h2:sr a=sr b<;>simp[h2,h]
theorem f_self {a:Nat}(ha:a<18446744073709551616) : (FloatKind.f64.format.order a a==some Ordering.eq) = !nanB a:=by
 rw[f_eq ha ha]
 cases nanB a<;>simp
theorem f_ne {a b:Nat} : (FloatKind.f64.format.order a b != some Ordering.eq) = !(FloatKind.f64.format.order a b==some Ordering.eq):=rfl
theorem f_le {a b:Nat}(ha:a<18446744073709551616)(hb:b<18446744073709551616) : (FloatKind.f64.format.order a b==some Ordering.lt||FloatKind.f64.format.order a b==some Ordering.eq)=(!nanB a&&!nanB b&&decide (sr a≤sr b)):=by
 rw[f_lt ha hb,f_eq ha hb]
 cases nanB a<;>cases nanB b<;>simp
 by_cases h:sr a<sr b
 ·simp[h,Int.le_of_lt h]
 ·by_cases h2:sr a=sr b
  ·simp[h2]
  ·have h3:¬ sr a≤sr b:=by omega
   simp[h,h2,h3]
theorem isnan_f (b:Nat)(w:World)(hb:b<18446744073709551616) :
  Calls Tryz.prog 223 #[.float .f64 b] w fun e w'=>e = .returned (.bool (nanB b))∧w=w':=by
 have o1:(FloatKind.f64.format.order b b != some Ordering.eq)=nanB b:=by rw[f_ne,f_self hb];cases nanB b<;>rfl
 generalize nanB b=n at *
 clear hb
 go_enter Tryz.func223,Tryz.ntmps223
 go_wp2
 go_ret
 exact⟨rfl,rfl⟩
theorem half_le {b:Nat}(hb:b<18446744073709551616)(hn:nanB b=false)(k:Nat) :
  (FloatKind.f64.format.order (hw k) b==some Ordering.lt||FloatKind.f64.format.order (hw k) b==some Ordering.eq)=decide ((hw k:Int)≤sr b):=by
 rw[f_le (hw_word k) hb,hn,hw_nan,hw_sr]
 rfl
theorem half_run (t:TypeId)(k:Nat)(hk:k<17)(w:World) : (binOp .quo t (.float .f64 (hw k)) (.float .f64 4611686018427387904)).run Tryz.prog w = .ok (.float .f64 (hw (k+1))) w :=
 run_float_arith w .quo t .f64 _ _ _ (halved k hk)
set_option maxHeartbeats 1000000 in
theorem probes_num (b:Nat)(w:World)(hb:b<18446744073709551616)(hn:nanB b=false) :
  Calls Tryz.prog 189 #[.float .f64 b] w fun e w'=>∃ n:Nat,e = .returned (.int .i64 n)∧LeastHalf (sr b) n∧w=w':=by
 have h1:=Lib.hid (fun w=>isnan_f b w hb)
 have h2:=Lib.hid (half_le hb hn)
 rw[hn] at h1
 clear hb hn
 generalize sr b=s at *
 go_enter Tryz.func189,Tryz.ntmps189
 go_wp2_with fail
 go_step3
 go_wp2_with fail
 refine(h1.out _).mono ?_
 rintro e w' ⟨rfl,rfl⟩
 go_wp2
 go_step3
 go_wp2
 go_loopw [3,4] (fun p h wr=>∃ k:Nat,1≤k∧k≤16∧p = .int .i64 k∧h = .float .f64 (hw k)∧(∀ j,1≤j→j<k→s<hw j)∧wr=w) (fun p _ _=>17-(intOf p).toNat)
 case atStart=>exact⟨1,by omega,by omega,rfl,by rw[hw_one],fun j _ _=>by omega,rfl⟩
 case round =>
  obtain⟨k,k1,k2,rfl,rfl,hall,rfl⟩:=hrel
  by_cases hlt:k<16
  ·have s1:(k:Int)<16:=by omega
   have o1:=h2.out k
   have H:=Lib.hid (half_run 23 k (by omega) wr)
   have Hall:=Lib.hid hall
   clear hall
   obtain⟨d,hd⟩:∃ d,decide ((hw k:Int)≤s)=d:=⟨_,rfl⟩
   rw[hd] at o1
   have Hd:=Lib.hid hd
   clear hd
   have hx:=H.out
   cases d
   ·have G:=Lib.hid (show hw (k+1)=hw (k+1) from rfl)
    obtain⟨x,hxk⟩:∃ x,x=hw k:=⟨_,rfl⟩
    obtain⟨y,hyk⟩:∃ y,y=hw (k+1):=⟨_,rfl⟩
    rw[← hxk,← hyk] at hx
    rw[← hxk] at o1 ⊢
    have X:=Lib.hid hxk
    have Y:=Lib.hid hyk
    clear hxk hyk H G
    go_wp2
    go_roundw
    case rel =>
     refine⟨k+1,by omega,by omega,by go_num,by rw[Y.out],fun j j1 j2=>?_,by trivial⟩
     rcases Nat.lt_or_ge j k with c | c
     ·exact Hall.out j j1 c
     ·obtain rfl:j=k:=by omega
      have:=of_decide_eq_false Hd.out
      omega
    case measure=>simp[intOf];omega
   ·obtain⟨x,hxk⟩:∃ x,x=hw k:=⟨_,rfl⟩
    rw[← hxk] at o1 ⊢
    have X:=Lib.hid hxk
    clear hx H hxk
    go_wp2
    (try rw[Exit.noGoto_ret])
    go_ret
    exact⟨k,rfl,⟨k1,k2,Hall.out,Or.inr (of_decide_eq_true Hd.out)⟩,rfl⟩
  ·obtain rfl:k=16:=by omega
   have Hall:=Lib.hid hall
   clear hall
   generalize hw 16=x at *
   go_wp2
   (try rw[Exit.noGoto_ret])
   go_ret
   exact⟨16,rfl,⟨by omega,by omega,Hall.out,Or.inl rfl⟩,rfl⟩
theorem probes_nan (b:Nat)(w:World)(hb:b<18446744073709551616)(hn:nanB b=true) :
  Calls Tryz.prog 189 #[.float .f64 b] w fun e w'=>e = .returned (.int .i64 4)∧w=w':=by
 have h1:=Lib.hid (fun w=>isnan_f b w hb)
 rw[hn] at h1
 clear hb hn
 go_enter Tryz.func189,Tryz.ntmps189
 go_wp2_with fail
 go_step3
 go_wp2_with fail
 refine(h1.out _).mono ?_
 rintro e w' ⟨rfl,rfl⟩
 go_wp2
 (try rw[Exit.noGoto_ret])
 go_ret
 exact⟨rfl,rfl⟩
theorem probes_any (b:Nat)(w:World)(hb:b<18446744073709551616) :
  Calls Tryz.prog 189 #[.float .f64 b] w fun e w'=>∃ n:Nat,e = .returned (.int .i64 n)∧ProbesOf b n∧w=w':=by
 unfold ProbesOf
 cases hn:nanB b
 ·refine(probes_num b w hb hn).mono ?_
  rintro e w' ⟨n,he,h,hw⟩
  exact⟨n,he,by rw[if_neg (by decide)];exact h,hw⟩
 ·refine(probes_nan b w hb hn).mono ?_
  rintro e w' ⟨he,hw⟩
  exact⟨4,he,by rw[if_pos rfl],hw⟩
theorem within_n (n:Int)(w:World) :
  Calls Tryz.prog 224 #[.int .i64 n,.int .i64 0,.int .i64 10000] w fun e w'=>e = .returned (.int .i64 (cN n:Nat))∧w=w':=by
 have hc:(n<0∧(cN n:Int)=0)∨(0≤n∧10000<n∧(cN n:Int)=10000)∨(0≤n∧n≤10000∧(cN n:Int)=n):=by unfold cN;split;omega;split<;>omega
 rcases hc with⟨c1,e⟩ | ⟨c1,c2,e⟩ | ⟨c1,c2,e⟩
 all_goals
  rw[e]
  clear e
  go_enter Tryz.func224,Tryz.ntmps224
  go_wp2
  go_ret
  exact⟨rfl,rfl⟩
theorem within_k (n:Int)(w:World) :
  Calls Tryz.prog 224 #[.int .i64 n,.int .i64 1,.int .i64 16] w fun e w'=>e = .returned (.int .i64 (cK n:Nat))∧w=w':=by
 have hc:(n<1∧(cK n:Int)=1)∨(1≤n∧16<n∧(cK n:Int)=16)∨(1≤n∧n≤16∧(cK n:Int)=n):=by unfold cK;split;omega;split<;>omega
 rcases hc with⟨c1,e⟩ | ⟨c1,c2,e⟩ | ⟨c1,c2,e⟩
 all_goals
  rw[e]
  clear e
  go_enter Tryz.func224,Tryz.ntmps224
  go_wp2
  go_ret
  exact⟨rfl,rfl⟩
theorem pages_any (n k:Int)(w:World) :
  Calls Tryz.prog 190 #[.int .i64 n,.int .i64 k] w fun e w'=>e = .returned (.int .i64 (pagesS n k:Nat))∧w=w':=by
 have h1:=Lib.hid (fun w=>within_n n w)
 have h2:=Lib.hid (fun w=>within_k k w)
 have b1:=cN_le n
 have b2:=cK_le k
 unfold pagesS
 generalize cN n=a at *
 generalize cK k=b at *
 have hp:=prod_le b1 b2
 have hq:(a:Int)*(b:Int)=((a*b:Nat):Int):=by simp
 have hc:(480<a*b*3/2∧pagesN a b=(a*b*3/2+479)/480)∨(a*b*3/2≤480∧pagesN a b=1):=by unfold pagesN bitsS;split<;>omega
 generalize pagesN a b=r at *
 generalize a*b=p at *
 have s1:(p:Int)≤160000:=by omega
 have s2:(p:Int)*3≤480000:=by omega
 have s3:(0:Int)≤(p:Int)*3:=by omega
 rcases hc with⟨c1,rfl⟩ | ⟨c1,rfl⟩
 all_goals
  go_enter Tryz.func190,Tryz.ntmps190
  go_wp2_with fail
  refine(h1.out _).mono ?_
  rintro e w' ⟨rfl,rfl⟩
  go_wp2_with fail
  refine(h2.out _).mono ?_
  rintro e w' ⟨rfl,rfl⟩
  go_wp2
  go_ret
  exact⟨ret_int (by omega),rfl⟩
end
end Go.Proofs.YtcpfkaehefcakaaGreat
