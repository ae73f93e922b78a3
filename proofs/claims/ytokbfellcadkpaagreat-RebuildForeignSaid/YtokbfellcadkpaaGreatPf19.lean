/- ZfImApi, ZfImUse, ZfImStrs -/
import Derived.Test.YtokbfellcadkpaaGreatPf10
import Derived.Test.YtokbfellcadkpaaGreatPf05
import Derived.Test.YtokbfellcadkpaaGreatPf18
import Derived.Deep.Fields
import Derived.ChangeSame
import Derived.Test.YtokbfellcadkpaaGreatPf06
import Derived.Test.YtokbfellcadkpaaGreatPf01
import Derived.Test.YtokbfellcadkpaaGreatPf17
import Derived.Test.YtokbfellcadkpaaGreatPf08
import Derived.BigQuiet
import Derived.WalkMore
namespace Go.Proofs.YtokbfellcadkpaaGreat
open Go.RowKit
set_option linter.unusedVariables false
set_option maxRecDepth 100000
def Holds (w0:World)(E:List Nat)(w:World)(v:Value)(R:LvL) : Prop:=∀ W,Below w0.heap.size w0 W→Kept E w W→LvsHas W v R
section
variable {At : Lies} {w0 w w' : World} {gd : Nat} {D : DiskS} {E E' : List Nat} {v : Value} {R : LvL}
theorem Holds.now (h:Holds w0 E w v R)(hd:DS At w0 gd D E w) : LvsHas w v R:=h w hd.kept (Kept.refl _ _)
theorem Holds.step (h:Holds w0 E w v R)(hk:Kept E w w') : Holds w0 E w' v R:=fun W hb k=>h W hb (hk.trans k)
end
def ImLoadEnd (At:Lies)(w0:World)(gd:Nat)(D:DiskS)(E:List Nat)(w:World)(e:Ending)(w':World) : Prop :=
 ∃ (x0 x1:Int) (x2:Nat) (A:Option Addr) (n c:Nat) (R:LvL),e = .returned (.tuple #[manV x0 x1 x2 (.slice A n c),.int .i64 (loadE D)])∧loadM D=⟨x0,x1,x2,R⟩∧n=R.length∧LvsHas w' (.slice A n c) R∧R.length≤300∧R.flatten.length≤100000∧x2<18446744073709551616∧DS At w0 gd (loadD D) E w'∧Kept E w w'
def ImOrphEnd (At:Lies)(w0:World)(gd:Nat)(D:DiskS)(m:ManS)(E:List Nat)(w:World)(e:Ending)(w':World) : Prop :=
 ∃ v,e = .returned v∧StrsAt w' v (orphL (D.l.map FileS.name) m)∧DS At w0 gd D (ownL v++E) w'∧Kept E w w'
structure ImApi (At:Lies) : Prop where
 load:∀ {w0 w:World} {gd:Nat} {D:DiskS} {E:List Nat},DS At w0 gd D E w→WfP D→D.count≤1099511627776 →
  Calls Tryz.prog 86 #[ptr gd] w (ImLoadEnd At w0 gd D E w)
 loadn:∀ (w:World),Calls Tryz.prog 86 #[.pointer none] w fun e w'=>(∃ (x0 x1:Int) (x2:Nat) (A:Option Addr) (n c:Nat),e = .returned (.tuple #[manV x0 x1 x2 (.slice A n c),.int .i64 1]))∧Below w.heap.size w w'
 swap:∀ {w0 w:World} {gd:Nat} {D:DiskS} {E:List Nat} (n c:Int) (d:Nat) (A:Option Addr) (k cp:Nat) (R:LvL),DS At w0 gd D E w→WfP D→Holds w0 E w (.slice A k cp) R→k=R.length→R.flatten.length≤100000→R.length≤100000→d<18446744073709551616 →
  Calls Tryz.prog 164 #[ptr gd,manV n c d (.slice A k cp)] w (DEnd At w0 gd (err (swapP D ⟨n,c,d,R⟩).1) (swapP D ⟨n,c,d,R⟩).2 E w)
 swapn:∀ (n c:Int) (d:Nat) (A:Option Addr) (k cp:Nat) (w:World),Calls Tryz.prog 164 #[.pointer none,manV n c d (.slice A k cp)] w fun e w'=>e = .returned (err 1)∧Below w.heap.size w w'
 orphans:∀ {w0 w:World} {gd:Nat} {D:DiskS} {E:List Nat} (n c:Int) (d:Nat) (A:Option Addr) (k cp:Nat) (R:LvL),DS At w0 gd D E w→WfP D→Holds w0 E w (.slice A k cp) R→k=R.length→R.flatten.length≤100000→R.length≤100000 →
  Calls Tryz.prog 89 #[ptr gd,manV n c d (.slice A k cp)] w (ImOrphEnd At w0 gd D ⟨n,c,d,R⟩ E w)
 orphansn:∀ (n c:Int) (d:Nat) (A:Option Addr) (k cp:Nat) (R:LvL) (w:World),LvsHas w (.slice A k cp) R→R.flatten.length≤100000→R.length≤100000→Calls Tryz.prog 89 #[.pointer none,manV n c d (.slice A k cp)] w fun e w'=>(∃ A' c',e = .returned (.slice A' 0 c'))∧Below w.heap.size w w'
 clean:∀ {w0 w:World} {gd:Nat} {D:DiskS} {E:List Nat} (n c:Int) (d:Nat) (A:Option Addr) (k cp:Nat) (R:LvL),DS At w0 gd D E w→WfP D→Holds w0 E w (.slice A k cp) R→k=R.length→R.flatten.length≤100000→R.length≤100000 →
  Calls Tryz.prog 31 #[ptr gd,manV n c d (.slice A k cp)] w (DEnd At w0 gd (err (cleanP D ⟨n,c,d,R⟩).1) (cleanP D ⟨n,c,d,R⟩).2 E w)
 cleann:∀ (n c:Int) (d:Nat) (A:Option Addr) (k cp:Nat) (w:World),Calls Tryz.prog 31 #[.pointer none,manV n c d (.slice A k cp)] w fun e w'=>e = .returned (err 1)∧Below w.heap.size w w'
theorem im_new {At:Lies}(api:DiskApi At)(w:World)(c:Nat)(hc:c≤1048576) : Calls Tryz.prog 7 #[.int .i64 (c:Nat)] w fun e w'=>∃ g,e = .returned (.tuple #[ptr g,.int .i64 0])∧DS At w g (newS c) [] w':=by
 refine(api.new_ w.heap.size c w (Nat.le_refl _) hc).mono ?_;rintro e w' ⟨g,F,h1,h2,h3,h4⟩;exact⟨g,h1,F,h2,h4.below (Nat.le_refl _) (fun x hx=>(by cases hx)),fun b hb=>(by cases hb)⟩
end Go.Proofs.YtokbfellcadkpaaGreat
namespace Go.Proofs.YtokbfellcadkpaaGreat
open Go.RowKit
set_option linter.unusedVariables false
set_option maxRecDepth 100000
theorem StrsAt.own {w:World}{v:Value}{l:List ByteArray}(h:StrsAt w v l) : ∀ b∈ownL v,b<w.heap.size∨l=[]:=by
 intro b hb;rcases h with⟨rfl,-⟩ | ⟨g,off,cap,rfl,-,-,hlt,-⟩
 ·exact Or.inr rfl
 ·have hv:=ownL_mem.1 hb;obtain rfl:g=b:=by simpa[Value.ownBlock] using hv
  exact Or.inl hlt
section
variable {At : Lies} (api : DiskApi At) {w0 w : World} {gd : Nat} {D : DiskS} {E : List Nat}
include api
theorem im_names (h:DS At w0 gd D E w)(ok:WfP D) : Calls Tryz.prog 48 #[ptr gd] w fun e w'=>∃ v B,e = .returned v∧StrsAt w' v (D.l.map FileS.name)∧DS At w0 gd D (B++E) w'∧Kept E w w'∧(D.l≠[]→∀ b∈ownL v,b∈B):=by
 obtain⟨F,h1,h2,h3⟩:=h;refine(api.names h1 ok.ok).mono ?_;rintro e w' ⟨F',v,e1,e2,e3,e4,e5,e6⟩;have hk:Kept E w w':=⟨e6.size,fun b hb=>e6.block b (h3 b hb).2 (h3 b hb).1⟩
 have hold:∀ b∈E,b ∉ F'∧b<w'.heap.size:=fun b hb=>⟨fun hm=>by
  rcases e5 b hm with k | k
  ·exact(h3 b hb).1 k
  ·have:=(h3 b hb).2;omega,Nat.lt_of_lt_of_le (h3 b hb).2 e6.size⟩
 have hbel:=h2.trans (e6.below h2.size (fun x hx=>(api.low h1 x hx).1));by_cases hl:D.l=[]
 ·exact⟨v,[],e1,e2,⟨F',e4,hbel,hold⟩,hk,fun h=>absurd hl h⟩
 ·refine⟨v,ownL v,e1,e2,⟨F',e4,hbel,fun b hb=>?_⟩,hk,fun _ b hb=>hb⟩;rcases List.mem_append.1 hb with hb | hb
  ·have hv:=ownL_mem.1 hb;rcases e2.own b hb with h | h
   ·exact⟨(e3 b hv).2,h⟩
   ·exact absurd (List.map_eq_nil_iff.1 h) hl
  ·exact hold b hb
end
theorem rd_new (c:Nat) : rdW (newS c) mapN=(ByteArray.empty,4,newS c):=rdW_none rfl rfl
theorem load_new4 (c:Nat) : loadE (newS c)=4∧loadD (newS c)=newS c:=by
 unfold loadE loadD;rw[rd_new];exact⟨rfl,rfl⟩
theorem DS.box {At:Lies}(api:DiskApi At){w0 w:World}{gd:Nat}{D:DiskS}{E:List Nat}(h:DS At w0 gd D E w)(o:Obj) : DS At w0 gd D E (w.alloc o):=h.below api ((Below.refl w.heap.size w).alloc (Nat.le_refl _) o)
theorem Kept.ints {E:List Nat}{w w':World}{v:Value}{l:List Int}(h:Kept E w w')(hm:IntsIn w v l)(hE:∀ b∈ownL v,b∈E) : IntsIn w' v l:=by
 rcases hm with hm | ⟨b,off,cap,rfl,h1,h2,h3,h4⟩
 ·exact Or.inl hm
 ·exact Or.inr ⟨b,off,cap,rfl,h1,h2,Nat.lt_of_lt_of_le h3 h.size,fun i x hx=>(World.cell?_of_block (w:=w) (h.block b (hE b (ownL_mem.2 rfl)))).trans (h4 i x hx)⟩
end Go.Proofs.YtokbfellcadkpaaGreat
namespace Go.Proofs.YtokbfellcadkpaaGreat
set_option maxRecDepth 100000
set_option linter.unusedVariables false
section
open Go.ChangeShapes Go.WideShapes Go.ChangeAt Go.RowKit Go.Deep
abbrev strV (x:ByteArray) : Value:=.string x
theorem strV_one {l:List ByteArray} : ∀ u∈l.map strV,u.oneCell'=true:=by
 intro u hu;obtain⟨x,-,rfl⟩:=List.mem_map.1 hu;rfl
abbrev SRow (w:World)(base:Nat)(v:Value)(l:List ByteArray) : Prop:=w.ownsRow base 9 1 v l.length (l.map strV)
theorem SRow.nil (w:World)(base:Nat) : SRow w base (.slice none 0 0) []:=World.ownsRow_nil _ _ _ _
theorem SRow.in_ {w:World}{base:Nat}{v:Value}{l:List ByteArray}(h:SRow w base v l) : StrsAt w v l:=by
 have h':=h;rcases h.2 with⟨hv,h0⟩ | ⟨g,cap,cur,hv,hg,hh,hn,hm,hsz,ht⟩
 ·exact Or.inl ⟨List.length_eq_zero_iff.1 h0,none,0,hv⟩
 ·refine Or.inr ⟨g,0,cap,hv,hn,hm,(Array.getElem?_eq_some_iff.1 hh).1,fun i x hx=>?_⟩;have hi:i<l.length:=(List.getElem?_eq_some_iff.1 hx).1;rw[hv] at h';rw[Nat.zero_add];refine(h'.cellAt i (by omega)).trans ?_;show(l.map strV)[i]? = _;rw[List.getElem?_map,hx];rfl
theorem SRow.below {w w':World}{base B:Nat}{v:Value}{l:List ByteArray}(h:SRow w base v l)(hb:Below B w w')(hB:w.heap.size≤B) : SRow w' base v l:=by
 refine⟨h.1, ?_⟩;rcases h.2 with h0 | ⟨g,cap,cur,hv,hg,hh,r⟩
 ·exact Or.inl h0
 ·obtain⟨hlt,_⟩:=Array.getElem?_eq_some_iff.1 hh;exact Or.inr ⟨g,cap,cur,hv,hg,(hb.block g (Nat.lt_of_lt_of_le hlt hB)).trans hh,r⟩
theorem SRow.block {w:World}{base:Nat}{v:Value}{l:List ByteArray}(h:SRow w base v l) : ∀ k,v.ownBlock=some k→base≤k∧k<w.heap.size:=fun k hk=>h.lt k hk
theorem info_strs : (Tryz.prog.info? 9).map (fun i=>(i.zero,i.size,i.bytes))=some (some (.string ⟨#[]⟩),1,16):=by kernel_rfl
theorem StrsAt.src {w:World}{v:Value}{l:List ByteArray}(h:StrsAt w v l) : SrcAt w 1 v l.length (l.map strV):=by
 refine⟨by rw[List.length_map,Nat.mul_one], ?_⟩;rcases h with⟨rfl,a,c,rfl⟩ | ⟨b,off,cap,rfl,h2,h3,h4,h5⟩
 ·cases a with
  | none=>exact Or.inl ⟨c,rfl,rfl⟩
  | some a=>exact Or.inr ⟨a,c,rfl,fun j u hu=>by cases hu⟩
 ·refine Or.inr ⟨⟨b,off,none⟩,cap,rfl,fun j u hu=>?_⟩;rw[List.getElem?_map] at hu;obtain⟨x,hx,rfl⟩:=Option.map_eq_some_iff.1 hu;have ea:(⟨b,off,none⟩:Addr).add j=⟨b,off+j,none⟩:=by unfold Addr.add;split<;>simp_all
  rw[ea];exact h5 j x hx
theorem str_one (w:World)(x:ByteArray) : StrsAt (w.alloc (.cells #[Value.string x] 9)) (.slice (some ⟨w.heap.size,0,none⟩) 1 1) [x]:=by
 refine Or.inr ⟨w.heap.size,0,1,rfl,Nat.le_refl _,by unfold maxLen;omega,by simp,fun i y hy=>?_⟩
 match i,hy with
 | 0,hy =>
   obtain rfl:x=y:=by simpa using hy
   simp
theorem strs_append {w:World}{base:Nat}{vs vx:Value}{l m:List ByteArray}(hown:SRow w base vs l)(hsrc:StrsAt w vx m)(hl:l.length+m.length≤1000000)(hb:base≤w.heap.size)(ty:TypeId) :
  ∃ A c w',(Builtin.append_ #[103,103] ty #[vs,vx]).run Tryz.prog w = .ok (.slice A (l.length+m.length) c) w'∧SRow w' base (.slice A (l.length+m.length) c) (l++m)∧w.grownBy w' vs.ownBlock∧((Value.slice A (l.length+m.length) c).ownBlock=vs.ownBlock∨(Value.slice A (l.length+m.length) c).ownBlock=some w.heap.size):=by
 obtain⟨i0,hi,hz0,hz1,hz2⟩:=info_parts info_strs;obtain⟨v',w',e1,e2,e3,e4⟩:=run_append_src (P:=Tryz.prog) w base 103 9 i0 _ 1 16 ty Tryz.underlying103 hi hz0 hz1 hz2 rfl (by decide) vs l.length (l.map strV) hown vx m.length (m.map strV) hsrc.src strV_one (by unfold maxLen;omega) (by omega) hb;obtain⟨A,c,rfl,-,-,-⟩:=own_form e2;refine⟨A,c,w',e1, ?_,e3,e4⟩;unfold SRow;rw[List.map_append,List.length_append];exact e2
theorem sgrown_below {B:Nat}{w w':World}{v:Value}(h:w.grownBy w' v.ownBlock)(hB:B≤w.heap.size)(hv:∀ k,v.ownBlock=some k→B≤k) : Below B w w':=⟨h.os,h.tape,h.output,h.size,fun k hk=>h.block k (by omega) (fun e=>by have:=hv k e.symm;omega)⟩
theorem strs_more {w:World}{base n c:Nat}{A:Option Addr}{l:List ByteArray}{x:ByteArray}(hrow:SRow w base (.slice A n c) l)(hn:n=l.length)(hl:n+1≤1000000)(hb:base≤w.heap.size)(ty:TypeId) :
  ∃ w' u,(Builtin.append_ #[103,103] ty #[.slice A n c,.slice (some ⟨w.heap.size,0,none⟩) 1 1]).run Tryz.prog (w.alloc (.cells #[.string x] 9)) = .ok u w' ∧
   (∃ A' c',u = .slice A' (n+1) c'∧SRow w' base (.slice A' (n+1) c') (l++[x]))∧Below base w w':=by
 subst hn;have ha:=(Below.refl w.heap.size w).alloc (Nat.le_refl _) (.cells #[.string x] 9);have h1:=SRow.below hrow ha (Nat.le_refl _);obtain⟨A',c',w',e1,e2,e3,-⟩:=strs_append h1 (str_one w x) (by simpa using hl) (by simp;omega) ty;exact⟨w',_,e1,⟨A',c',rfl,e2⟩,((Below.refl base w).alloc hb _).trans (sgrown_below e3 (by simp;omega) (fun k hk=>(SRow.block h1 k hk).1))⟩
end
end Go.Proofs.YtokbfellcadkpaaGreat
