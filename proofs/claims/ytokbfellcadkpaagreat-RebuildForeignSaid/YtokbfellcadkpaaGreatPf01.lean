/- ZfBase, ZfOwn, ZfSrc, ZfBytes, ZfIntsDef, ZfLvMath, ZfMtSearch, ZfFloatFrom -/
import Derived.Test.YtokbfellcadkpaaGreatProg
import Derived.WalkKit
import Derived.WalkLawsBesides
import Derived.WalkSpells
import Derived.LoopTactic
import Derived.Lib.Hide
import Derived.Laws.BitsAllLaws
import Derived.Laws.BitsLemmas
import Derived.Laws.IdiomStrings
import Derived.Deep.OwnRows
import Derived.Deep.QuietTactic
import Derived.BigQuiet
import Derived.RegionTactic
import Derived.ChangeAlike
import Derived.OpenShut
import Derived.Below
import Derived.Laws.OwnMore
import Derived.Deep.Draws
import Derived.Maps.AppendAt
import Derived.Shelf.Abstract
import Derived.WalkMore
import Derived.Laws.Externs
namespace Go.Proofs.YtokbfellcadkpaaGreat
set_option maxRecDepth 100000
set_option linter.unusedVariables false
section
open Go.RowKit
theorem ret_int {k:IntKind}{a b:Int}(h:a=b) : Ending.returned (.int k a) = .returned (.int k b):=by rw[h]
theorem val_int {k:IntKind}{a b:Int}(h:a=b) : Value.int k a = .int k b:=by rw[h]
theorem ret_bool {a b:Bool}(h:a=b) : Ending.returned (.bool a) = .returned (.bool b):=by rw[h]
theorem below_drewN {B:Nat}{a w:World}(h:Below B a w)(n:Nat) : Below B a (w.drewN n):=⟨h.os,h.tape,h.output,h.size,h.block⟩
theorem bj {a b c:World}(h:Below a.heap.size a b)(k:Below b.heap.size b c) : Below a.heap.size a c:=h.trans (k.mono h.size)
end
end Go.Proofs.YtokbfellcadkpaaGreat
namespace Go.Proofs.YtokbfellcadkpaaGreat
open Go.RowKit
set_option linter.unusedVariables false
set_option maxRecDepth 100000
structure Touch (F:List Nat)(w w':World) : Prop where
 os:w'.os=w.os
 tape:w'.tape=w.tape
 output:w'.output=w.output
 size:w.heap.size≤w'.heap.size
 block:∀ b,b<w.heap.size→b ∉ F→w'.heap[b]? = w.heap[b]?
section
variable {F G : List Nat} {w a b c w' : World}
theorem Touch.refl (F:List Nat)(w:World) : Touch F w w:=⟨rfl,rfl,rfl,Nat.le_refl _,fun _ _ _=>rfl⟩
theorem Touch.trans (h:Touch F a b)(k:Touch G b c)(hG:∀ x∈G,x∈F∨a.heap.size≤x) : Touch F a c :=
 ⟨k.os.trans h.os,k.tape.trans h.tape,k.output.trans h.output,Nat.le_trans h.size k.size,fun x hx hn =>
  (k.block x (Nat.lt_of_lt_of_le hx h.size) (fun hg=>by rcases hG x hg with h1 | h1;exact hn h1;omega)).trans (h.block x hx hn)⟩
theorem Touch.more (h:Touch F a b)(hG:∀ x∈F,x∈G∨a.heap.size≤x) : Touch G a b :=
 ⟨h.os,h.tape,h.output,h.size,fun x hx hn=>h.block x hx (fun hf=>by rcases hG x hf with h1 | h1;exact hn h1;omega)⟩
theorem Touch.drew (h:Touch F a w) : Touch F a w.drew:=⟨h.os,h.tape,h.output,h.size,h.block⟩
theorem Touch.drewN (h:Touch F a w)(n:Nat) : Touch F a (w.drewN n):=⟨h.os,h.tape,h.output,h.size,h.block⟩
theorem Touch.alloc (h:Touch F a w)(o:Obj) : Touch F a (w.alloc o) :=
 h.trans (G:=[]) ⟨rfl,rfl,rfl,by simp,fun k hk _=>Below.heap_alloc _ _ _ hk⟩ (fun _ h=>by cases h)
theorem Touch.setCell (h:Touch F a w){p:Addr}(hp:p.block∈F∨a.heap.size≤p.block)(u:Value) : Touch F a (w.setCell p u) :=
 h.trans (G:=[p.block]) ⟨rfl,rfl,rfl,by simp[World.setCell],fun k _ hn=>Below.heap_setCell _ _ _ _ (fun e=>hn (by simp[e]))⟩ (fun x hx=>by
  obtain rfl:x=p.block:=by simpa using hx
  exact hp)
theorem Touch.grown (h:Touch F a w){row:Option Nat}(hg:w.grownBy w' row)(hr:∀ k,row=some k→k∈F∨a.heap.size≤k) : Touch F a w' :=
 h.trans (G:=row.toList) ⟨hg.os,hg.tape,hg.output,hg.size,fun k hk hn=>hg.block k hk (fun e=>hn (by rw[← e];simp))⟩ (fun x hx=>hr x (by simpa using hx))
theorem Touch.of_below (h:Below w.heap.size w w') : Touch [] w w':=⟨h.os,h.tape,h.output,h.size,fun k hk _=>h.block k hk⟩
theorem Touch.below (h:Touch F w w'){B:Nat}(hB:B≤w.heap.size)(hF:∀ x∈F,B≤x) : Below B w w' :=
 ⟨h.os,h.tape,h.output,h.size,fun k hk=>h.block k (by omega) (fun hf=>by have:=hF k hf;omega)⟩
theorem Touch.cell (h:Touch F w w'){p:Addr}(hp:p.block<w.heap.size)(hn:p.block ∉ F) : w'.cell? p=w.cell? p:=World.cell?_of_block (w:=w) (h.block p.block hp hn)
end
def Blok (w:World)(g:Nat)(t:TypeId)(cs:Array Value) : Prop:=w.heap[g]? = some (.cells cs t (0,0))
section
variable {F : List Nat} {w w' : World} {g : Nat} {t : TypeId} {cs : Array Value}
theorem Blok.lt (h:Blok w g t cs) : g<w.heap.size:=by
 rcases Nat.lt_or_ge g w.heap.size with hlt | hge
 ·exact hlt
 ·unfold Blok at h;rw[Array.getElem?_eq_none hge] at h;cases h
theorem Blok.cell (h:Blok w g t cs)(i:Nat) : w.cell? ⟨g,i,none⟩=cs[i]? := cell_of_row w g i cs t (0,0) h
theorem Blok.frozen (h:Blok w g t cs)(i:Nat) : w.frozen? ⟨g,i,none⟩=false:=frozen_of_row w g i cs t h
theorem Blok.new (w:World)(t:TypeId)(cs:Array Value) : Blok (w.alloc (.cells cs t)) w.heap.size t cs:=heap_alloc_new w _
theorem Blok.drew (h:Blok w g t cs) : Blok w.drew g t cs:=h
theorem Blok.drewN (h:Blok w g t cs)(n:Nat) : Blok (w.drewN n) g t cs:=h
theorem Blok.alloc (h:Blok w g t cs)(o:Obj) : Blok (w.alloc o) g t cs:=(Below.heap_alloc w o g h.lt).trans h
theorem Blok.put (h:Blok w g t cs)(i:Nat)(u:Value) : Blok (w.setCell ⟨g,i,none⟩ u) g t (cs.setIfInBounds i u):=heap_setCell_same w g i cs t u h
theorem Blok.far (h:Blok w g t cs){p:Addr}(hp:g≠p.block)(u:Value) : Blok (w.setCell p u) g t cs:=(heap_setCell_other w p g u hp).trans h
theorem Blok.touch (h:Blok w g t cs)(ht:Touch F w w')(hg:g ∉ F) : Blok w' g t cs:=(ht.block g h.lt hg).trans h
theorem Blok.type_ne {g':Nat}{t':TypeId}{cs':Array Value}(h:Blok w g t cs)(h':Blok w g' t' cs')(hne:t≠t') : g≠g':=by
 rintro rfl;unfold Blok at h h';rw[h] at h';injection h' with h';injection h' with _ ht;exact hne ht
end
section
variable {F : List Nat} {w w' : World} {base : Nat} {e : TypeId} {size n : Nat} {v : Value} {xs : List Value}
theorem own_touch (h:w.ownsRow base e size v n xs)(ht:Touch F w w')(hF:∀ b,v.ownBlock=some b→b ∉ F) : w'.ownsRow base e size v n xs:=by
 refine⟨h.1, ?_⟩;rcases h.2 with h0 | ⟨g,cap,cur,rfl,hb,hg,h1,h2,h3,h4⟩
 ·exact .inl h0
 ·have hlt:g<w.heap.size:=(h.lt g rfl).2;exact .inr ⟨g,cap,cur,rfl,hb,(ht.block g hlt (hF g rfl)).trans hg,h1,h2,h3,h4⟩
theorem own_far (h:w.ownsRow base e size v n xs){p:Addr}(hp:v.ownBlock≠some p.block)(u:Value) : (w.setCell p u).ownsRow base e size v n xs :=
 own_touch h (Touch.setCell (F:=[p.block]) (Touch.refl _ w) (Or.inl (by simp)) u) (fun b hb hm=>hp (by rw[hb];simpa using hm))
theorem own_ne {g:Nat}{t:TypeId}{cs:Array Value}(h:w.ownsRow base e size v n xs)(hg:Blok w g t cs)(hne:e≠t) : v.ownBlock≠some g:=by
 rcases h.2 with⟨rfl,_⟩ | ⟨g',cap,cur,rfl,_,hh,_⟩
 ·simp[Value.ownBlock]
 ·intro he;have:g'=g:=by simpa[Value.ownBlock] using he
  subst this;exact Blok.type_ne (show Blok w g' e cur from hh) hg hne rfl
theorem own_own_ne {base':Nat}{e':TypeId}{size' n':Nat}{v':Value}{xs':List Value}(h:w.ownsRow base e size v n xs)(h':w.ownsRow base' e' size' v' n' xs')(hne:e≠e') : ∀ b,v'.ownBlock=some b→v.ownBlock≠some b:=by
 intro b hb;rcases h'.2 with⟨rfl,_⟩ | ⟨g',cap,cur,rfl,_,hh,_⟩
 ·simp[Value.ownBlock] at hb
 ·obtain rfl:g'=b:=by simpa[Value.ownBlock] using hb
  exact own_ne h (show Blok w g' e' cur from hh) hne
theorem own_form (h:w.ownsRow base e size v n xs) : ∃ A cap,v = .slice A n cap∧n≤cap∧cap≤maxLen∧(0<n→∃ b,A=some ⟨b,0,none⟩∧base≤b∧b<w.heap.size)∧(A=none→n=0∧cap=0):=by
 rcases h.2 with⟨rfl,rfl⟩ | ⟨g,cap,cur,rfl,hb,hg,h1,h2,h3,h4⟩
 ·exact⟨none,0,rfl,Nat.le_refl _,Nat.zero_le _,fun h=>absurd h (by omega),fun _=>⟨rfl,rfl⟩⟩
 ·exact⟨_,cap,rfl,h1,h2,fun _=>⟨g,rfl,hb,(h.lt g rfl).2⟩,fun h=>by cases h⟩
end
end Go.Proofs.YtokbfellcadkpaaGreat
namespace Go.Proofs.YtokbfellcadkpaaGreat
open Go.RowKit
set_option linter.unusedVariables false
set_option maxRecDepth 100000
def SrcAt (w:World)(size:Nat)(v:Value)(m:Nat)(news:List Value) : Prop :=
 news.length=m*size∧((∃ c,v = .slice none 0 c∧m=0)∨∃ a c,v = .slice (some a) m c∧∀ j u,news[j]? = some u→w.cell? (a.add j)=some u)
section
variable {P : Program}
theorem run_append_src (w:World)(base:Nat)(t e:TypeId)(i:TypeInfo)(z:Value)(size bytes:Nat)(ty:TypeId)(ht:P.underlying t=some (.slice e))(hi:P.info? e=some i)(hz:i.zero=some z)
  (hsize:i.size=size) (hby:i.bytes=bytes) (hzs:z.cells.size=size) (hsz:0<size)
  (v:Value) (n:Nat) (xs:List Value) (hown:w.ownsRow base e size v n xs) (vx:Value) (m:Nat) (news:List Value) (hs:SrcAt w size vx m news) (h1:∀ u∈news,u.oneCell'=true)
  (h63:n+m≤maxLen) (hbytes:(n+m)*bytes≤140737488355328) (hbase:base≤w.heap.size) :
  ∃ v' w',(Builtin.append_ #[t,t] ty #[v,vx]).run P w = .ok v' w'∧w'.ownsRow base e size v' (n+m) (xs++news)∧w.grownBy w' v.ownBlock∧(v'.ownBlock=v.ownBlock∨v'.ownBlock=some w.heap.size):=by
 rcases hs.2 with⟨c,rfl,rfl⟩ | ⟨a,c,rfl,hc⟩
 ·have hn:news=[]:=List.eq_nil_of_length_eq_zero (by simpa using hs.1);subst hn;refine⟨v,w, ?_,by simpa using hown,⟨rfl,rfl,rfl,Nat.le_refl _,fun _ _ _=>rfl⟩,Or.inl rfl⟩;rcases hown.2 with⟨rfl,rfl⟩ | ⟨g,cap,cur,rfl,_,_,hnc,_⟩
  ·simp[Builtin.append_,run_underlying ht,sizeOf,typeInfo,hi,Builtin.lenOf,Builtin.firstCells]
  ·simp[Builtin.append_,run_underlying ht,sizeOf,typeInfo,hi,Builtin.lenOf,Builtin.firstCells,hnc,storeCells]
 ·obtain⟨v',w',e1,e2,e3,_,e5⟩:=run_append_own_at (P:=P) w base t ty e i z size bytes ht hi hz hsize hby hzs hsz v n xs hown a m c news hs.1 hc h1 h63 hbytes hbase;exact⟨v',w',e1,e2,e3,e5⟩
theorem step_append_run {ops:Array Oper}{o:Oper}{a:Act}{w w':World}{K:Act→World→Prop}{Q:Exit→Act→World→Prop}{E:Prop}{vs vx v':Value}(hgd:o.guard=none)(s x:Operand)(t:TypeId)
  (ho:o.op = .call { callee:=.builtin .append,args:=#[s,x],argTypes:=#[t,t] }) (hs:a.eval s=vs) (hx:a.eval x=vx)
  (hr:(Builtin.append_ #[t,t] o.type #[vs,vx]).run P w = .ok v' w') (h:K (a.put o.dst v') w'):if Region.wanted o (yielded ops a.tmps)=true then Oper.wp P o a w K Q else E:=by
 have hw:Region.wanted o (yielded ops a.tmps)=true:=by simp[Region.wanted,hgd]
 rw[if_pos hw];unfold Oper.wp execOp;simp only[ho,resolve,invoke,builtin,Sem.run_bind,Sem.run_pure,Result.andThen_ok,List.map_toArray,List.map_cons,List.map_nil,hs,hx,hr];exact h
end
theorem wpList_append_two {P:Program}{w w':World}{ops:Array Oper}{rest:List Oper}{o:Oper}{a:Act}{Q:Exit→Act→World→Prop}{vs vx v':Value}{t tx:TypeId}(hgd:o.guard=none)(s x:Operand)
  (ho:o.op = .call { callee:=.builtin .append,args:=#[s,x],argTypes:=#[t,tx] }) (hs:a.eval s=vs) (hx:a.eval x=vx) (hr:(Builtin.append_ #[t,tx] o.type #[vs,vx]).run P w = .ok v' w') (h:wpList P ops Q rest (a.put o.dst v') w'):wpList P ops Q (o::rest) a w:=by
 refine wpList_plain hgd fun K' hK'=>?_
 unfold Oper.wp execOp;simp only[ho,resolve,invoke,builtin,Sem.run_bind,Sem.run_pure,Result.andThen_ok,List.map_toArray,List.map_cons,List.map_nil,hs,hx,hr];exact hK' _ _ h
end Go.Proofs.YtokbfellcadkpaaGreat
namespace Go.Proofs.YtokbfellcadkpaaGreat
open Go.RowKit
set_option linter.unusedVariables false
set_option maxRecDepth 100000
def RowB (w:World)(b:Nat)(n:Nat)(f:Nat→Value) : Prop :=
 ∃ (c:Array Value) (t:TypeId) (fr:Nat × Nat),w.heap[b]? = some (.cells c t fr)∧n≤c.size∧(fr=(0,0)∨n≤fr.1)∧∀ i,i<n→c[i]? = some (f i)
namespace RowB
variable {w : World} {b n : Nat} {f g : Nat → Value}
theorem cell (h:RowB w b n f){i:Nat}(hi:i<n) : w.cell? ⟨b,i,none⟩=some (f i):=by
 obtain⟨c,t,fr,hb,_,_,hc⟩:=h;simp[World.cell?,hb,hc i hi]
theorem frozen (h:RowB w b n f){i:Nat}(hi:i<n) : w.frozen? ⟨b,i,none⟩=false:=by
 obtain⟨c,t,⟨lo,hi'⟩,hb,_,hf,_⟩:=h;rcases hf with hf | hf
 ·cases hf;simp[World.frozen?,hb]
 ·have hf':n≤lo:=hf;simp[World.frozen?,hb];omega
theorem lt (h:RowB w b n f) : b<w.heap.size:=by
 obtain⟨c,t,fr,hb,_⟩:=h;obtain⟨hlt,_⟩:=Array.getElem?_eq_some_iff.1 hb;exact hlt
theorem congr (h:RowB w b n f)(e:∀ i,i<n→f i=g i) : RowB w b n g:=by
 obtain⟨c,t,fr,hb,hn,hf,hc⟩:=h;exact⟨c,t,fr,hb,hn,hf,fun i hi=>by rw[hc i hi,e i hi]⟩
theorem of_block {w':World}(h:RowB w b n f)(e:w'.heap[b]? = w.heap[b]?) : RowB w' b n f:=by
 obtain⟨c,t,fr,hb,hn,hf,hc⟩:=h;exact⟨c,t,fr,e.trans hb,hn,hf,hc⟩
theorem below {w':World}(h:RowB w b n f)(hb:Below w.heap.size w w') : RowB w' b n f:=h.of_block (hb.block _ h.lt)
theorem set (h:RowB w b n f)(i:Nat)(v:Value) : RowB (w.setCell ⟨b,i,none⟩ v) b n (fun j=>if j=i then v else f j):=by
 obtain⟨c,t,fr,hb,hn,hf,hc⟩:=h;refine⟨c.setIfInBounds i v,t,fr, ?_,by simpa using hn,hf,fun j hj=>?_⟩
 ·simp[World.setCell,Array.getElem?_modify,hb]
 ·rw[Array.getElem?_setIfInBounds];by_cases e:j=i
  ·subst e;simp[show j<c.size by omega]
  ·rw[if_neg (fun h=>e h.symm)];show c[j]? = some (if j=i then v else f j);rw[if_neg e];exact hc j hj
end RowB
def u8At (l:List UInt8)(j:Nat) : Value:=.int .u8 ((l.getD j 0).toNat:Int)
theorem conv_out {w:World}{b n:Nat}{l:List UInt8}(h:RowB w b n (u8At l))(hl:l.length=n)(cap:Nat) : (convert 109 9 (.slice (some ⟨b,0,none⟩) n cap)).run Tryz.prog w = .ok (.string ⟨l.toArray⟩) w:=by
 have h:=run_convert_bytes_back (P:=Tryz.prog) w 109 9 5 ⟨b,0,none⟩ cap l Tryz.underlying109 Tryz.underlying5 Tryz.underlying9
  (fun j hj=>by
   have e:(⟨b,0,none⟩:Addr).add j=⟨b,j,none⟩:=by simp[Addr.add];omega
   rw[e,h.cell (by omega)];unfold u8At;rw[List.getD_eq_getElem?_getD,List.getElem?_eq_getElem hj];rfl)
 rw[hl] at h;exact h
end Go.Proofs.YtokbfellcadkpaaGreat
namespace Go.Proofs.YtokbfellcadkpaaGreat
set_option maxRecDepth 100000
set_option linter.unusedVariables false
section
open Go.RowKit
def IntsIn (w:World)(v:Value)(l:List Int) : Prop :=
 (l=[]∧∃ a c,v = .slice a 0 c)∨∃ b off cap,v = .slice (some ⟨b,off,none⟩) l.length cap∧l.length≤cap∧cap≤maxLen∧b<w.heap.size∧∀ i x,l[i]? = some x→w.cell? ⟨b,off+i,none⟩=some (.int .i64 x)
theorem IntsIn.cell {w:World}{v:Value}{l:List Int}(h:IntsIn w v l) : ∃ A off cap,v = .slice A l.length cap∧l.length≤maxLen∧∀ i x,l[i]? = some x→∃ b,A=some ⟨b,off,none⟩∧w.cell? ⟨b,off+i,none⟩=some (.int .i64 x):=by
 rcases h with⟨rfl,a,c,rfl⟩ | ⟨b,off,cap,h1,h2,h3,h4,h5⟩
 ·exact⟨a,0,c,rfl,Nat.zero_le _,fun i x h=>by simp at h⟩
 ·exact⟨some ⟨b,off,none⟩,off,cap,h1,by omega,fun i x hx=>⟨b,rfl,h5 i x hx⟩⟩
theorem IntsIn.below {w w':World}{v:Value}{l:List Int}{B:Nat}(h:IntsIn w v l)(hb:Below B w w')(hB:w.heap.size≤B) : IntsIn w' v l:=by
 rcases h with h | ⟨b,off,cap,rfl,h2,h3,h4,h5⟩
 ·exact Or.inl h
 ·exact Or.inr ⟨b,off,cap,rfl,h2,h3,Nat.lt_of_lt_of_le h4 hb.size,fun i x hx=>(hb.cell (p:=⟨b,off+i,none⟩) (Nat.lt_of_lt_of_le h4 hB)).trans (h5 i x hx)⟩
theorem info_int : (Tryz.prog.info? 3).map (fun i=>(i.zero,i.size,i.bytes))=some (some (.int .i64 0),1,8):=by kernel_rfl
end
section
abbrev LvL := List (List Int)
def MayBe (L:LvL) : Prop:=L.length≤5∧L.flatten.length≤40∧(∀ x∈L.flatten,0≤x)∧L.flatten.Nodup
instance (L : LvL) : Decidable (MayBe L) := by unfold MayBe; infer_instance
def validL (L:LvL) : Bool:=decide (MayBe L)
def wideTo (L:LvL)(k:Nat) : LvL:=L.take k++List.replicate (5-k) []
def wideL (L:LvL) : LvL:=wideTo L L.length
def trimN (L:LvL) : Nat→Nat
 | 0=>0
 | n+1=>if L.getD n []=[] then trimN L n else n+1
def trimL (L:LvL) : LvL:=L.take (trimN L L.length)
def putLv (L:LvL)(k:Nat)(n:Int) : LvL:=L.set k (L.getD k []++[n])
def addLE (L:LvL)(n:Int) : Int:=if validL L=false∨n<0∨n∈L.flatten then 2 else if L.flatten.length=40 then 60 else 0
def addL (L:LvL)(n:Int) : LvL:=if addLE L n=0 then trimL (putLv (wideL L) 0 n) else []
theorem wideTo_length {L:LvL}{k:Nat}(hk:k≤L.length)(h:L.length≤5) : (wideTo L k).length=5:=by
 unfold wideTo;rw[List.length_append,List.length_take,List.length_replicate];omega
theorem wideL_length {L:LvL}(h:L.length≤5) : (wideL L).length=5:=wideTo_length (Nat.le_refl _) h
theorem flatten_empty (n:Nat) : (List.replicate n ([]:List Int)).flatten=[]:=by
 induction n with
 | zero=>rfl
 | succ n ih=>rw[List.replicate_succ,List.flatten_cons,ih];rfl
theorem wideL_flatten (L:LvL) : (wideL L).flatten=L.flatten:=by
 unfold wideL wideTo;rw[List.take_length,List.flatten_append,flatten_empty,List.append_nil]
theorem wideL_getD (L:LvL)(k:Nat) : (wideL L).getD k []=L.getD k []:=by
 unfold wideL wideTo;rw[List.take_length,List.getD_eq_getElem?_getD,List.getD_eq_getElem?_getD];rcases Nat.lt_or_ge k L.length with h | h
 ·rw[List.getElem?_append_left h]
 ·rw[List.getElem?_append_right h,List.getElem?_eq_none h];rcases Nat.lt_or_ge (k-L.length) (5-L.length) with h2 | h2
  ·rw[List.getElem?_eq_getElem (by rw[List.length_replicate];exact h2),List.getElem_replicate];rfl
  ·rw[List.getElem?_eq_none (by rw[List.length_replicate];exact h2)]
theorem trimN_le (L:LvL) : ∀ n,trimN L n≤n
 | 0=>Nat.le_refl _
 | n+1=>by
   unfold trimN;split
   ·exact Nat.le_succ_of_le (trimN_le L n)
   ·exact Nat.le_refl _
theorem trimN_flatten (L:LvL) : ∀ n,n≤L.length→(L.take (trimN L n)).flatten=(L.take n).flatten
 | 0,_=>rfl
 | n+1,h=>by
   unfold trimN;split
   ·rename_i e;rw[trimN_flatten L n (by omega),List.take_add_one,List.getElem?_eq_getElem (by omega),List.flatten_append];rw[List.getD_eq_getElem?_getD,List.getElem?_eq_getElem (by omega)] at e;have e':L[n]=[]:=e;rw[e'];simp
   ·rfl
theorem trimL_flatten (L:LvL) : (trimL L).flatten=L.flatten:=by
 unfold trimL;rw[trimN_flatten L _ (Nat.le_refl _),List.take_length]
theorem trimL_length (L:LvL) : (trimL L).length≤L.length:=by unfold trimL;rw[List.length_take];omega
theorem putLv_length (L:LvL)(k:Nat)(n:Int) : (putLv L k n).length=L.length:=List.length_set
theorem putL_perm {L:LvL}{k:Nat}(n:Int)(h:k<L.length) : (putLv L k n).flatten.Perm (n::L.flatten):=by
 unfold putLv;rw[List.set_eq_take_append_cons_drop,if_pos h,List.getD_eq_getElem?_getD,List.getElem?_eq_getElem h]
 have e:L.flatten=(L.take k).flatten++(L[k]++(L.drop (k+1)).flatten):=by
  conv=>lhs;rw[← List.take_append_drop k L,List.flatten_append,List.drop_eq_getElem_cons h,List.flatten_cons]
 rw[e,List.flatten_append,List.flatten_cons];show((L.take k).flatten++((L[k]++[n])++(L.drop (k+1)).flatten)).Perm _;have e2:(L.take k).flatten++((L[k]++[n])++(L.drop (k+1)).flatten)=((L.take k).flatten++L[k])++n::(L.drop (k+1)).flatten:=by simp
 rw[e2];refine List.perm_middle.trans ?_;rw[List.append_assoc]
theorem addL_ok {L:LvL}{n:Int}(h:addLE L n=0) : MayBe (addL L n)∧(addL L n).flatten.length=L.flatten.length+1∧∀ x∈(addL L n).flatten,x=n∨x∈L.flatten:=by
 have h':=h;unfold addLE at h';split at h'
 ·cases h'
 ·rename_i c;split at h'
  ·cases h'
  ·rename_i c2;have hv:MayBe L:=of_decide_eq_true (by cases hq:validL L with | true=>exact hq | false=>exact absurd (Or.inl hq) c);have hn:¬ n<0:=fun e=>c (Or.inr (Or.inl e))
   have hm:n ∉ L.flatten:=fun e=>c (Or.inr (Or.inr e))
   unfold addL;rw[if_pos h];have hl:=wideL_length hv.1;have hp:=putL_perm n (L:=wideL L) (k:=0) (by omega);rw[wideL_flatten] at hp;rw[← trimL_flatten (putLv (wideL L) 0 n)] at hp;have hlen:=hp.length_eq;rw[List.length_cons] at hlen;refine⟨⟨?_, ?_,fun x hx=>?_,hp.nodup_iff.2 (List.nodup_cons.2 ⟨hm,hv.2.2.2⟩)⟩,hlen,fun x hx=>?_⟩
   ·have:=trimL_length (putLv (wideL L) 0 n);rw[putLv_length] at this;omega
   ·have:=hv.2.1;omega
   ·rcases List.mem_cons.1 (hp.mem_iff.1 hx) with e | e
    ·omega
    ·exact hv.2.2.1 x e
   ·exact List.mem_cons.1 (hp.mem_iff.1 hx)
def StepsOk (s:List Int)(m:Nat) : Prop:=∀ i,i<m→0≤s.getD i 0∧(0<i→s.getD i 0≠s.getD (i-1) 0)
def sortI (l:List Int) : List Int:=l.mergeSort fun x y=>decide (x≤y)
theorem sortI_length (l:List Int) : (sortI l).length=l.length:=(List.mergeSort_perm l _).length_eq
theorem sortI_rise (l:List Int) : ∀ i j:Nat,(hi:i<(sortI l).length)→(hj:j<(sortI l).length)→i<j→(sortI l)[i]≤(sortI l)[j]:=by
 have h:=List.pairwise_mergeSort (le:=fun x y:Int=>decide (x≤y)) (fun a b c h1 h2=>by simp at *;omega) (fun a b=>by simp;omega) l;intro i j hi hj hij;exact of_decide_eq_true (List.pairwise_iff_getElem.1 h i j hi hj hij)
theorem stepsOk_iff (l:List Int) : StepsOk (sortI l) (sortI l).length↔(∀ x∈l,0≤x)∧l.Nodup:=by
 have hp:(sortI l).Perm l:=List.mergeSort_perm l _;have hr:=sortI_rise l;constructor
 ·intro h;refine⟨fun x hx=>?_,hp.nodup_iff.1 ?_⟩
  ·obtain⟨i,hi,rfl⟩:=List.getElem_of_mem (hp.mem_iff.2 hx);have:=(h i hi).1
   rwa [List.getD_eq_getElem?_getD,List.getElem?_eq_getElem hi] at this
  ·refine List.pairwise_iff_getElem.2 fun i j hi hj hij=>?_
   have h1:=(h j hj).2 (by omega);rw[List.getD_eq_getElem?_getD,List.getElem?_eq_getElem hj,List.getD_eq_getElem?_getD,List.getElem?_eq_getElem (show j-1<(sortI l).length by omega)] at h1;have h1':(sortI l)[j]≠(sortI l)[j-1]:=h1;have h2:=hr (j-1) j (by omega) hj (by omega)
   have h3:(sortI l)[i]≤(sortI l)[j-1]:=by
    rcases Nat.lt_or_ge i (j-1) with c | c
    ·exact hr i (j-1) hi (by omega) c
    ·have:i=j-1:=by omega
     subst this;exact Int.le_refl _
   omega
 ·rintro ⟨h1,h2⟩ i hi;refine⟨?_,fun h0=>?_⟩
  ·rw[List.getD_eq_getElem?_getD,List.getElem?_eq_getElem hi];exact h1 _ (hp.mem_iff.1 (List.getElem_mem hi))
  ·rw[List.getD_eq_getElem?_getD,List.getElem?_eq_getElem hi,List.getD_eq_getElem?_getD,List.getElem?_eq_getElem (show i-1<(sortI l).length by omega)];have:=List.pairwise_iff_getElem.1 (hp.nodup_iff.2 h2) (i-1) i (by omega) hi (by omega);exact fun e=>this e.symm
end
section
open Go.RowKit Go.Shelf
def AtEnd (K:Nat)(w:World)(e:Ending)(w':World) : Prop:=e = .returned (.int .i64 (K:Nat))∧Below w.heap.size w w'
set_option maxHeartbeats 1000000 in
set_option maxRecDepth 100000 in
theorem ssearch_any (f:FuncId)(p1 p2:Value)(n K:Nat)(w:World)(hn:n≤1000000)(hKn:K≤n)(hE:Enters Tryz.prog f)
  (hc:∀ (i:Nat) (W:World),i<n→Below w.heap.size w W→Calls Tryz.prog f #[.int .i64 (i:Nat),p1,p2] W fun e W'=>e = .returned (.bool (decide (K≤i)))∧Below W.heap.size W W') :
  Calls Tryz.prog 135 #[.int .i64 (n:Nat),.func (.func f) #[] #[p1,p2]] w (AtEnd K w):=by
 have HC:=Lib.hid hc;unfold Enters at hE;clear hc;go_enter Tryz.func135,Tryz.ntmps135;go_wp2;go_loopw [5,6] (fun lo hi wr=>∃ a b:Nat,a≤K∧K≤b∧b≤n∧lo = .int .i64 a∧hi = .int .i64 b∧Below w.heap.size w wr) (fun lo hi _=>(intOf hi).toNat-(intOf lo).toNat)
 case atStart=>exact⟨0,n,Nat.zero_le _,hKn,Nat.le_refl _,rfl,rfl,Below.refl _ _⟩
 case round =>
  obtain⟨a,b,hak,hkb,hbn,rfl,rfl,hbel⟩:=hrel;by_cases hlt:a<b
  ·obtain⟨d,hd⟩:∃ d,d=(a+b)/2:=⟨_,rfl⟩
   have hd1:a≤d:=by omega
   have hd2:d<b:=by omega
   have s1:(a:Int)<(b:Int):=by omega
   have hm:((a:Int)+(b:Int))/2=(d:Int):=by omega
   have hdn:d<n:=by omega
   have hd3:(d:Int)≤1000000:=by omega
   have hcl:=HC.out d wr hdn hbel;cases hq:decide (K≤d)
   all_goals
    rw[hq] at hcl;have HCL:=Lib.hid hcl;have HQ:=Lib.hid hq;have HD:=Lib.hid hd;clear hq hcl hd;go_wp2_with fail;refine HCL.out.mono ?_;rintro e w2 ⟨rfl,hb2⟩;have hbel2:=bj hbel hb2;clear hbel hb2;go_wp2;go_roundw
    case rel =>
     first
     | exact⟨d+1,b,by have:=of_decide_eq_false HQ.out;omega,hkb,hbn,by go_num,rfl,hbel2⟩
     | exact⟨a,d,hak,of_decide_eq_true HQ.out,by omega,rfl,by go_num,hbel2⟩
    case measure=>simp[intOf];omega
  ·obtain rfl:a=b:=by omega
   obtain rfl:a=K:=by omega
   go_wp2;go_ret;exact⟨rfl,hbel⟩
end
section
open Go.RowKit
theorem frombits_run (b:Nat)(w:World) : (callFunc 282 #[.int .u64 (b:Nat)]).run Tryz.prog w = .ok (.value (.float .f64 b)) w:=by
 rw[run_callFunc_extern Tryz.func282 (by kernel_rfl) (by kernel_rfl) (by kernel_rfl) (e:=Extern.MathFloatBits.float64frombits) (by kernel_rfl)];rfl
end
end Go.Proofs.YtokbfellcadkpaaGreat
