import Derived.Test.YthejglbnkmimjaaGreatPp06
import Derived.Test.YthejglbnkmimjaaGreatPp05
set_option linter.unusedVariables false
set_option maxRecDepth 100000
set_option maxHeartbeats 9000000
namespace Go.Proofs.YthejglbnkmimjaaGreat
open Tryz
section
def ptT(n:Int):Tw:=nmS 116 n
def ptB(n:Int):Tw:=nmS 98 n
theorem JO(c:UInt8)(n:Int):(nmS c n).size<=7:=by
 unfold nmS;split
 ·rw[jh,qk,fv];omega
 ·exact qH _
theorem oi(n:Int):(ptT n).size<=maxLen:=qR (JO 116 n) (by decide)
theorem Hv(n:Int):(ptB n).size<=maxLen:=qR (JO 98 n) (by decide)
def tV(r:Nat):Bool:=decide (r=0)||decide (r=4)
def bG(t:Tw)(l:List zn):Bool:=l.all fun x=>yR t x.h
theorem oo{t:Tw}{l:List zn}:bG t l=true↔∀x∈l,yR t x.h=true:=by unfold bG;rw[List.all_eq_true]
theorem Hy(l:List zn):bG ByteArray.empty l=true:=oo.2 fun x _=>Qe (rF (by decide)) _
def ldF(D:zr)(n:Int)(l:List zn):Tw:=if (rdW D (ptB n)).2.1=0/\bG (rdW D (ptB n)).1 l=true then(rdW D (ptB n)).1 else ByteArray.empty
theorem Hu(D:zr)(n:Int)(l:List zn):bG (ldF D n l) l=true:=by
 unfold ldF;split
 ·rename_i h;exact h.2
 ·exact Hy l
def jl(D:zr)(n:Int):Nat:=if D.down=true then 61 else if (rdW D (ptT n)).2.1≠0 then 90 else if ve (rdW D (ptT n)).1=false then 90 else 0
def gO(D:zr)(n:Int):zr:=if D.down=true then D else if (rdW D (ptT n)).2.1≠0 then(rdW D (ptT n)).2.2 else if ve (rdW D (ptT n)).1=false then(rdW D (ptT n)).2.2 else(rdW (rdW D (ptT n)).2.2 (ptB n)).2.2
def ow(e:Nat):Nat:=if e=0 then 0 else if e=61 then 61 else 90
def pQ(D:zr)(n:Int):Nat:=ow (jQ D (ptT n)).2
def bW(l:List zn)(t:Tw)(h:Nat):Bool:=decide (0<l.length)&&yR t h
def pcP(s:Tw)(i:Nat):Tw:=s.extract (24*i) (24*i+24)
def okP(s:Tw)(m:Nat):Bool:=(List.range m).all fun i=>vc (pcP s i)
def cN(s:Tw)(m:Nat):List zn:=(List.range m).map fun i=>enG (pcP s i)
theorem JP{s:Tw}{m:Nat}:okP s m=true↔∀i,i<m->vc (pcP s i)=true:=by unfold okP;rw[List.all_eq_true];simp
theorem Hb(s:Tw)(m:Nat):(cN s m).length=m:=by unfold cN;rw[qj,List.length_range]
def cO(s:Tw):Tw:=bs (List.replicate 8 0++s.data.toList)
theorem JR(s:Tw)(i:Nat):yX (cO s) i=pcP s i:=by
 unfold yX pcP cO;rw[gF,gF,rA,show 8+24*i=(List.replicate 8 (0:UInt8)).length+24*i by rw[List.length_replicate],List.drop_length_add_append,show 32+24*i-((List.replicate 8 (0:UInt8)).length+24*i)=24 by rw[List.length_replicate];omega,show 24*i+24-24*i=24 by omega]
theorem Hf(s:Tw)(m:Nat):yD (cO s) m=cN s m:=by
 unfold yD cN;simp only[JR]
theorem JS{s:Tw}{lo hi i:Nat}(a:i<hi-lo):pcP (s.extract (8+24*lo) (8+24*hi)) i=yX s (lo+i):=by
 unfold pcP yX
 rw[gF,gF s,gF s,rA,List.drop_take,List.take_take,List.drop_drop,show 24*i+24-24*i=24 by omega,show 32+24*(lo+i)-(8+24*(lo+i))=24 by omega,
  show 8+24*lo+24*i=8+24*(lo+i) by omega,Nat.min_eq_left (by omega)]
theorem Hh{s:Tw}(h:ve s=true){lo hi:Nat}(a:hi<=(tgL s).length):okP (s.extract (8+24*lo) (8+24*hi)) (hi-lo)=true/\cN (s.extract (8+24*lo) (8+24*hi)) (hi-lo)=((tgL s).drop lo).take (hi-lo):=by
 obtain⟨f,g,j,k,m,b,o⟩:=dw.1 h;rw[(oU h).1]at a ⊢;rw[oG]at a;refine⟨JP.2 fun i d=>by rw[JS d];exact b _ (by omega), ?_⟩;apply List.ext_getElem?;intro i;unfold cN;rw[qz,List.getElem?_take,List.getElem?_drop];by_cases c:i<hi-lo
 ·rw[qK c,List.getElem?_range c,Ga _ (by omega)];show some (enG (pcP _ i))=_;rw[JS c]
 ·rw[qJ c,List.getElem?_eq_none (by rw[List.length_range];omega)];rfl
theorem JT{s:Tw}(h:ve s=true):jj (tgL s)/\(∀x∈tgL s,mayE x=true)/\s.size=12+24*(tgL s).length:=by
 obtain⟨d,f,g,a,i,b,c⟩:=dw.1 h;rw[(oU h).1,oG];exact⟨Xd c,Ge s b,a⟩
theorem Hl(s:Tw):∀x:Tw,vP (enG x):=by
 intro x;unfold enG;split
 ·rename_i h;have:=of_decide_eq_true h;exact⟨mX _,by simp only;omega,by simp only;omega,by simp only;omega,by simp only;omega⟩
 ·exact⟨by decide,by decide,by decide,by decide,by decide⟩
theorem J0(s:Tw):∀x∈tgL s,vP x:=by
 intro x a;unfold tgL yD at a;split at a
 ·obtain⟨i,_,rfl⟩:=qN.1 a;exact Hl s _
 ·cases a
theorem Hn{q:zn->Bool}{l:List zn}{lo hi:Nat}(h:∀(i:Nat) (x:zn),l[i]? = some x->q x=true->lo<=i/\i<hi):l.filter q=((l.drop lo).take (hi-lo)).filter q:=by
 have e:l=l.take lo++((l.drop lo).take (hi-lo)++(l.drop lo).drop (hi-lo)):=by rw[ql,ql]
 have d:(l.take lo).filter q=[]:=List.filter_eq_nil_iff.2 fun y c b=>by
  obtain⟨j,a⟩:=List.getElem?_of_mem c;have g:=(qM.1 a).1;rw[qq]at g;rw[List.getElem?_take,qK (by omega)]at a;have:=(h j y a b).1;omega
 have f:((l.drop lo).drop (hi-lo)).filter q=[]:=List.filter_eq_nil_iff.2 fun y c b=>by
  obtain⟨j,a⟩:=List.getElem?_of_mem c;rw[List.getElem?_drop,List.getElem?_drop]at a;have:=(h _ y a b).2;omega
 conv=>lhs;rw[e]
 rw[List.filter_append,List.filter_append,d,f,List.nil_append,List.append_nil]
theorem tY{l:List zn}(h:jj l)(lo m:Nat):jj ((l.drop lo).take m):=List.Pairwise.take (List.Pairwise.drop h)
theorem J1{l:List zn}{lo m i:Nat}:((l.drop lo).take m)[i]? = if i<m then l[lo+i]? else none:=by rw[List.getElem?_take,List.getElem?_drop]
theorem J2{l:List zn}{lo m:Nat}{x:zn}(h:x∈(l.drop lo).take m):x∈l:=List.mem_of_mem_drop (List.mem_of_mem_take h)
theorem Hp{y:zn}{h:Nat}{v:Int}(a:mayE y=true):jE y ⟨h,v,0⟩=yn h v y:=by
 have:=of_decide_eq_true a;unfold jE yn;rw[decide_eq_decide];simp only;omega
theorem Hr(h:Nat)(v:Int)(y:zn):yn h (v+1) y=va h v y:=by
 unfold yn va;rw[decide_eq_decide];omega
theorem tU{l:List zn}(a:∀x∈l,mayE x=true)(h:Nat)(v:Int):l.countP (fun y=>jE y ⟨h,v,0⟩)=l.countP (yn h v):=List.countP_congr fun y b=>by rw[Hp (a y b)]
theorem J3(l:List zn)(h:Nat)(v:Int):l.countP (yn h (v+1))=l.countP (va h v):=List.countP_congr fun y a=>by rw[Hr]
theorem J4{l:List zn}(d:jj l){h:Nat}{a b:Int}{lo hi:Nat}(g:lo<=l.countP (yn h a))(j:l.countP (va h b)<=hi):kZ ((l.drop lo).take (hi-lo)) h a b=kZ l h a b:=by
 unfold kZ;refine(Hn fun i x f c=>?_).symm;have c:=of_decide_eq_true c;have c1:=di (Xl h a) d i x f;have c2:=di (sX h b) d i x f;constructor
 ·have:yn h a x=false:=qG (by omega);rw[this]at c1;have:=of_decide_eq_false c1.symm;omega
 ·have:va h b x=true:=qW (by omega);rw[this]at c2;have:=of_decide_eq_true c2.symm;omega
theorem Hs{l:List zn}(g:jj l){h:Nat}{a b:Int}{lo hi:Nat}(c:lo<=l.countP (yn h a))(d:l.countP (va h b)<=hi)(f:hi<=lo):kZ l h a b=[]:=by
 rw[<-J4 g c d,Nat.sub_eq_zero_of_le f];rfl
theorem vm.zV{q:zn->Bool}{l:List zn}{k lo hi:Nat}(h:vm q l k)(b:lo<=k):vm q ((l.drop lo).take (hi-lo)) (k-lo):=by
 intro i x a;rw[J1]at a;split at a
 ·rw[h _ x a,decide_eq_decide];omega
 ·cases a
theorem Ha{l:List zn}(c:jj l){h:Nat}{b:Int}{lo hi:Nat}(i:lo-1<=l.countP (va h b)-1)(j:lo<=l.countP (va h b))(m:l.countP (va h b)<=hi)(o:hi<=l.length):bS ((l.drop (lo-1)).take (hi-(lo-1))) h b=bS l h b:=by
 have a:=di (sX h b) c;generalize l.countP (va h b)=K at*;cases K with
 | zero =>
   have hw:=vm.zV (lo:=lo-1) (hi:=hi) a (by omega);rw[show 0-(lo-1)=0 by omega]at hw;rw[sV a,sV hw]
 | succ k =>
   have hw:=vm.zV (lo:=lo-1) (hi:=hi) a (by omega);have g:k<l.length:=(by omega);have d:l[k]? = some l[k]:=qD g;have f:((l.drop (lo-1)).take (hi-(lo-1)))[k-(lo-1)]? = some l[k]:=(by rw[J1,qK (by omega),show lo-1+(k-(lo-1))=k by omega];exact d);rw[show k+1-(lo-1)=k-(lo-1)+1 by omega]at hw;by_cases e:(l[k]).h=h
   ·rw[sJ a d e,sJ hw f e]
   ·rw[sK c a d e,sK (tY c _ _) hw f e]
theorem J5{t:Tw}{l:List zn}(k:bG t l=true){h:Nat}(f:bW l t h=false)(a b:Int):kZ l h a b=[]/\bS l h b=none:=by
 have g:∀x∈l,¬x.h=h:=fun x d e=>by
  have i:=oo.1 k x d;have j:0<l.length:=List.length_pos_of_mem d;unfold bW at f;rw[qW j,<-e,i]at f;cases f
 exact⟨List.filter_eq_nil_iff.2 fun x d m=>g x d (of_decide_eq_true m).1,sZ fun x d=>qG fun c=>g x d c.1⟩
end
section
open Go.RowKit
def mo(At:jK)(w0:World)(gd:Nat)(l:List zn)(r:Nat)(D':zr)(E:List Nat)(w:World)(e:Ending)(w':World):Prop :=
 ∃A c,e = .returned (.tuple #[.slice A l.length c,.int .i64 (r:Nat)])/\jC w' w.heap.size (.slice A l.length c) l/\DS At w0 gd D' (jA (.slice A l.length c)++E) w'/\zt E w w'
section
variable {E E':List Nat}{w w' w'':World}
theorem zt.row{base:Nat}{v:Value}{l:List zn}(h:zt E w w')(a:jC w base v l)(j:∀b∈jA v,b∈E):jC w' base v l:=by
 refine⟨a.1, ?_⟩;rcases a.2 with i|⟨g,d,f,c,k,m,r⟩
 ·exact qX i
 ·exact qY ⟨g,d,f,c,k,(h.block g (j g (jq.2 (by rw[c];rfl)))).trans m,r⟩
theorem zt.xf{v:Value}{l:List kL}(h:zt E w w')(a:uG w v l)(m:∀b∈jA v,b∈E):uG w' v l:=by
 rcases a with a|⟨b,off,c,rfl,d,f,g,k⟩
 ·exact qX a
 ·exact qY ⟨b,off,c,rfl,d,f,qP g h.size,fun i x p j u o=>(World.cell?_of_block (w:=w) (h.block b (m b (jq.2 rfl)))).trans (k i x p j u o)⟩
theorem zt.xJ{v:Value}{l:List zn}(h:zt E w w')(a:jb w v l)(m:∀b∈jA v,b∈E):jb w' v l:=by
 rcases a with a|⟨b,off,c,rfl,d,f,g,k⟩
 ·exact qX a
 ·exact qY ⟨b,off,c,rfl,d,f,qP g h.size,fun i x p j u o=>(World.cell?_of_block (w:=w) (h.block b (m b (jq.2 rfl)))).trans (k i x p j u o)⟩
theorem zt.filter{f:Value}{t:Tw}{p q:Value}{m:Option Nat}(h:zt E w w')(c:yS w (.agg #[p,q,.map m]) t)(i:∀b,m=some b->b∈E):yS w' (.agg #[p,q,.map m]) t:=by
 rcases c with c|⟨g,d,e,j⟩
 ·exact qX c
 ·refine qY ⟨g,d,e,j.of_block (h.block d (i d ?_))⟩;injection e with e;have:=congrArg (fun a=>a[2]?) e;simpa using this
theorem tG{g:Nat}(w:World)(a b c:Value):ze [g] w (((w.setCell ⟨g,0,none⟩ a).setCell ⟨g,1,none⟩ b).setCell ⟨g,2,none⟩ c) :=
 (((ze.refl [g] w).setCell (p:=⟨g,0,none⟩) (qX (qE.2 rfl)) a).setCell (p:=⟨g,1,none⟩) (qX (qE.2 rfl)) b).setCell (p:=⟨g,2,none⟩) (qX (qE.2 rfl)) c
theorem lW{base:Nat}{v:Value}{l:List zn}(h:jC w base v l):∀b∈jA v,base<=b/\b<w.heap.size:=by
 intro b a;have a:=jq.1 a;rcases h.2 with⟨rfl,-⟩|⟨g,f,i,rfl,c,d,-⟩
 ·cases a
 ·have e:g=b:=by simpa[Value.ownBlock] using a
  rw[<-e];exact⟨c,(qb.1 d).1⟩
end
def yG(w:World)(gt gd:Nat)(n:Int)(l:List zn)(t:Tw)(G:List Nat):Prop :=
 ∃A c p q m,za w gt 239 #[ptr gt,ptr gd,.int .i64 n,.int .i64 (l.length:Nat),.slice A (jw l).length c,.int .i64 p,.int .i64 q,.map m] /\
  uG w (.slice A (jw l).length c) (jw l)/\yS w (.agg #[.int .i64 p,.int .i64 q,.map m]) t/\gt∈G/\(∀b∈jA (.slice A (jw l).length c),b∈G)/\∀b,m=some b->b∈G
section
variable {w w':World}{gt gd:Nat}{n:Int}{l:List zn}{t:Tw}{G E:List Nat}
theorem yG.keep(h:yG w gt gd n l t G)(g:zt E w w')(a:∀b∈G,b∈E):yG w' gt gd n l t G:=by
 obtain⟨A,c,p,q,m,o,r,s,i,j,k⟩:=h;exact⟨A,c,p,q,m,g.qp o (a gt i),g.xf r (fun b d=>a b (j b d)),g.filter (f:=.nilIface) s (fun b d=>a b (k b d)),i,j,k⟩
theorem yG.below(h:yG w gt gd n l t G)(a:Below w.heap.size w w'):yG w' gt gd n l t G:=by
 obtain⟨A,c,p,q,m,b,d,f,g,i,j⟩:=h;exact⟨A,c,p,q,m,za.below b a,d.below a (qZ _),f.below a,g,i,j⟩
theorem yG.cells(h:yG w gt gd n l t G):w.cell? ⟨gt,0,none⟩=some (ptr gt)/\w.cell? ⟨gt,1,none⟩=some (ptr gd)/\w.cell? ⟨gt,2,none⟩=some (.int .i64 n)/\w.cell? ⟨gt,3,none⟩=some (.int .i64 (l.length:Nat)):=by
 obtain⟨A,c,p,q,m,a,-⟩:=h;exact⟨a.cell 0,a.cell 1,a.cell 2,a.cell 3⟩
end
theorem J6: (prog.info? 239).map (·.size)=some 8:=by kernel_rfl
theorem He(d:Nat)(p:Addr)(w:World):(Op.equalIn (d+1) 160 (.pointer (some p)) (.pointer (some p))).run prog w = .ok true w:=by
 cases a:prog.info? 239 with
 | none=>have:=J6;rw[a]at this;cases this
 | some i =>
   have b:i.size=8:=(by have:=J6;rw[a]at this;simpa using this);simp[Op.equalIn,run_underlying Tryz.underlying160,sizeOf,typeInfo,a,sameAddr]
theorem Hi(p:Addr)(w:World):(binOp .neq 160 (.pointer (some p)) (.pointer (some p))).run prog w = .ok (.bool false) w:=by
 have a:(Op.equal 160 (.pointer (some p)) (.pointer (some p))).run prog w = .ok true w:=He 9999 p w;simp only[binOp];simp[a]
theorem J7{w:World}{gt:Nat}(h:w.cell? ⟨gt,0,none⟩=some (ptr gt)):Calls prog 185 #[ptr gt] w fun e w'=>e = .returned (.bool false)/\w=w':=by
 have a:=Hi ⟨gt,0,none⟩;go_enter func185,ntmps185;go_wp2;go_ret;exact⟨rfl,rfl⟩
section
variable {w:World}{gt gd:Nat}{n:Int}{l:List zn}{t:Tw}{G:List Nat}
theorem J8(h:yG w gt gd n l t G)(x:Nat)(f:x<18446744073709551616):Calls prog 167 #[ptr gt,.int .u64 (x:Nat)] w fun e w'=>e = .returned (.bool (bW l t x))/\Below w.heap.size w w':=by
 obtain⟨A,c,p,q,m,a,g,d,-⟩:=h;have c0:w.cell? ⟨gt,0,none⟩=some (ptr gt):=a.cell 0;have o:w.cell? ⟨gt,3,none⟩=some (.int .i64 (l.length:Nat)):=a.cell 3;have s:w.cell? ⟨gt,5,none⟩=some (.int .i64 p):=a.cell 5;have u:w.cell? ⟨gt,6,none⟩=some (.int .i64 q):=a.cell 6;have v:w.cell? ⟨gt,7,none⟩=some (.map m):=a.cell 7;have j:=qQ (J7 c0);have i:=qQ (XC _ x t w f d);unfold bW;by_cases b:0<l.length
 ·have B:decide ((0:Int)<(l.length:Int))=true:=qW (by omega);rw[qW b,Bool.true_and];generalize yR t x=r at*;generalize l.length=k at*;clear a g d c0 f;go_enter func167,ntmps167;go_wp2_with fail;refine j.out.mono ?_;rintro e w'⟨rfl,rfl⟩;go_wp2_with fail;refine i.out.mono ?_;rintro e w'⟨rfl,z⟩;go_wp2;go_ret;exact⟨rfl,z⟩
 ·have y:l.length=0:=by omega
  rw[qG b,Bool.false_and];rw[y]at o;clear a g d c0 b f i s u v;go_enter func167,ntmps167;go_wp2_with fail;refine j.out.mono ?_;rintro e w'⟨rfl,rfl⟩;go_wp2;go_ret;exact⟨rfl,Below.refl _ _⟩
end
theorem Ho(k:Nat)(w:World)(c:k<=1000):Calls prog 220 #[err k] w fun e w'=>e = .returned (err (ow k))/\w=w':=by
 unfold ow;by_cases a:k=0
 ·subst a;rw[qK rfl];go_enter func220,ntmps220;go_wp2;go_ret;exact⟨rfl,rfl⟩
 ·rw[qJ a];by_cases b:k=61
  ·subst b;rw[qK rfl];go_enter func220,ntmps220;go_wp2;go_ret;exact⟨rfl,rfl⟩
  ·rw[qJ b];have d:((k:Int)==0)=false:=(by simp;omega);have f:((k:Int)==61)=false:=(by simp;omega);go_enter func220,ntmps220;go_wp2;go_ret;exact⟨rfl,rfl⟩
section
variable {At:jK}(api:jY At){w0 w:World}{gd:Nat}{D:zr}{E:List Nat}
include api
theorem tW(h:DS At w0 gd D E w)(ok:WfP D):Calls prog 175 #[ptr gd] w fun e w'=>e = .returned (err (if D.down=true then 61 else 0))/\w=w':=by
 have c:=h.size api ok ⟨#[110,101,119]⟩ (by decide);rcases oq D ⟨#[110,101,119]⟩ with⟨f,g⟩|⟨f,g⟩
 ·rw[qK f];rw[g]at c;have d:=qQ c;clear c;go_enter func175,ntmps175;go_wp2_with fail;refine d.out.mono ?_;rintro e w'⟨rfl,rfl⟩;go_wp2;go_ret;exact⟨rfl,rfl⟩
 ·rw[qJ (by rw[f];decide)];have i:(((jQ D ⟨#[110,101,119]⟩).2:Int)==1)=false:=by simp;omega
  have j:(((jQ D ⟨#[110,101,119]⟩).2:Int)==61)=false:=by simp;omega
  have d:=qQ c;generalize (jQ D ⟨#[110,101,119]⟩).1=a at*;generalize (jQ D ⟨#[110,101,119]⟩).2=b at*;clear c g;go_enter func175,ntmps175;go_wp2_with fail;refine d.out.mono ?_;rintro e w'⟨rfl,rfl⟩;go_wp2;go_ret;exact⟨rfl,rfl⟩
theorem tA(h:DS At w0 gd D E w)(ok:WfP D)(f:D.count<=1099511627776)(n:Tw)(c:n.size<=maxLen):Calls prog 231 #[ptr gd,.string n] w (yJ At w0 gd (.tuple #[.string (rdW D n).1,err (rdW D n).2.1]) (rdW D n).2.2 E w):=by
 have k:=Zd ok n;have b:=h.size api ok n c;have g:=h.qi api (fun F hF=>api.read n 0 ((jQ D n).1:Nat) hF ok.ok f (by decide) (WalkArith.wf_i64 (by omega)) c);unfold rdW;by_cases a:(jQ D n).2=0
 ·rw[qK a];rw[a]at b;generalize (jQ D n).1=z at*;generalize jx D n 0 (z:Nat)=r at*;have d:=qQ b;have p:=qQ g;clear b g h ok f c a k;go_enter func231,ntmps231;go_wp2_with fail;refine d.out.mono ?_;rintro e q⟨rfl,rfl⟩;go_wp2_with fail;refine p.out.mono ?_;rintro e s⟨rfl,j,m⟩;have i:=qQ (qU j m);clear j m;go_wp2;go_ret2;exact⟨rfl,i.out.1,i.out.2⟩
 ·rw[qJ a];have t:(((jQ D n).2:Int) != 0)=true:=by simp;omega
  generalize (jQ D n).1=z at*;generalize (jQ D n).2=y at*;have d:=qQ b;have o:=qQ h;clear b g h ok f c a k;go_enter func231,ntmps231;go_wp2_with fail;refine d.out.mono ?_;rintro e q⟨rfl,rfl⟩;go_wp2;go_ret2;exact⟨rfl,o.out,zt.refl _ _⟩
end
section
variable {At:jK}(api:jY At)(nap:jz){w0 w:World}{gt gd:Nat}{D:zr}{E G:List Nat}{n:Int}{l:List zn}{t:Tw}
include api nap
theorem J9(h:DS At w0 gd D E w)(b:yG w gt gd n l t G)(ok:WfP D)(i:(Lit.int .i64 n).wf=true):Calls prog 166 #[ptr gt] w fun e w'=>e = .returned (err (pQ D n))/\Below w.heap.size w w':=by
 obtain⟨c0,c1,c2,k⟩:=b.cells;have s:=qQ (J7 c0);have d:=qQ fun W=>nap.table n W i
 have p:=qQ fun W (r:Below w.heap.size w W)=>(h.below api r).size api ok (ptT n) (oi n)
 have q:=qQ fun W=>Ho (jQ D (ptT n)).2 W (by rcases oq D (ptT n) with⟨-,e⟩ | ⟨-,e | e⟩<;>rw[e]<;>decide)
 have c:=qQ b;unfold pQ;rw[show nmS 116 n=ptT n from rfl]at d;generalize ow (jQ D (ptT n)).2=y at*;generalize jQ D (ptT n)=z at*;generalize ptT n=u at*;clear h b ok i c0 k;go_enter func166,ntmps166;go_wp2_with fail;refine s.out.mono ?_;rintro e w'⟨rfl,rfl⟩;go_wp2_with fail
 go_region_held3 (fun w'=>w'.cell? ⟨gt,1,none⟩=some (ptr gd)/\w'.cell? ⟨gt,2,none⟩=some (.int .i64 n)) (first | assumption | exact⟨by assumption,by assumption⟩ | exact⟨c1,c2⟩) (first
  | (go_at_call 123;refine(d.out _).mono ?_;rintro e g⟨rfl,f⟩;have a:=bj (show Below w.heap.size w _ from by first | exact(Below.refl _ _).drew | exact Below.refl _ _) f;have m:g.cell? ⟨gt,1,none⟩=some (ptr gd):=(c.out.below a).cells.2.1;have o:g.cell? ⟨gt,2,none⟩=some (.int .i64 n):=(c.out.below a).cells.2.2.1)
  | (go_at_call 129;refine(p.out _ a).mono ?_;rintro e v⟨rfl,rfl⟩)
  | fail)
 all_goals
  have j:=qQ a;clear a f m o;go_wp2_with fail;refine(q.out _).mono ?_;rintro e A⟨rfl,rfl⟩;go_wp2;go_ret;exact⟨rfl,j.out⟩
omit api nap in
theorem tB(F:yG w gt gd n l t G)(C:l.length<=1000000)(x:Nat)(v:Int){lo hi:Nat}(o:oH l ⟨x,v,0⟩ lo hi):Calls prog 168 #[ptr gt,.int .u64 (x:Nat),.int .i64 v] w fun e w'=>e = .returned (.tuple #[.int .i64 (lo:Nat),.int .i64 (hi:Nat)])/\Below w.heap.size w w':=by
 obtain⟨A,c,p,q,m,a,i,y,-⟩:=F;have s:w.cell? ⟨gt,3,none⟩=some (.int .i64 (l.length:Nat)):=a.cell 3;have u:w.cell? ⟨gt,4,none⟩=some (.slice A (jw l).length c):=a.cell 4;have z:=qQ fun W (B:Below w.heap.size w W)=>o.run (i.below B (qZ _)) C
 have g:=qQ fun(f:World) (b:Below w.heap.size w f)=>(show f.cell? ⟨gt,3,none⟩=some (.int .i64 (l.length:Nat))/\f.cell? ⟨gt,4,none⟩=some (.slice A (jw l).length c) from⟨(za.below a b).cell 3,(za.below a b).cell 4⟩)
 generalize (jw l).length=k at*;generalize l.length=j at*;clear a i y o;go_enter func168,ntmps168;go_wp2_with fail
 go_region_held3 (fun w'=>w'.cell? ⟨gt,3,none⟩=some (.int .i64 (j:Nat))/\w'.cell? ⟨gt,4,none⟩=some (.slice A k c)) (first | assumption | exact⟨by assumption,by assumption⟩ | exact⟨s,u⟩) (first
  | (go_at_call 222;refine(z.out _ (by first | exact(Below.refl _ _).drew | exact Below.refl _ _)).mono ?_;rintro e f⟨rfl,b⟩;have d:=bj (show Below w.heap.size w _ from by first | exact(Below.refl _ _).drew | exact Below.refl _ _) b;have H:=(g.out _ d).1;have I:=(g.out _ d).2)
  | fail)
 all_goals
  have r:=qQ d;clear d b;go_wp2;go_ret2;exact⟨rfl,r.out⟩
end
section
variable {At:jK}(api:jY At)(nap:jz){w0 w:World}{gt gd:Nat}{D D':zr}{E G:List Nat}{n:Int}{l:List zn}{t:Tw}
include api nap
theorem Hw(h:DS At w0 gd D E w)(S:yG w gt gd n l t G)(hG:∀b∈G,b∈E)(ok:WfP D)(hc:D.count<=1099511627776)(wn:(Lit.int .i64 n).wf=true)(lo hi m:Nat)(hm:hi=lo+m)(av:hi<=40000)(s:Tw)
  (T:jx D (ptT n) ((8+24*lo:Nat):Int) ((24*m:Nat):Int)=(s,0,D')) (hs:s.size=24*m) (r:okP s m=true):
  Calls prog 169 #[ptr gt,.int .i64 (lo:Nat),.int .i64 (hi:Nat)] w (mo At w0 gd (cN s m) 0 D' E w):=by
 obtain⟨c0,c1,c2,c3⟩:=S.cells;have hN:=qQ fun W=>nap.table n W wn
 rw[show nmS 116 n=ptT n from rfl]at hN;obtain⟨a,Q⟩:∃a,a=8+24*lo:=⟨_,rfl⟩
 obtain⟨b,o⟩:∃b,b=8+24*hi:=⟨_,rfl⟩
 obtain⟨z,L⟩:∃z,z=24*m:=⟨_,rfl⟩
 have al:Hid (∀W,Calls prog 223 #[.int .i64 (lo:Nat)] W fun e w'=>e = .returned (.int .i64 (a:Nat))/\W=w'):=qQ fun W=>by
  have:=oA (lo:Nat) W;rw[(fi (by omega)).2,<-Q]at this;exact this
 have am:Hid (∀W,Calls prog 223 #[.int .i64 (hi:Nat)] W fun e w'=>e = .returned (.int .i64 (b:Nat))/\W=w'):=qQ fun W=>by
  have:=oA (hi:Nat) W;rw[(fi (by omega)).2,<-o]at this;exact this
 rw[<-Q,<-L]at T
 have hR:=qQ fun W (hW:Below w.heap.size w W)=>(h.below api hW).qi api (v:=.tuple #[.string s,.int .i64 0]) (D':=D') (fun F hF=>by
  have:=api.read (ptT n) (a:Nat) (z:Nat) hF ok.ok hc (WalkArith.wf_i64 (by omega)) (WalkArith.wf_i64 (by omega)) (oi n);rw[T]at this;exact this)
 have e1:IntKind.i64.wrap ((b:Int)-(a:Int))=(z:Int):=by rw[IntWalk.i64_in _ ⟨by omega,by omega⟩];omega
 have e2:IntKind.i64.wrap ((hi:Int)-(lo:Int))=(m:Int):=by rw[IntWalk.i64_in _ ⟨by omega,by omega⟩];omega
 have e3:(hi:Int)-(lo:Int)=(m:Int):=by omega
 have e4:(b:Int)-(a:Int)=(z:Int):=by omega
 have ar:IntKind.i64.wrap (z:Int)=(z:Int):=IntWalk.i64_in _ ⟨by omega,by omega⟩;have C:=qQ S;have HK:=qQ (JP.1 r);obtain⟨Z,au,ag⟩:=ZD (cO s) m (by omega);have ae:=qQ ag;have aq:=qQ (show ∀k,k<m->(yZ (cO s) m k).set k (enG (pcP s k))=yZ (cO s) m (k+1) from fun k r=>by rw[<-JR];exact ZC _ r);have ao:=qQ (show yZ (cO s) m m=cN s m by rw[ZB,Hf]);have ad:=qQ (show ∀k,(yZ (cO s) m k).length=m from fun k=>mz _ m k);have ab:=qQ (Hb s m);have aA:m<=40000:=by omega
 have hw:IntKind.i64.wrap (m:Int)=(m:Int):=IntWalk.i64_in _ ⟨by omega,by omega⟩;have ac:=qQ h.lt;have aw:=qQ h.kept;generalize ptT n=nm at*;clear T Q o r h S ok hc wn c0 c3 hm av ag L;go_enter func169,ntmps169;go_wp2_with fail;refine(al.out _).mono ?_;rintro e U⟨rfl,rfl⟩;have aa:=qQ hG;go_wp2_with fail;have ak:=qU c1 c2
 go_region_held3 (fun w'=>w'.cell? ⟨gt,1,none⟩=some (ptr gd)/\w'.cell? ⟨gt,2,none⟩=some (.int .i64 n)) (first | (with_reducible assumption) | (with_reducible exact⟨by with_reducible assumption,by with_reducible assumption⟩) | exact ak) (first
  | (go_at_call 123;refine(hN.out _).mono ?_;rintro e U⟨rfl,o⟩;have j:=bj (show Below w.heap.size w _ from by first | (with_reducible exact(Below.refl _ _).drew) | (with_reducible exact Below.refl _ _)) o;have d1:U.cell? ⟨gt,1,none⟩=some (ptr gd):=(C.out.below j).cells.2.1;have d2:U.cell? ⟨gt,2,none⟩=some (.int .i64 n):=(C.out.below j).cells.2.2.1;have q:=j.drew;have d3:=qU d1 d2)
  | (go_at_call 223;refine(am.out _).mono ?_;rintro e w2⟨rfl,rfl⟩)
  | (go_at_call 130;(try rw[ar]);go_must (refine(hR.out _ (by first | (with_reducible exact j) | (with_reducible exact q))).mono ?_;rintro e c⟨rfl,h3,A⟩;have d5:=qU ((C.out.below (by first | (with_reducible exact j) | (with_reducible exact q))).keep A aa.out).cells.2.1 ((C.out.below (by first | (with_reducible exact j) | (with_reducible exact q))).keep A aa.out).cells.2.2.1))
  | fail)
 all_goals
  have Q3:zt E w c:=by first | exact(zt.qm j ac.out).trans A | exact(zt.qm q ac.out).trans A
  have B:=qQ (qU h3 Q3);have af:=ae.out c;have aj:=(Below.refl c.heap.size c).alloc (qZ _) (.cells Z 117);clear ae h3 Q3 A d5 d3 j q o d1 d2 ak c1 c2;go_wp2;go_loopw [45] (fun i wr=>∃k:Nat,k<=m/\i = .int .i64 k/\jC wr c.heap.size (.slice (some ⟨c.heap.size,0,none⟩) m m) (yZ (cO s) m k)/\Below c.heap.size c wr) (fun i _=>m-(intOf i).toNat)
  case atStart=>exact⟨0,qH _,rfl,af,aj⟩
  case round =>
   obtain⟨k,r,rfl,u,J⟩:=hrel;clear af aj au;by_cases K:k<m
   ·have s1:(k:Int)<(m:Int):=(by omega);obtain⟨f,ah⟩:∃f:Nat,f=24*k:=⟨_,rfl⟩
    obtain⟨d,ai⟩:∃d:Nat,d=24*k+24:=⟨_,rfl⟩
    have eP:pcP s k=s.extract f d:=(by rw[ah,ai];rfl);have M:=fun W=>ZZ (s.extract f d) W (by unfold maxLen;rw[qS];omega)
    have N:=aq.out k K;have R:=HK.out k K;rw[eP]at N R;rw[R]at M;have an:=qQ M;have y1:IntKind.i64.wrap ((k:Int)*24)=(f:Int):=(by rw[IntWalk.i64_in _ ⟨by omega,by omega⟩];omega);have y2:IntKind.i64.wrap ((k:Int)+1)=(k:Int)+1:=IntWalk.i64_in _ ⟨by omega,by omega⟩;have y3:IntKind.i64.wrap (((k:Int)+1)*24)=(d:Int):=(by rw[IntWalk.i64_in _ ⟨by omega,by omega⟩];omega);have x1:(f:Int)<=(d:Int):=(by omega);have x2:(d:Int)<=(s.size:Int):=(by omega);have x3:f<=d:=(by omega);have x4:d<=s.size:=(by omega);have H:=qQ u;have p:=qQ J;have ap:=qQ N;clear eP ah ai u J M R N hs;generalize enG (s.extract f d)=x at*;obtain⟨V,Y,X⟩:=x;go_wp2_with fail;refine(an.out _).mono ?_;rintro e w4⟨rfl,I⟩;have O:=jC.below (H.out.below I (qZ _)) ((Below.refl w4.heap.size w4).alloc (qZ _) (.cells #[.int .u64 (V:Nat),.int .i64 Y,.int .i64 X] 117)) (qZ _);obtain⟨⟨y,q0,q1,q2⟩,f0,f1,f2⟩:=O.at_ (ad.out k).symm K;have P:=O.put (ad.out k).symm K ⟨V,Y,X⟩;rw[ap.out]at P;have R4:=qQ P;have B4:=qQ ((bj p.out I).alloc (bj p.out I).size (.cells #[.int .u64 (V:Nat),.int .i64 Y,.int .i64 X] 117));clear P O I;go_wp2;exact⟨⟨k+1,by omega,by go_num,R4.out,sI B4.out (qZ _) _ _ _⟩,by simp[intOf];omega⟩
   ·obtain rfl:k=m:=(by omega);have s1:¬(k:Int)<(k:Int):=(by omega);rw[ao.out]at u;have H:=qQ u;have p:=qQ J;clear u J;go_wp2;go_ret2;have L:=B.out.2.size;have az:c.heap.size<=wr.heap.size:=p.out.size;refine⟨some ⟨c.heap.size,0,none⟩,k,by rw[ab.out];rfl,by rw[ab.out];exact jC.down H.out L, ?_,B.out.2.trans (zt.qm p.out B.out.1.lt)⟩
    exact B.out.1.more api p.out (fun b o=>by
     obtain rfl:b=c.heap.size:=by simpa[jA,Value.ownBlock] using o
     exact⟨qZ _,by
      rcases H.out.2 with⟨e,-⟩|⟨g,ax,ay,e,hg,hh,-⟩
      ·cases e
      ·have e2:=(Value.slice.inj e).1;have e3:c.heap.size=g:=(by simpa using e2);rw[e3];exact(qb.1 hh).1⟩)
end
def vH(D:zr)(n:Int)(l:List zn):Prop:=∃f,jU D.l (ptT n)=some f/\ve f.data=true/\tgL f.data=l
theorem vH.count{D:zr}{n:Int}{l:List zn}(h:vH D n l)(k:Nat):vH { D with count:=k } n l:=h
theorem vH.ready{D:zr}{n:Int}{l:List zn}(h:vH D n l)(b:D.down=false):pQ D n=0:=by
 obtain⟨f,a,c,d⟩:=h;unfold pQ;rw[fV b a];rfl
theorem vH.props{D:zr}{n:Int}{l:List zn}(h:vH D n l):jj l/\(∀x∈l,mayE x=true)/\∀x∈l,vP x:=by
 obtain⟨f,d,a,rfl⟩:=h;obtain⟨b,c,g⟩:=JT a;exact⟨b,c,J0 _⟩
theorem vH.read{D:zr}{n:Int}{l:List zn}(h:vH D n l)(d:D.down=false){lo m:Nat}(g:lo+m<=l.length):∃s,jx D (ptT n) ((8+24*lo:Nat):Int) ((24*m:Nat):Int)=(s,0, { D with count:=D.count+1 })/\s.size=24*m/\okP s m=true/\cN s m=(l.drop lo).take m:=by
 obtain⟨f,c,b,rfl⟩:=h;obtain⟨i,j,k⟩:=JT b;have a:=Hh (lo:=lo) (hi:=lo+m) b g;rw[show 8+24*(lo+m)=8+24*lo+24*m by omega,show lo+m-lo=m by omega]at a;exact⟨_,mr d c (by omega),by rw[qS];omega,a.1,a.2⟩
section
variable {At:jK}(api:jY At)(nap:jz){w0 w:World}{gt gd:Nat}{D:zr}{E G:List Nat}{n:Int}{l:List zn}{t:Tw}
include api nap
theorem Jq(h:DS At w0 gd D E w)(o:yG w gt gd n l t G)(g:∀b∈G,b∈E)(ok:WfP D)(j:D.count<=1099511627776)(p:(Lit.int .i64 n).wf=true)(k:D.down=false)(i:vH D n l)(lo hi:Nat)(u:lo<=hi)(q:hi<=l.length)(r:l.length<=40000):
  Calls prog 169 #[ptr gt,.int .i64 (lo:Nat),.int .i64 (hi:Nat)] w (mo At w0 gd ((l.drop lo).take (hi-lo)) 0 { D with count:=D.count+1 } E w):=by
 obtain⟨s,a,c,d,f⟩:=i.read (lo:=lo) (m:=hi-lo) k (by omega);rw[<-f];exact Hw api nap h o g ok j p lo hi (hi-lo) (by omega) (by omega) s a c d
theorem LQ(h:DS At w0 gd D E w)(j:yG w gt gd n l t G)(Z:∀b∈G,b∈E)(ok:WfP D)(hc:D.count<=1099511627776)(T:(Lit.int .i64 n).wf=true)(N:D.down=false)(z:vH D n l)(hk:bG t l=true)(hl:l.length<=40000)
  (x:Nat) (hx:x<18446744073709551616) (a b:Int) (wa:(Lit.int .i64 a).wf=true) (wb:(Lit.int .i64 b).wf=true):
  Calls prog 107 #[ptr gt,.int .u64 (x:Nat),.int .i64 a,.int .i64 b] w fun e w'=>∃k,k<=1/\(bW l t x=false->k=0)/\mo At w0 gd (kZ l x a (min b 1073741824)) 0 { D with count:=D.count+k } E w e w':=by
 obtain⟨m,P,aa⟩:=z.props;have ba:=bounds_i64 wa;have bb:=bounds_i64 wb;obtain⟨d,M⟩:∃d,min b 1073741824=d:=⟨_,rfl⟩
 have i1:(if (1073741824:Int)<b then 1073741824 else b)=d:=by rw[<-M];split<;>omega
 have i2:IntKind.i64.wrap (d+1)=d+1:=IntWalk.i64_in _ ⟨by omega,by omega⟩;rw[M];have ae:=qQ h.lt;have u:=qQ (J9 api nap h j ok T);rw[z.ready N]at u;have q:=qQ fun W (f:Below w.heap.size w W)=>J8 (j.below f) x hx
 have o:Hid (∀w':World,Below w.heap.size w w'->kZ l x a d=[]->∃k,k<=1/\(bW l t x=false->k=0)/\mo At w0 gd (kZ l x a d) 0 { D with count:=D.count+k } E w (.returned (.tuple #[.slice none 0 0,.int .i64 0])) w'):=qQ fun w' B e=>by
  rw[e];exact⟨0,by omega,fun _=>rfl,none,0,rfl,jC.nil _ _,h.below api B,zt.qm B h.lt⟩
 cases C:bW l t x with
 | false =>
   rw[C]at q o;have O:=(J5 hk C a d).1;rw[O]at o ⊢;clear h j Z ok hc T N z hk hl hx wa wb m P aa ba bb M i2 O C;go_enter func107,ntmps107;go_wp2_with fail;refine u.out.mono ?_;rintro e w1⟨rfl,g⟩;go_wp2_with fail;refine(q.out _ g).mono ?_;rintro e w2⟨rfl,i⟩;go_wp2;go_ret2;exact o.out _ (bj g i) (by first | rfl | trivial)
 | true =>
   rw[C]at q o;obtain⟨lo,h1,r⟩:=sN m (by omega) ⟨x,a,0⟩;obtain⟨l2,hi,F⟩:=sN m (by omega) ⟨x,d+1,0⟩;have H:=r.zA;have s:=F.zK;rw[tU P]at H s;rw[J3]at s;have a3:=r.top;have a4:=F.top;have a5:=r.zK;rw[tU P]at a5;have X:=qQ fun W (f:Below w.heap.size w W)=>tB (j.below f) (by omega) x a r
   have Y:=qQ fun W (f:Below w.heap.size w W)=>tB (j.below f) (by omega) x (d+1) F
   by_cases ad:lo<hi
   ·have ac:=qQ fun W (f:Below w.heap.size w W)=>Jq api nap (h.below api f) (j.below f) Z ok hc T N z lo hi (by omega) a4 hl
    have f:=J4 (lo:=lo) (hi:=hi) m H s;have ag:((l.drop lo).take (hi-lo)).length=hi-lo:=(by rw[qq,List.length_drop];omega);have ab:=qQ fun(v:Value) W (hv:jb W v ((l.drop lo).take (hi-lo)))=>ZY v _ x a d W hv (by omega) (fun y hy=>aa y (J2 hy)) (tY m _ _)
    rw[f]at ab;have t1:decide ((hi:Int)<=(lo:Int))=false:=qG (by omega);have t2:¬(hi:Int)<=(lo:Int):=(by omega);generalize kZ l x a d=R at*;generalize (l.drop lo).take (hi-lo)=S at*;clear h j Z ok hc T N z hk hl hx wa wb m P aa ba bb M C r F H s a3 a4 a5 o f ag ad;go_enter func107,ntmps107;go_wp2_with fail;refine u.out.mono ?_;rintro e w1⟨rfl,g⟩;go_wp2_with fail;refine(q.out _ g).mono ?_;rintro e w2⟨rfl,I⟩;have i:=bj g I;clear I g u q;go_wp2_with fail;refine(X.out _ i).mono ?_;rintro e w3⟨rfl,J⟩;have p:=bj i J;clear J i X;go_wp2_with fail;refine(Y.out _ p).mono ?_;rintro e w4⟨rfl,L⟩;have K:=bj p L;clear L p Y;go_wp2_with fail;refine(ac.out _ K).mono ?_;rintro e w5⟨A,c,rfl,Q,r2,r3⟩;have U:=qQ (qU r2 ((zt.qm K ae.out).trans r3));have af:=qQ (ab.out _ _ Q.qw);clear Q r2 r3 K ac ab;go_wp2_with fail;refine af.out.mono ?_;rintro e w6⟨A2,c2,rfl,Q,b6⟩;have V:=qQ (qU Q b6);clear Q b6;go_wp2;go_ret2;exact⟨1,qZ _,fun e=>by simp at e,A2,c2,rfl,V.out.1.down U.out.2.size,(U.out.1.less (fun b B=>qV _ B)).more api V.out.2 (lW V.out.1),U.out.2.trans (zt.qm V.out.2 (fun b B=>U.out.1.lt b (qV _ B)))⟩
   ·have O:=Hs (b:=d) m H s (by omega);have t1:decide ((hi:Int)<=(lo:Int))=true:=qW (by omega);have t2:(hi:Int)<=(lo:Int):=(by omega);rw[O]at o ⊢;clear h j Z ok hc T N z hk hl hx wa wb m P aa ba bb M C r F H s a3 a4 a5 O ad;go_enter func107,ntmps107;go_wp2_with fail;refine u.out.mono ?_;rintro e w1⟨rfl,g⟩;go_wp2_with fail;refine(q.out _ g).mono ?_;rintro e w2⟨rfl,I⟩;have i:=bj g I;clear I g u q;go_wp2_with fail;refine(X.out _ i).mono ?_;rintro e w3⟨rfl,J⟩;have p:=bj i J;clear J i X;go_wp2_with fail;refine(Y.out _ p).mono ?_;rintro e w4⟨rfl,L⟩;have K:=bj p L;clear L p Y;go_wp2;go_ret2;exact o.out _ K (by first | rfl | trivial)
end
section
variable {At:jK}(api:jY At)(nap:jz){w0 w:World}{gt gd:Nat}{D:zr}{E G:List Nat}{n:Int}{l:List zn}{t:Tw}
include api nap
omit nap in
theorem LX{w1 w':World}{g:Nat}{D':zr}(k:∀b∈E,b<g)(m:w0.heap.size<=g)(h:DS At w0 gd D' (g::E) w1)(o:zt E w w1)(d:Below w1.heap.size w1 w')(a b c:Value)(v:Value):
  yJ At w0 gd v D' E w (.returned v) (((w'.setCell ⟨g,0,none⟩ a).setCell ⟨g,1,none⟩ b).setCell ⟨g,2,none⟩ c):=by
 have i:=h.below api d;have j:=i.x5 api (tG (g:=g) w' a b c) (fun x f=>by rw[qE.1 f];exact⟨qB,m⟩);refine⟨rfl,j.less (fun b d=>qF _ d),(o.trans (zt.qm d (fun b d=>h.lt b (qF _ d)))).trans (zt.xK (tG (g:=g) w' a b c) fun x f=>⟨i.lt x (qF _ f),fun p=>?_⟩)⟩;have:=k x f;rw[qE.1 p]at this;exact Nat.lt_irrefl _ this
theorem LZ(h:DS At w0 gd D E w)(hp:yG w gt gd n l t G)(hG:∀b∈G,b∈E)(ok:WfP D)(hc:D.count<=1099511627776)(wn:(Lit.int .i64 n).wf=true)(hd:D.down=false)(O:vH D n l)(hk:bG t l=true)(hl:l.length<=40000)
  (x:Nat) (hx:x<18446744073709551616) (b:Int) (wb:(Lit.int .i64 b).wf=true):
  Calls prog 139 #[ptr gt,.int .u64 (x:Nat),.int .i64 b] w fun e w'=>∃k,k<=1/\(bW l t x=false->k=0)/\yJ At w0 gd (.tuple #[ji (kt l x (min b 1073741824)),.bool (vZ l x (min b 1073741824)),.int .i64 0]) { D with count:=D.count+k } E w e w':=by
 obtain⟨R,hm,af⟩:=O.props;have Z:=bounds_i64 wb;obtain⟨f,ad⟩:∃f,min b 1073741824=f:=⟨_,rfl⟩
 have i1:(if (1073741824:Int)<b then 1073741824 else b)=f:=by rw[<-ad];split<;>omega
 have i2:IntKind.i64.wrap (f+1)=f+1:=IntWalk.i64_in _ ⟨by omega,by omega⟩;rw[ad];have aa:=(Below.refl w.heap.size w).alloc (qZ _) (.cells #[.int .u64 ((0:Nat):Int),.int .i64 0,.int .i64 0] 117);have F:kY (w.alloc (.cells #[.int .u64 ((0:Nat):Int),.int .i64 0,.int .i64 0] 117)) w.heap.size 0 0 0:=za.new _ _ _
 have z:DS At w0 gd D (w.heap.size::E) (w.alloc (.cells #[.int .u64 ((0:Nat):Int),.int .i64 0,.int .i64 0] 117)):=h.more api aa (B:=[w.heap.size]) (fun b m=>by
  rw[qE.1 m];exact⟨qZ _,F.lt⟩)
 have C:=hp.below aa;have K:=zt.qm aa h.lt;have L:=h.lt;have P:=h.kept.size;have ab:∀b∈G,b∈w.heap.size::E:=fun b m=>qF _ (hG b m)
 obtain⟨g,an⟩:∃g,w.heap.size=g:=⟨_,rfl⟩
 rw[an]at z F L P ab;obtain⟨i,ag⟩:∃i,w.alloc (.cells #[.int .u64 ((0:Nat):Int),.int .i64 0,.int .i64 0] 117)=i:=⟨_,rfl⟩
 rw[ag]at z F C K;have ap:w.alloc (.cells #[.int .u64 0,.int .i64 0,.int .i64 0] 117)=i:=ag;clear ag aa h hp hG;have X:=qQ (qU F (qU K (qU L (qU P z))));have hR:=qQ (J9 api nap z C ok wn);rw[O.ready hd]at hR;have M:=qQ fun W (j:Below i.heap.size i W)=>J8 (C.below j) x hx
 have H:Hid (∀(k:Nat) (y:zn) (q:Bool) (o w':World) (a b c:Value),k<=1->(bW l t x=false->k=0)->kt l x f=y->vZ l x f=q->DS At w0 gd { D with count:=D.count+k } (g::E) o->zt (g::E) i o->Below o.heap.size o w' ->
   ∃k,k<=1/\(bW l t x=false->k=0)/\yJ At w0 gd (.tuple #[ji (kt l x f),.bool (vZ l x f),.int .i64 0]) { D with count:=D.count+k } E w (.returned (.tuple #[ji y,.bool q,.int .i64 0])) (((w'.setCell ⟨g,0,none⟩ a).setCell ⟨g,1,none⟩ b).setCell ⟨g,2,none⟩ c)):=qQ fun k y q o w' a b c T U p r d1 q1 Z=>by
  rw[p,r];exact⟨k,T,U,LX api L P d1 (K.trans (q1.less (fun b m=>qF _ m))) Z a b c _⟩
 cases Q:bW l t x with
 | false =>
   rw[Q]at M H;have he:=(J5 hk Q 0 f).2;have p:kt l x f=⟨0,0,0⟩:=(by unfold kt;rw[he];rfl);have r:vZ l x f=false:=(by unfold vZ;rw[he];rfl);have V:=qQ (fun w' (m:Below i.heap.size i w')=>H.out 0 ⟨0,0,0⟩ false i w' (.int .u64 ((0:Nat):Int)) (.int .i64 0) (.int .i64 0) (by omega) (fun _=>rfl) p r X.out.2.2.2.2 (zt.refl _ _) m);rw[p,r]at V ⊢;clear H;clear z C ok hc wn hd O hk hl hx wb R hm af Z ad i2 he Q p r K L P ab F;go_enter func139,ntmps139;go_wp2_with fail;refine hR.out.mono ?_;rintro e o⟨rfl,s⟩;go_wp2_with fail;refine(M.out _ s).mono ?_;rintro e w2⟨rfl,I⟩;have u:=bj s I;obtain⟨k0,T,U,f0,f1,f2⟩:=kY.facts (show kY w2 g 0 0 0 from za.below X.out.1 u);have ak:=qQ u;clear s I u;go_wp2;exact bodyPost_ret (v:=.tuple #[ji ⟨0,0,0⟩,.bool false,.int .i64 0]) (by simp[results,Tryz.results139,go_sem,k0,T,U]) rfl (V.out _ ak.out)
 | true =>
   rw[Q]at M H;obtain⟨lo,hi,N⟩:=sN R (by omega) ⟨x,f+1,0⟩;have a1:=N.zA;have a2:=N.zK;rw[tU hm,J3]at a1 a2;have a4:=N.top;have hA:=qQ fun W (j:Below i.heap.size i W)=>tB (C.below j) (by omega) x (f+1) N
   have ae:=qQ fun W (j:Below i.heap.size i W)=>Jq api nap (z.below api j) (C.below j) ab ok hc wn hd O (lo-1) hi (by omega) a4 hl
   have j:=Ha (lo:=lo) (hi:=hi) R (by omega) a1 a2 a4;have ao:((l.drop (lo-1)).take (hi-(lo-1))).length=hi-(lo-1):=(by rw[qq,List.length_drop];omega);have ac:=qQ fun(v:Value) W (hv:jb W v ((l.drop (lo-1)).take (hi-(lo-1))))=>Z1 v _ x f W hv (by omega) (fun y hy=>af y (J2 hy)) (tY R _ _)
   have p:kt ((l.drop (lo-1)).take (hi-(lo-1))) x f=kt l x f:=(by unfold kt;rw[j]);have r:vZ ((l.drop (lo-1)).take (hi-(lo-1))) x f=vZ l x f:=(by unfold vZ;rw[j]);rw[p,r]at ac;obtain⟨d,am⟩:∃d:Int,(lo:Int)-1=d:=⟨_,rfl⟩
   obtain⟨J,aj⟩:∃J:Nat,lo-1=J:=⟨_,rfl⟩
   have j1:IntKind.i64.wrap ((lo:Int)-1)=d:=(by rw[IntWalk.i64_in _ ⟨by omega,by omega⟩];omega);have j2:(if (0:Int)>d then 0 else d)=(J:Int):=(by split<;>omega);have j3:(if d<(0:Int) then 0 else d)=(J:Int):=(by split<;>omega);rw[aj]at ae ac;have V:=qQ (fun o w' a b c=>H.out 1 (kt l x f) (vZ l x f) o w' a b c (by omega) (fun e=>by cases e) rfl rfl);generalize (l.drop J).take (hi-J)=S at*;clear H z C ok hc wn hd O hk hl hx wb R hm af Z ad Q N a1 a2 a4 j ao p r am aj K L P ab F;generalize kt l x f=y at*;generalize vZ l x f=q at*;obtain⟨yh,yv,yp⟩:=y;go_enter func139,ntmps139;go_wp2_with fail;refine hR.out.mono ?_;rintro e o⟨rfl,s⟩;go_wp2_with fail;refine(M.out _ s).mono ?_;rintro e w2⟨rfl,ah⟩;have I:=bj s ah;clear ah s hR M;go_wp2_with fail;refine(hA.out _ I).mono ?_;rintro e w3⟨rfl,ai⟩;have u:=bj I ai;clear ai I hA;go_wp2_with fail;refine(ae.out _ u).mono ?_;rintro e w4⟨A,c,rfl,r1,r2,r3⟩;have K4:=(zt.qm u X.out.2.2.2.2.lt).trans r3;have D4:=r2.less (E':=g::E) (fun b m=>qV _ m);have H4:=qQ (qU D4 K4);have HL:=qQ (ac.out _ _ r1.qw);clear r1 r2 r3 u ae ac K4 D4;go_wp2_with fail;refine HL.out.mono ?_;rintro e w5⟨rfl,Y⟩;have B6:=Y.alloc Y.size (.cells #[.int .u64 (yh:Nat),.int .i64 yv,.int .i64 yp] 117);have E5:kY w5 g 0 0 0:=za.below (H4.out.2.qp X.out.1 qB) Y;obtain⟨k0,T,U,f0,f1,f2⟩:=kY.facts (show kY _ g 0 0 0 from za.alloc E5 (.cells #[.int .u64 (yh:Nat),.int .i64 yv,.int .i64 yp] 117));have al:=qQ B6;have HN:=qQ (show g≠w5.heap.size from Nat.ne_of_lt E5.lt);clear Y B6 E5;go_wp2;exact bodyPost_ret (v:=.tuple #[ji ⟨yh,yv,yp⟩,.bool q,.int .i64 0]) (by simp[results,Tryz.results139,go_sem,k0,T,U]) rfl (V.out _ _ _ _ _ H4.out.1 H4.out.2 al.out)
end
end
end Go.Proofs.YthejglbnkmimjaaGreat
