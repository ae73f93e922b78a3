import Derived.Test.YthejglbnkmimjaaGreatPp01
import Derived.Test.YthejglbnkmimjaaGreatPp02
import Derived.Deep.RegionHeld3
import Derived.Deep.WholeRow
set_option linter.unusedVariables false
set_option maxRecDepth 100000
set_option maxHeartbeats 9000000
namespace Go.Proofs.YthejglbnkmimjaaGreat
open Tryz
section
open Go.RowKit
def nh(l:List Int):List Value:=l.map (Value.int .i64)
theorem rY{l:List zi}{k:Nat}(h:k<l.length):∃f,l[k]? = some f:=⟨l[k],qD h⟩
theorem UW{l:List zi}{n:Tw}{k:Nat}{f:zi}(h:l[k]? = some f)(a:f.name=n):jW l n<=k:=by
 unfold jW;have b:k<l.length:=(qM.1 h).1;rcases Nat.lt_or_ge k (l.findIdx (fun f=>decide (f.name=n))) with c|c
 ·have:=List.not_of_lt_findIdx c;rw[qD b]at h;have e:l[k]=f:=by simpa using h
  rw[e]at this;simp[a]at this
 ·exact c
theorem dh{l:List zi}{n:Tw}(h:jW l n<l.length):∃f,l[jW l n]? = some f/\f.name=n:=by
 have a:l.findIdx (fun f=>decide (f.name=n))<l.length:=h;have:=List.findIdx_getElem (w:=a);exact⟨l[jW l n],qD h,of_decide_eq_true this⟩
theorem Qu(l:List zi)(k:Nat)(h:zi->zi):(ja l k h).length=l.length:=by unfold ja;simp
def mY(w:World)(v:Value)(l:List Int):Prop :=
 (l=[]/\∃a c,v = .slice a 0 c)∨∃b off d cs f,v = .slice (some ⟨b,off,none⟩) l.length d/\l.length<=d/\d<=maxLen/\w.heap[b]? = some (.cells cs 3 f)/\∀i x,l[i]? = some x->cs[off+i]? = some (.int .i64 x)
theorem mY.zk{w:World}{base:Nat}{v:Value}{l:List Int}(h:w.ownsRow base 3 1 v l.length (nh l)):mY w v l:=by
 rcases h.2 with⟨rfl,e⟩|⟨b,c,cs,rfl,_,d,f,g,_,j⟩
 ·exact qX ⟨List.eq_nil_of_length_eq_zero e,none,0,rfl⟩
 ·refine qY ⟨b,0,c,cs,(0,0),rfl,f,g,d,fun i x a=>?_⟩;have k:i<l.length:=(qM.1 a).1;have e:(nh l)[i]? = some (.int .i64 x):=by unfold nh;rw[qz,a];rfl
  rw[<-j,List.getElem?_take,qK (by omega)]at e;simpa using e
theorem Qg(l:List zi)(k j:Nat)(h:zi->zi):(ja l k h)[j]? = if j=k then(l[j]?).map h else l[j]? := by
 unfold ja;rw[List.getElem?_modify];by_cases e:j=k
 ·subst e;simp
 ·rw[qJ e];have a:¬k=j:=fun x=>e x.symm
  cases l[j]?<;>simp[a]
theorem UA{f:zi}{x:Int}(a:f.synced<=f.data.size):(yO f x).data.size=ct f x:=by
 show(f.data.extract 0 (ct f x)).size=_;rw[qS];unfold ct;omega
structure nr(D:zr):Prop where
 xY:∀f∈D.l,f.synced<=f.data.size/\f.data.size<=1048576
 many:D.l.length<=400
 used:jX D.l<=1048576
 cap:D.cap<=1048576
 fails:D.fails<=1099511627777
theorem Qb{l:List zi}{n:Tw}(h:¬jW l n<l.length):l[jW l n]? = none:=List.getElem?_eq_none (by omega)
theorem rU{l:List zi}{f:zi}(h:f∈l):f.data.size<=jX l:=by
 induction l with
 | nil=>cases h
 | cons x l a =>
   have e:jX (x::l)=x.data.size+jX l:=(by unfold jX;simp);rcases qL.1 h with rfl|h
   ·omega
   ·have:=a h;omega
theorem mU(l:List zi):∀(k:Nat) (f:zi) (h:zi->zi),l[k]? = some f->jX (ja l k h)+f.data.size=jX l+(h f).data.size:=by
 induction l with
 | nil=>intro k f h a;simp at a
 | cons x l c =>
   intro k f h a;have e:∀x l,jX (x::l)=x.data.size+jX l:=fun x l=>by unfold jX;simp
   cases k with
   | zero =>
     obtain rfl:x=f:=(by simpa using a);have b:ja (x::l) 0 h=h x::l:=rfl;rw[b,e,e];omega
   | succ k =>
     have b:ja (x::l) (k+1) h=x::ja l k h:=rfl;have:=c k f h (by simpa using a);rw[b,e,e];omega
theorem Qc{l:List zi}{k:Nat}{h:zi->zi}{x:zi}(c:x∈ja l k h):x∈l∨∃f,l[k]? = some f/\x=h f:=by
 obtain⟨j,a⟩:=List.getElem?_of_mem c;rw[Qg]at a;by_cases e:j=k
 ·subst e;rw[qK rfl]at a;cases b:l[j]? with
  | none=>rw[b]at a;cases a
  | some f=>rw[b]at a;exact qY ⟨f,rfl,by simpa using a.symm⟩
 ·rw[qJ e]at a;exact qX (qO a)
theorem nr.app{D:zr}(h:nr D){k:Nat}{f:zi}(d:D.l[k]? = some f)(s:Tw)(j:jX D.l+s.size<=D.cap):nr { D with l:=ja D.l k (fun f=>{ f with data:=f.data++s }) }:=by
 have n:jX (ja D.l k (fun f=>{ f with data:=f.data++s }))+f.data.size=jX D.l+(f.data++s).size:=mU D.l k f (fun f=>{ f with data:=f.data++s }) d;have p:(f.data++s).size=f.data.size+s.size:=qT;have i:=h.cap;have o:jX (ja D.l k (fun f=>{ f with data:=f.data++s }))=jX D.l+s.size:=by omega
 refine⟨fun x a=>?_,by show(ja _ _ _).length<=_;rw[Qu];exact h.many,by show jX (ja _ _ _)<=_;omega,h.cap,h.fails⟩;have g:x.data.size<=jX (ja D.l k (fun f=>{ f with data:=f.data++s })):=rU a;refine⟨?_,by omega⟩;rcases Qc a with a|⟨b,c,rfl⟩
 ·exact(h.xY x a).1
 ·have:=(h.xY b (qO c)).1;show b.synced<=(b.data++s).size;rw[qT];omega
def yf(c:Nat):zr:=⟨c,[],0,false,0,0,[]⟩
theorem mY.qw{w:World}{v:Value}{l:List Int}(h:mY w v l):ju w v l:=by
 rcases h with h|⟨b,off,d,cs,f,g,j,k,a,n⟩
 ·exact qX h
 ·refine qY ⟨b,off,d,g,j,k, ?_,fun i x o=>?_⟩
  ·rcases Nat.lt_or_ge b w.heap.size with c|c
   ·exact c
   ·rw[Array.getElem?_eq_none c]at a;cases a
  ·rw[cell_of_row w b (off+i) cs _ f a];exact n i x o
theorem ju.qa{F:List Nat}{w w':World}{v:Value}{l:List Int}(h:ju w v l)(c:ze F w w')(hF:∀b,v.ownBlock=some b->b ∉ F):ju w' v l:=by
 rcases h with h|⟨b,off,d,rfl,f,g,a,j⟩
 ·exact qX h
 ·exact qY ⟨b,off,d,rfl,f,g,qP a c.size,fun i x k=>(c.cell (p:=⟨b,off+i,none⟩) a (hF b rfl)).trans (j i x k)⟩
structure vA(D:zr):Prop where
 xY:∀f∈D.l,f.synced<=f.data.size/\f.data.size<=1048576
 many:D.l.length<=400
 used:jX D.l<=1048576
 cap:D.cap<=1048576
abbrev jK:= World->Nat->Nat->List Nat->zr->Prop
abbrev ptr(g:Nat):Value:=.pointer (some ⟨g,0,none⟩)
def ks(b:jK)(base g:Nat)(F:List Nat)(w:World)(v:Value)(E:zr)(e:Ending)(w':World):Prop :=
 ∃a,e = .returned v/\b w' base g a E/\(∀x∈a,x∈F∨w.heap.size<=x)/\ze F w w'
def yQ(w:World)(v:Value)(l:List Tw):Prop :=
 (l=[]/\∃a c,v = .slice a 0 c)∨∃b off d,v = .slice (some ⟨b,off,none⟩) l.length d/\l.length<=d/\d<=maxLen/\b<w.heap.size/\∀i x,l[i]? = some x->w.cell? ⟨b,off+i,none⟩=some (.string x)
theorem yQ.cell{w:World}{v:Value}{l:List Tw}(h:yQ w v l):∃A off d,v = .slice A l.length d/\l.length<=maxLen/\∀i x,l[i]? = some x->∃b,A=some ⟨b,off,none⟩/\w.cell? ⟨b,off+i,none⟩=some (.string x):=by
 rcases h with⟨rfl,a,c,rfl⟩|⟨b,off,d,f,k,n,o,g⟩
 ·exact⟨a,0,c,rfl,qH _,fun i x h=>by simp at h⟩
 ·exact⟨some ⟨b,off,none⟩,off,d,f,by omega,fun i x j=>⟨b,rfl,g i x j⟩⟩
def Qd(c:jK)(base g:Nat)(F:List Nat)(w:World)(l:List Tw)(E:zr)(e:Ending)(w':World):Prop :=
 ∃a v,e = .returned v/\yQ w' v l/\(∀b,v.ownBlock=some b->w.heap.size<=b/\b ∉ a)/\c w' base g a E/\(∀x∈a,x∈F∨w.heap.size<=x)/\ze F w w'
def Qf(a:jK)(base:Nat)(w:World)(c:Nat)(e:Ending)(w':World):Prop :=
 ∃g F,e = .returned (.tuple #[ptr g,.int .i64 0])/\a w' base g F (yf c)/\(∀x∈F,w.heap.size<=x)/\ze [] w w'
abbrev err(n:Nat):Value:=.int .i64 (n:Nat)
structure jY(At:jK):Prop where
 qa:∀ {w w':World} {base g:Nat} {F G:List Nat} {D:zr},At w base g F D->ze G w w'->(∀x∈F,x ∉ G)->At w' base g F D
 low:∀ {w:World} {base g:Nat} {F:List Nat} {D:zr},At w base g F D->∀x∈F,base<=x/\x<w.heap.size
 zf : ∀(base c:Nat) (w:World),base<=w.heap.size->c<=1048576->Calls prog 24 #[.int .i64 (c:Nat)] w (Qf At base w c)
 create:∀ {w:World} {base g:Nat} {F:List Nat} {D:zr} (n:Tw),At w base g F D->vA D->n.size<=maxLen ->
  Calls prog 201 #[ptr g,.string n] w (ks At base g F w (err (jB D n).1) (jB D n).2)
 append:∀ {w:World} {base g:Nat} {F:List Nat} {D:zr} (n s:Tw),At w base g F D->vA D->s.size<=1099511627776->n.size<=maxLen ->
  Calls prog 203 #[ptr g,.string n,.string s] w (ks At base g F w (err (jF D n s).1) (jF D n s).2)
 read:∀ {w:World} {base g:Nat} {F:List Nat} {D:zr} (n:Tw) (a k:Int),At w base g F D->vA D->D.count<=1099511627776->(Lit.int .i64 a).wf=true->(Lit.int .i64 k).wf=true->n.size<=maxLen ->
  Calls prog 130 #[ptr g,.string n,.int .i64 a,.int .i64 k] w (ks At base g F w (.tuple #[.string (jx D n a k).1,err (jx D n a k).2.1]) (jx D n a k).2.2)
 sync:∀ {w:World} {base g:Nat} {F:List Nat} {D:zr} (n:Tw),At w base g F D->vA D->n.size<=maxLen ->
  Calls prog 160 #[ptr g,.string n] w (ks At base g F w (err (j6 D n).1) (j6 D n).2)
 rename:∀ {w:World} {base g:Nat} {F:List Nat} {D:zr} (n m:Tw),At w base g F D->vA D->m.size<=maxLen->n.size<=maxLen ->
  Calls prog 245 #[ptr g,.string n,.string m] w (ks At base g F w (err (vY D n m).1) (vY D n m).2)
 delete:∀ {w:World} {base g:Nat} {F:List Nat} {D:zr} (n:Tw),At w base g F D->vA D->n.size<=maxLen ->
  Calls prog 125 #[ptr g,.string n] w (ks At base g F w (err (jL D n).1) (jL D n).2)
 names:∀ {w:World} {base g:Nat} {F:List Nat} {D:zr},At w base g F D->vA D ->
  Calls prog 98 #[ptr g] w (Qd At base g F w (D.l.map zi.name) D)
 free:∀ {w:World} {base g:Nat} {F:List Nat} {D:zr},At w base g F D->vA D ->
  Calls prog 177 #[ptr g] w (ks At base g F w (.int .i64 ((D.cap:Int)-(jX D.l:Nat))) D)
 reads:∀ {w:World} {base g:Nat} {F:List Nat} {D:zr},At w base g F D->vA D ->
  Calls prog 12 #[ptr g] w (ks At base g F w (.int .i64 (D.count:Nat)) D)
 zl:∀ {w:World} {base g:Nat} {F:List Nat} {D:zr} (v:Value) (keep:List Int),At w base g F D->vA D->ju w v keep->(∀b,v.ownBlock=some b->b ∉ F)->keep.length<=1048576 ->
  Calls prog 25 #[ptr g,v] w (ks At base g F w (err (gv D keep).1) (gv D keep).2)
 zg:∀ {w:World} {base g:Nat} {F:List Nat} {D:zr},At w base g F D->Calls prog 151 #[ptr g] w fun e w'=>e = .returned (.bool (!D.down))/\w=w'
 zW:∀ {w:World} {base g:Nat} {F:List Nat} {D:zr},At w base g F D->Calls prog 75 #[ptr g] w fun e w'=>e = .returned (.int .i64 (D.qn:Nat))/\w=w'
 xo:∀ {w:World} {base g:Nat} {F:List Nat} {D:zr} (n:Tw),At w base g F D->vA D->n.size<=maxLen->Calls prog 129 #[ptr g,.string n] w fun e w'=>e = .returned (.tuple #[.int .i64 ((jQ D n).1:Nat),err (jQ D n).2])/\w=w'
 qo:∀ {w:World} {base g:Nat} {F:List Nat} {D:zr},At w base g F D->D.l.Pairwise (fun f g=>kB f.name g.name=true)/\∀f∈D.l,ky f.name=true
theorem nt{a b:Int}(h:a=b):Value.int .u32 a = .int .u32 b:=by rw[h]
theorem UB{a b:Int}(h:a=b):Ending.returned (.int .u32 a) = .returned (.int .u32 b):=by rw[h]
theorem UC(y:Nat)(d:y<4294967296):bits .xor .u32 ((y:Int)/2) (bits .and .u32 (y:Int) 1*3988292384%4294967296)=((stp y:Nat):Int):=by
 have a:bits .and .u32 (y:Int) 1=((y%2:Nat):Int):=by
  have h:=u32_and_nat y 1 d (by decide);rw[nat_mask1]at h;exact h
 have b:((y%2:Nat):Int)*3988292384%4294967296=((y%2*3988292384:Nat):Int):=by omega
 have c:(y:Int)/2=((y/2:Nat):Int):=by omega
 rw[a,b,c];exact u32_xor_nat _ _ (by omega) (by omega)
theorem UD(x c:Nat)(w:World)(b:x<4294967296)(g:c<256):
  Calls prog 307 #[.int .u32 (x:Nat),.int .u8 (c:Nat)] w fun e w'=>e = .returned (.int .u32 (mZ x c:Nat))/\w=w':=by
 go_enter func307,ntmps307;go_wp2
 go_loop [0,9] (fun a i=>∃k:Nat,k<=8/\i = .int .i64 k/\a = .int .u32 (stk k (x^^^c):Nat)) (fun _ i=>8-(intOf i).toNat)
 case atStart=>exact⟨0,by omega,rfl,nt (u32_xor_nat x c b (by omega))⟩
 case round =>
  obtain⟨k,j,rfl,rfl⟩:=hrel;by_cases l:k<8
  ·have f:stk k (x^^^c)<4294967296:=rZ k (rX b (by omega));have d:=qQ (Yc k (x^^^c));generalize stk k (x^^^c)=y at*;go_wp2
   go_round
   case rel=>exact⟨k+1,by omega,by go_num,nt (by rw[d.out];exact UC y f)⟩
   case measure=>simp[intOf];omega
  ·obtain rfl:k=8:=(by omega);go_wp2;go_ret;exact⟨rfl,rfl⟩
theorem Qh(x:Nat)(a:x<4294967296):bits .xor .u32 IntKind.u32.max (x:Int)=((4294967295-x:Nat):Int):=by
 have e:IntKind.u32.max=((4294967295:Nat):Int):=by decide
 rw[e,Yn a];exact u32_xor_nat _ _ (by decide) a
theorem UE(x:Nat)(s:Tw)(w:World)(o:x<4294967296)(n:s.size<=maxLen):
  Calls prog 285 #[.int .u32 (x:Nat),.string s] w fun e w'=>e = .returned (.int .u32 (mJ x s.data.toList:Nat))/\w=w':=by
 unfold maxLen at n;go_enter func285,ntmps285;go_wp2
 go_loop [5,11] (fun a i=>∃k:Nat,k<=s.size/\i = .int .i64 k/\a = .int .u32 (uZ (4294967295-x) (s.data.toList.take k):Nat)) (fun _ i=>s.size-(intOf i).toNat)
 case atStart =>
  exact⟨0,by omega,rfl,nt (by rw[List.take_zero,Yd];exact Qh x o)⟩
 case round =>
  obtain⟨k,p,rfl,rfl⟩:=hrel;have c:uZ (4294967295-x) (s.data.toList.take k)<4294967296:=Qj _ (by omega);by_cases l:k<s.size
  ·have b:=qQ (rQ s k l);have g:=qQ (Yl (4294967295-x) (s.data.toList.take k) s[k]);have j:=(s[k]).toNat_lt;generalize uZ (4294967295-x) (s.data.toList.take k)=y at*;go_wp2_with fail;refine(UD y _ _ c j).mono ?_;rintro e w'⟨rfl,rfl⟩;go_wp2
   go_round
   case rel=>exact⟨k+1,by omega,by go_num,nt (by rw[b.out,g.out])⟩
   case measure=>simp[intOf];omega
  ·obtain rfl:k=s.size:=(by omega);have b:List.take s.size s.data.toList=s.data.toList:=qg (by simp);have d:mJ x s.data.toList=4294967295-uZ (4294967295-x) s.data.toList:=rfl;rw[b]at c ⊢;clear b;generalize uZ (4294967295-x) s.data.toList=y at*;have f:=qQ d;clear d;go_wp2;go_ret;exact⟨UB (by rw[f.out];exact Qh y c),rfl⟩
theorem UF(s:Tw)(w:World)(a:s.size<=maxLen):
  Calls prog 251 #[.string s] w fun e w'=>e = .returned (.int .u32 (nc s.data.toList:Nat))/\w=w':=by
 have h:=qQ (fun w=>UE 0 s w (by decide) a);unfold maxLen at a;go_enter func251,ntmps251;go_wp2_with fail;refine(h.out _).mono ?_;rintro e w'⟨rfl,rfl⟩;go_wp2;go_ret;exact⟨rfl,rfl⟩
theorem Ql: ∀(k n j:Nat) (h:j<(be k n).length),(be k n)[j]=UInt8.ofNat (n/256 ^ (k-1-j))
 | 0,n,j,h=>by simp[be]at h
 | k+1,n,0,h=>by simp[be]
 | k+1,n,j+1,h=>by
   have a:j<(be k n).length:=(by simpa[be] using h);have e:k+1-1-(j+1)=k-1-j:=(by omega);simp only[be,List.getElem_cons_succ,Ql k n j a,e]
def dm(n N k j:Nat):Value:=.int .u8 (if j+k<N then 0 else((n/256 ^ (N-1-j)%256:Nat):Int))
theorem UH(n N k j:Nat)(b:k<N):(if j=N-1-k then Value.int .u8 ((n/256 ^ k%256:Nat):Int) else dm n N k j)=dm n N (k+1) j:=by
 unfold dm;by_cases h:j=N-1-k
 ·have e:N-1-j=k:=by omega
  rw[qK h,qJ (by omega),e]
 ·rw[qJ h];by_cases a:j+k<N
  ·rw[qK a,qK (by omega)]
  ·rw[qJ a,qJ (by omega)]
theorem UI(n N j:Nat)(h:j<(be N n).length):dm n N N j = .int .u8 ((be N n)[j].toNat:Int):=by
 unfold dm;rw[qJ (by omega),Ql,UInt8.toNat_ofNat']
theorem UL(n k:Nat):(n:Int)/2 ^ (8*k)%256=((n/256 ^ k%256:Nat):Int):=by
 have e:(2:Nat) ^ (8*k)=256 ^ k:=by rw[Nat.pow_mul]
 rw[<-e,Int.natCast_emod,Int.natCast_ediv,Int.natCast_pow];rfl
theorem uL(n N:Nat)(w:World)(f:1<=N)(g:N<=8)(s:n<18446744073709551616):
  Calls prog 142 #[.int .u64 (n:Nat),.int .i64 (N:Nat)] w fun e w'=>e = .returned (.string (bs (be N n)))/\Below w.heap.size w w':=by
 have r:=run_make_row' (P:=prog) 154 5 (.int .u8 0) 1 Tryz.underlying154 (by kernel_rfl) rfl .i64 .i64 N (by omega) (by omega);go_enter func142,ntmps142;go_wp2;go_loopw [16] (fun i wr=>∃k:Nat,k<=N/\i = .int .i64 k/\wr.rowIs w.heap.size 5 N (dm n N k)/\Below w.heap.size w wr) (fun i _=>N-(intOf i).toNat)
 case atStart=>exact⟨0,qH _,rfl,(World.rowIs_made _ _ _ _).congr (fun j a=>by unfold dm;rw[qK (by omega)]),(Below.refl _ _).alloc (qZ _) _⟩
 case round =>
  obtain⟨k,q,rfl,b,c⟩:=hrel;by_cases d:k<N
  ·have l:=b.cell (i:=N-1-k) (by omega);have p:=b.frozen (N-1-k);go_wp2;go_roundw
   case rel =>
    rw[UL n k];exact⟨k+1,by omega,by go_num,(b.set _ _).congr (fun j _=>UH n N k j d),c.setCell (qZ _) _⟩
   case measure=>simp[intOf];omega
  ·obtain rfl:k=N:=by omega
   have o:(convert 154 9 (.slice (some ⟨w.heap.size,0,none⟩) k k)).run prog wr = .ok (.string (bs (be k n))) wr:=by
    have h:=run_convert_bytes_back (P:=prog) wr 154 9 5 ⟨w.heap.size,0,none⟩ k (be k n) Tryz.underlying154 Tryz.underlying5 Tryz.underlying9
     (fun j a=>by
      have e:(⟨w.heap.size,0,none⟩:Addr).add j=⟨w.heap.size,j,none⟩:=(by simp[Addr.add];omega);rw[e,b.cell (by rw[jO]at a;exact a),UI n k j a])
    rw[jO]at h;exact h
   go_wp2;go_ret;exact⟨rfl,c⟩
theorem UM(i a b c d:Nat)(g:b<2 ^ i)(f:d<2 ^ i):(2 ^ i*a+b)&&&(2 ^ i*c+d)=2 ^ i*(a&&&c)+(b&&&d):=by
 apply Nat.eq_of_testBit_eq;intro j;rw[Nat.testBit_and,Nat.testBit_two_pow_mul_add a g,Nat.testBit_two_pow_mul_add c f,Nat.testBit_two_pow_mul_add (a&&&c) (Nat.and_lt_two_pow b f)];split<;>rw[Nat.testBit_and]
theorem UN(i a b c d:Nat)(f:b<2 ^ i)(g:d<2 ^ i):(2 ^ i*a+b)|||(2 ^ i*c+d)=2 ^ i*(a|||c)+(b|||d):=by
 apply Nat.eq_of_testBit_eq;intro j;rw[Nat.testBit_or,Nat.testBit_two_pow_mul_add a f,Nat.testBit_two_pow_mul_add c g,Nat.testBit_two_pow_mul_add (a|||c) (Nat.or_lt_two_pow f g)];split<;>rw[Nat.testBit_or]
theorem Qm(x:Nat):x&&&16711935=65536*(x/65536%256)+x%256:=by
 have h:=UM 16 (x/65536) (x%65536) 255 255 (Nat.mod_lt _ (by decide)) (by decide);have a:(2:Nat) ^ 16*(x/65536)+x%65536=x:=by omega
 have b:(2:Nat) ^ 16*255+255=16711935:=by decide
 rw[a,b,nat_mask8,nat_mask8]at h;rw[h];omega
theorem Qn(a b:Nat)(c:b<256):b|||(256*a)=256*a+b:=by
 rw[Nat.or_comm];exact nat_join 8 (256*a) b (by omega) (by omega)
def bO(n:Nat):Nat:=16777216*(n%256)+65536*(n/256%256)+256*(n/65536%256)+n/16777216%256
theorem Qp(n:Nat):bO n<4294967296:=by unfold bO;omega
theorem UO(n:Nat)(d:n<4294967296):be 4 (bO n)=(be 4 n).reverse:=by
 have e:un (be 4 n).reverse=bO n:=by
  have a:(256:Nat) ^ 1=256:=by decide
  have b:(256:Nat) ^ 2=65536:=by decide
  have c:(256:Nat) ^ 3=16777216:=by decide
  simp only[a,b,c,Nat.pow_zero,Nat.div_one,be,List.reverse_cons,List.reverse_nil,List.nil_append,List.cons_append,un,List.foldl_cons,List.foldl_nil,UInt8.toNat_ofNat'];unfold bO;omega
 have h:=dd (be 4 n).reverse;rw[List.length_reverse,jO,e]at h;exact h
theorem UP(n:Nat)(q:n<4294967296):bits .or .u32 (bits .and .u32 ((n:Int)/256) 16711935) (bits .and .u32 (n:Int) 16711935*256%4294967296) =
  ((16777216*(n/65536%256)+65536*(n/16777216%256)+256*(n%256)+n/256%256:Nat):Int):=by
 have j:(n:Int)/256=((n/256:Nat):Int):=by omega
 have k:bits .and .u32 ((n/256:Nat):Int) 16711935=((n/256&&&16711935:Nat):Int):=u32_and_nat _ _ (by omega) (by decide);have l:bits .and .u32 (n:Int) 16711935=((n&&&16711935:Nat):Int):=u32_and_nat _ _ q (by decide);rw[j,k,l,Qm,Qm];have g:n/256/65536%256=n/16777216%256:=by omega
 have r:n%256<256:=Nat.mod_lt _ (by decide);have s:n/256%256<256:=Nat.mod_lt _ (by decide);have u:n/65536%256<256:=Nat.mod_lt _ (by decide);have v:n/16777216%256<256:=Nat.mod_lt _ (by decide);rw[g];generalize n%256=a at*;generalize n/256%256=b at*;generalize n/65536%256=c at*;generalize n/16777216%256=d at*;have o:((65536*c+a:Nat):Int)*256%4294967296=((65536*(256*c)+256*a:Nat):Int):=by omega
 rw[o];have p:=u32_or_nat (65536*d+b) (65536*(256*c)+256*a) (by omega) (by omega);rw[p];have f:=UN 16 d b (256*c) (256*a) (by omega) (by omega);rw[Qn c d (by omega),Qn a b (by omega)]at f;have i:(2:Nat) ^ 16=65536:=by decide
 rw[i]at f;rw[f];omega
theorem UR(m:Nat)(c:m<4294967296):bits .or .u32 ((m:Int)/65536) ((m:Int)*65536%4294967296)=((m%65536*65536+m/65536:Nat):Int):=by
 have a:(m:Int)/65536=((m/65536:Nat):Int):=by omega
 have b:(m:Int)*65536%4294967296=((m%65536*65536:Nat):Int):=by omega
 rw[a,b,u32_or_nat _ _ (by omega) (by omega),Nat.or_comm];rw[nat_join 16 _ _ (by omega) (by omega)]
theorem US(n:Nat)(w:World)(b:n<4294967296):
  Calls prog 250 #[.int .u32 (n:Nat)] w fun e w'=>e = .returned (.int .u32 (bO n:Nat))/\w=w':=by
 have a:=qQ (UP n b);go_enter func250,ntmps250;go_wp2;go_ret;refine⟨ln ?_,rfl⟩;rw[a.out,UR _ (by omega)];unfold bO;omega
theorem UT(n:Nat)(w:World)(a:n<4294967296):
  Calls prog 142 #[.int .u64 (bO n:Nat),.int .i64 4] w fun e w'=>e = .returned (.string (bs (be 4 n).reverse))/\Below w.heap.size w w':=by
 rw[<-UO n a];exact uL (bO n) 4 w (by omega) (by omega) (by have:=Qp n;omega)
theorem Qr(s:Tw)(w:World)(b:s.size<=maxLen):
  Calls prog 211 #[.string s] w fun e w'=>e = .returned (.string (bs (vl s.data.toList)))/\Below w.heap.size w w':=by
 have c:=qQ (fun w=>UF s w b);have a:=Yr s.data.toList;unfold vl;generalize nc s.data.toList=n at*;have d:=qQ (fun w=>US n w a);have f:=qQ (fun w=>UT n w a);have i:=Qp n;generalize bO n=m at*;generalize bs (be 4 n).reverse=t at*;unfold maxLen at b;go_enter func211,ntmps211;go_wp2_with fail;refine(c.out _).mono ?_;rintro e w'⟨rfl,rfl⟩;go_wp2_with fail;refine(d.out _).mono ?_;rintro e w'⟨rfl,rfl⟩;go_wp2_with fail;refine(f.out _).mono ?_;rintro e w'⟨rfl,g⟩;go_wp2;go_ret;exact⟨rfl,g⟩
def vg(s:Tw):Tw:=s++bs (vl s.data.toList)
theorem U0(s:Tw)(h:s.size+4<=maxLen)(l:List UInt8)(a:l.length=4)(w:World):(Op.stringOp .add s (bs l)).run prog w = .ok (.string (s++bs l)) w :=
 run_string_add_sum (P:=prog) (w:=w) s (bs l) (by rw[jh,a];exact h)
theorem na(s:Tw)(w:World)(a:s.size+4<=maxLen):
  Calls prog 197 #[.string s] w fun e w'=>e = .returned (.string (vg s))/\Below w.heap.size w w':=by
 have b:=qQ (fun w=>Qr s w (by omega));have d:=U0 s a _ (nd s.data.toList);unfold vg;generalize vl s.data.toList=t at*;unfold maxLen at a;go_enter func197,ntmps197;go_wp2_with fail;refine(b.out _).mono ?_;rintro e w'⟨rfl,c⟩;go_wp2;go_ret;exact⟨rfl,c⟩
def vt(s:Tw):Bool:=decide (4<=s.size/\s.extract (s.size-4) s.size=bs (vl (s.extract 0 (s.size-4)).data.toList))
def opA(s:Tw):Tw:=if vt s=true then s.extract 0 (s.size-4) else ByteArray.empty
theorem Qs{a b:Tw}(h:a=b):(a.toList==b.toList)=true:=by rw[h,beq_iff_eq]
theorem rG{a b:Tw}(h:¬a=b):(a.toList==b.toList)=false:=by
 rw[qy];intro x;rw[Lib.toList_data,Lib.toList_data]at x;exact h (ByteArray.ext (Array.toList_inj.1 x))
theorem U1(s:Tw)(w:World)(i:s.size<=maxLen)(k:4<=s.size)(T:Tw)
  (c:∀W,Below w.heap.size w W->Calls prog 211 #[.string (s.extract 0 (s.size-4))] W fun e w'=>e = .returned (.string T)/\Below w.heap.size w w'):
  Calls prog 157 #[.string s] w fun e w'=>e = .returned (.tuple #[.string (if s.extract (s.size-4) s.size=T then s.extract 0 (s.size-4) else ByteArray.empty),.bool (decide (s.extract (s.size-4) s.size=T))])/\Below w.heap.size w w':=by
 have b:=qQ c;clear c;unfold maxLen at i;have j:decide ((s.size:Int)-4<0)=false:=by simp;omega
 have l:(0:Int)<=(s.size:Int)-4:=by omega
 have p:(4:Int)<=(s.size:Int):=by omega
 have n:(s.size:Int)-4<=s.size:=by omega
 have o:((s.size:Int)-4).toNat=s.size-4:=by omega
 by_cases a:s.extract (s.size-4) s.size=T
 ·have g:=Qs a.symm;rw[qK a,qW a];have d:=qQ a;clear a;go_enter func157,ntmps157;go_wp2_with fail
  go_region_held3 (fun w'=>Below w.heap.size w w') (first | assumption | exact(Below.refl _ _).drew) ((go_at_call 211;refine(b.out _ (by assumption)).mono ?_;rintro e w'⟨rfl,f⟩))
  go_wp2;go_ret2;exact⟨rfl,‹Below _ _ _›⟩
 ·have g:=rG (fun h:T=s.extract (s.size-4) s.size=>a h.symm);rw[qJ a,qG a];have d:=qQ a;clear a;go_enter func157,ntmps157;go_wp2_with fail
  go_region_held3 (fun w'=>Below w.heap.size w w') (first | assumption | exact(Below.refl _ _).drew) ((go_at_call 211;refine(b.out _ (by assumption)).mono ?_;rintro e w'⟨rfl,f⟩))
  go_wp2;go_ret2;exact⟨rfl,‹Below _ _ _›⟩
theorem rW(s:Tw)(w:World)(f:s.size<=maxLen):
  Calls prog 157 #[.string s] w fun e w'=>e = .returned (.tuple #[.string (opA s),.bool (vt s)])/\Below w.heap.size w w':=by
 by_cases c:4<=s.size
 ·have h:=U1 s w f c (bs (vl (s.extract 0 (s.size-4)).data.toList)) (fun W d=>(Qr _ W (by unfold maxLen at*;rw[qS];omega)).mono fun e w' ⟨i,g⟩=>⟨i,d.trans (g.mono d.size)⟩);have a:vt s=decide (s.extract (s.size-4) s.size=bs (vl (s.extract 0 (s.size-4)).data.toList)):=by simp[vt,c]
  have b:opA s=if s.extract (s.size-4) s.size=bs (vl (s.extract 0 (s.size-4)).data.toList) then s.extract 0 (s.size-4) else ByteArray.empty:=by
   unfold opA;rw[a];simp
  rw[a,b];exact h
 ·have a:vt s=false:=by simp[vt,c]
  have b:opA s=ByteArray.empty:=by simp[opA,a]
  rw[a,b];clear a b;unfold maxLen at f;have j:decide ((s.size:Int)-4<0)=true:=by simp;omega
  go_enter func157,ntmps157;go_wp2_with fail;go_quiet (fail);go_wp2;go_ret2;exact⟨rfl,yg (Below.refl _ _) _⟩
end
section
theorem rA(l:List UInt8):(bs l).data.toList=l:=by simp[bs]
theorem uJ(s:Tw):s.data.toList.length=s.size:=Array.length_toList
theorem dX(s:Tw)(a b:Nat):(s.extract a b).data.toList=(s.data.toList.drop a).take (b-a):=by simp
theorem gF(s:Tw)(a b:Nat):s.extract a b=bs ((s.data.toList.drop a).take (b-a)):=by rw[<-dX,dQ]
theorem Qt(s:Tw):(vg s).data.toList=s.data.toList++vl s.data.toList:=by simp[vg,bs]
theorem U2(s:Tw):(vg s).size=s.size+4:=by rw[<-uJ,Qt,qI,nd,uJ]
end
section
open Go.RowKit
theorem U3(s:Tw)(k:Nat)(h:k<=7):un (s.data.toList.take k)<=72057594037927935:=by
 have b:=cA (s.data.toList.take k);have a:(s.data.toList.take k).length<=7:=by rw[qq];omega
 have c:256 ^ (s.data.toList.take k).length<=256 ^ 7:=Nat.pow_le_pow_right (by decide) a;have:(256:Nat) ^ 7=72057594037927936:=by decide
 omega
theorem U4(s:Tw)(k:Nat)(h:k<s.size):un (s.data.toList.take (k+1))=un (s.data.toList.take k)*256+(s[k]).toNat:=by
 rw[rQ s k h,Yg]
theorem U5(s:Tw)(k:Nat)(h:k=s.size∨k=8)(a:k<=8):un (s.data.toList.take k)=jJ s:=by
 unfold jJ;rcases h with h|h
 ·subst h;rw[qg (by simp),qg (by simp;omega)]
 ·rw[h]
theorem U6(a c:Nat)(g:a<=72057594037927935)(f:c<2 ^ 8):bits .or .u64 ((a:Int)*256) (c:Int)=((a*256+c:Nat):Int):=by
 have e:(a:Int)*256=((a*256:Nat):Int):=by omega
 have h:=Nat.shiftLeft_add_eq_or_of_lt f a;rw[Nat.shiftLeft_eq]at h
 have b:(BitVec.ofInt 64 ((a*256:Nat):Int)).toNat=a*256:=by
  rw[BitVec.ofInt_natCast,BitVec.toNat_ofNat];exact Nat.mod_eq_of_lt (by omega)
 have d:(BitVec.ofInt 64 (c:Int)).toNat=c:=by
  rw[BitVec.ofInt_natCast,BitVec.toNat_ofNat];exact Nat.mod_eq_of_lt (by omega)
 rw[e];show IntKind.u64.wrap ((BitVec.ofInt 64 ((a*256:Nat):Int)|||BitVec.ofInt 64 (c:Int)).toNat:Int)=_;rw[BitVec.toNat_or,b,d,<-show a*256+c=a*256|||c from h,IntKind.wrap_u64];omega
theorem gQ(s:Tw)(w:World)(g:s.size<=maxLen):
  Calls prog 131 #[.string s] w fun e w'=>e = .returned (.int .u64 (jJ s:Nat))/\w=w':=by
 unfold maxLen at g;by_cases l:s.size<=8
 all_goals
  go_enter func131,ntmps131;go_wp2
  go_loop [3,8] (fun n i=>∃k:Nat,k<=s.size/\k<=8/\i = .int .i64 k/\n = .int .u64 (un (s.data.toList.take k):Nat)) (fun _ i=>8-(intOf i).toNat)
  case atStart=>exact⟨0,qH _,by omega,rfl,rfl⟩
  case round =>
   obtain⟨k,p,d,rfl,rfl⟩:=hrel;by_cases f:k<s.size/\k<8
   ·obtain⟨a,j⟩:=f;have o:=U3 s k (by omega);have hst:=qQ (U4 s k a);have b:=(s[k]).toNat_lt;go_wp2
    go_round
    case rel=>exact⟨k+1,by omega,by omega,by go_num,by rw[hst.out,U6 _ _ (by omega) b]⟩
    case measure=>simp[intOf];omega
   ·have c:=qQ (U5 s k (by omega) d);go_wp2;go_ret;exact⟨ln (by rw[c.out]),rfl⟩
end
section
def dZ(n p:Int):Bool:=decide (60<=n/\n<=120000/\n%60=0/\1<=p/\p<=16)
theorem rB{n p:Int}:dZ n p=true↔60<=n/\n<=120000/\n%60=0/\1<=p/\p<=16:=by unfold dZ;exact decide_eq_true_iff
def hdL(n p:Nat):List UInt8:=[98,108,109,UInt8.ofNat p]++(be 4 n++List.replicate 52 0)
theorem U7(n p:Nat):(hdL n p).length=60:=by simp[hdL,jO]
def hdP(n p:Nat):Tw:=vg (bs (hdL n p))
def pgT(t:Tw)(j:Nat):Tw:=t.extract (64*j) (64*j+64)
def pgW(t:Tw)(j:Nat):Bool:=decide (64*j+64<=t.size)&&vt (pgT t j)
theorem U8(t:Tw)(j:Nat):(pgT t j).data.toList=(t.data.toList.drop (64*j)).take 64:=by unfold pgT;rw[dX,show 64*j+64-64*j=64 by omega]
theorem U9(t:Tw)(j i:Nat)(hi:i<64):(pgT t j).data.toList[i]? = t.data.toList[64*j+i]? := by rw[U8,List.getElem?_take,qK hi,List.getElem?_drop]
theorem rC{t:Tw}{j:Nat}(h:64*j+64<=t.size):(pgT t j).size=64:=by unfold pgT;rw[qS];omega
theorem rD{t:Tw}{j:Nat}:pgW t j=true↔64*j+64<=t.size/\vt (pgT t j)=true:=by unfold pgW;rw[Bool.and_eq_true,decide_eq_true_iff]
def hpT(t:Tw):Nat:=(t.data.toList.getD 3 0).toNat
def hnT(t:Tw):Nat:=jJ (t.extract 4 8)
def vb(t:Tw):Bool:=decide (64<=t.size)&&(dZ (hnT t) (hpT t)&&decide (t.extract 0 64=hdP (hnT t) (hpT t)))
theorem rE{t:Tw}:vb t=true↔64<=t.size/\dZ (hnT t) (hpT t)=true/\t.extract 0 64=hdP (hnT t) (hpT t):=by unfold vb;rw[Bool.and_eq_true,Bool.and_eq_true,decide_eq_true_iff,decide_eq_true_iff]
theorem rF{t:Tw}(h:t.size<64):vb t=false:=by
 unfold vb;rw[qG (by omega),Bool.false_and]
theorem Uq{t:Tw}(h:dZ (hnT t) (hpT t)=false):vb t=false:=by
 unfold vb;rw[h,Bool.false_and,Bool.and_false]
theorem Ux{t:Tw}(h:¬t.extract 0 64=hdP (hnT t) (hpT t)):vb t=false:=by
 unfold vb;rw[qG h,Bool.and_false,Bool.and_false]
def byT(t:Tw)(k:Nat):UInt8:=t.data.toList.getD (64*(k/480+1)+k/8%60) 0
def Qa(t:Tw)(k:Nat):Bool:=(byT t k).toNat.testBit (k%8)
def uK(t:Tw)(k:Nat):Bool:=pgW t (k/480+1)&&!Qa t k
def yR(t:Tw)(h:Nat):Bool:=!vb t||(cB h (hpT t) ((8*hnT t:Nat):Int)).all fun k=>!uK t k
theorem Qe{t:Tw}(h:vb t=false)(g:Nat):yR t g=true:=by unfold yR;rw[h];rfl
theorem Uz{t:Tw}(h:vb t=true)(g:Nat):yR t g=(cB g (hpT t) ((8*hnT t:Nat):Int)).all fun k=>!uK t k:=by unfold yR;rw[h];rfl
theorem Uj{t:Tw}{g:Nat}(H:∀k∈cB g (hpT t) ((8*hnT t:Nat):Int),uK t k=false):yR t g=true:=by
 unfold yR;rw[Bool.or_eq_true,List.all_eq_true];exact qY fun k a=>by rw[H k a];rfl
theorem Uk{t:Tw}{g k:Nat}(h:vb t=true)(a:k∈cB g (hpT t) ((8*hnT t:Nat):Int))(H:uK t k=true):yR t g=false:=by
 rw[Uz h,List.all_eq_false];exact⟨k,a,by rw[H];decide⟩
end
section
open Go.RowKit
theorem mG(s:Tw):s.data.toList.length=s.size:=Array.length_toList
theorem dbs(l:List UInt8):(bs l).data.toList=l:=by simp[bs]
theorem Qi(s:Tw):bs s.data.toList=s:=by
 apply ByteArray.ext;simp[bs]
def de: Nat->Nat->List UInt8
 | 0,_=>[]
 | k+1,n=>UInt8.ofNat (48+n/10 ^ k%10)::de k n
theorem fv: ∀k n:Nat,(de k n).length=k
 | 0,_=>rfl
 | k+1,n=>by simp[de,fv k n]
def isD(c:UInt8):Bool:=decide (48<=c.toNat/\c.toNat<=57)
def dv(l:List UInt8):Nat:=l.foldl (fun a c=>a*10+(c.toNat-48)) 0
theorem Uv(l:List UInt8)(c:UInt8):dv (l++[c])=dv l*10+(c.toNat-48):=by simp[dv]
theorem rH: ∀(l:List UInt8) (a:Nat),l.foldl (fun a c=>a*10+(c.toNat-48)) a=a*10 ^ l.length+dv l
 | [],a=>by simp[dv]
 | c::l,a=>by
   have h1:=rH l (a*10+(c.toNat-48));have b:=rH l (0*10+(c.toNat-48));simp only[dv,List.foldl_cons,List.length_cons]at*;rw[h1,b,Nat.pow_succ];simp only[Nat.add_mul,Nat.zero_mul,Nat.zero_add];rw[Nat.mul_assoc,Nat.mul_comm 10];omega
theorem rI(c:UInt8)(l:List UInt8):dv (c::l)=(c.toNat-48)*10 ^ l.length+dv l:=by
 have h:=rH l (0*10+(c.toNat-48));simp only[dv,List.foldl_cons]at*;rw[h];simp
theorem fu(d:Nat)(h:d<10):(UInt8.ofNat (48+d)).toNat=48+d:=by rw[UInt8.toNat_ofNat'];omega
theorem ni: ∀ {l:List UInt8},(∀c∈l,isD c=true)->dv l<10 ^ l.length
 | [],_=>by decide
 | c::l,h=>by
   have h1:=ni (fun x b=>h x (qF _ b));have a:=h c (qB ..);simp only[isD,decide_eq_true_eq]at a;rw[rI,qk,Nat.pow_succ];have:(c.toNat-48)*10 ^ l.length<=9*10 ^ l.length:=Nat.mul_le_mul_right _ (by omega);omega
theorem rL: ∀k n:Nat,dv (de k n)=n%10 ^ k
 | 0,n=>by rw[Nat.pow_zero,Nat.mod_one];rfl
 | k+1,n=>by
   have e:(10:Nat) ^ (k+1)=10 ^ k*10:=Nat.pow_succ ..;rw[de,rI,fv,rL k n,fu _ (Nat.mod_lt _ (by decide)),e,Nat.mod_mul,Nat.add_sub_cancel_left,Nat.mul_comm,Nat.add_comm]
theorem Qo: ∀(k n:Nat) (c:UInt8),c∈de k n->isD c=true
 | 0,n,c,h=>by cases h
 | k+1,n,c,h=>by
   rw[de]at h;rcases qL.1 h with rfl|h
   ·have:=Nat.mod_lt (n/10 ^ k) (show 0<10 by decide);unfold isD;rw[fu _ this];exact qW (by omega)
   ·exact Qo k n c h
theorem Uy: ∀ {l:List UInt8},(∀c∈l,isD c=true)->de l.length (dv l)=l:=by
 intro l a
 suffices h:∀(l:List UInt8) (m:Nat),(∀c∈l,isD c=true)->de l.length (m*10 ^ l.length+dv l)=l by
  have:=h l 0 a;simpa using this
 intro l
 induction l with
 | nil=>intro m _;rfl
 | cons c l j =>
   intro m a;have g:=ni (l:=l) (fun x b=>a x (qF _ b));have f:=a c (qB ..);simp only[isD,decide_eq_true_eq]at f;have i:0<10 ^ l.length:=Nat.pow_pos (by decide);rw[qk,de,rI]
   have e:m*10 ^ (l.length+1)+((c.toNat-48)*10 ^ l.length+dv l)=(m*10+(c.toNat-48))*10 ^ l.length+dv l:=by
    rw[Nat.pow_succ,Nat.add_mul,Nat.mul_assoc m 10,Nat.mul_comm 10];omega
   rw[e,j _ (fun x b=>a x (qF _ b))]
   have d:((m*10+(c.toNat-48))*10 ^ l.length+dv l)/10 ^ l.length=m*10+(c.toNat-48):=by
    rw[Nat.mul_comm,Nat.mul_add_div i,Nat.div_eq_of_lt g,Nat.add_zero]
   rw[d];congr 1;apply UInt8.toNat_inj.1;rw[show(m*10+(c.toNat-48))%10=c.toNat-48 by omega,fu _ (by omega)];omega
theorem Qw: ∀k a b:Nat,Op.bytesLess (de k a) (de k b)=decide (a%10 ^ k<b%10 ^ k)
 | 0,a,b=>by simp[de,Op.bytesLess,Nat.mod_one]
 | k+1,a,b=>by
   have hk:=Qw k a b;have g:=Nat.mod_lt (a/10 ^ k) (show 0<10 by decide);have i:=Nat.mod_lt (b/10 ^ k) (show 0<10 by decide);have f:0<10 ^ k:=Nat.pow_pos (by decide);have o:=Nat.mod_lt a f;have r:=Nat.mod_lt b f;rw[de,de,Op.bytesLess,hk,Nat.pow_succ,Nat.mod_mul,Nat.mod_mul];have l:=fu _ g;have n:=fu _ i;generalize a/10 ^ k%10=x at*;generalize b/10 ^ k%10=y at*;generalize a%10 ^ k=p at*;generalize b%10 ^ k=q at*;generalize 10 ^ k=P at*;rw[Bool.eq_iff_iff];simp only[Bool.or_eq_true,Bool.and_eq_true,decide_eq_true_eq,beq_iff_eq];rcases Nat.lt_trichotomy x y with h|h|h
   ·have c:(x+1)*P<=y*P:=Nat.mul_le_mul_right _ h;rw[Nat.add_mul,Nat.mul_comm x,Nat.mul_comm y]at c;have d:UInt8.ofNat (48+x)<UInt8.ofNat (48+y):=UInt8.lt_iff_toNat_lt.2 (by omega);simp only[d,true_or,true_iff];omega
   ·subst h;simp
   ·have c:(y+1)*P<=x*P:=Nat.mul_le_mul_right _ h;rw[Nat.add_mul,Nat.mul_comm x,Nat.mul_comm y]at c;have d:¬UInt8.ofNat (48+x)<UInt8.ofNat (48+y):=fun e=>by have:=UInt8.lt_iff_toNat_lt.1 e;omega
    have j:¬UInt8.ofNat (48+x)=UInt8.ofNat (48+y):=fun e=>by have:=congrArg UInt8.toNat e;omega
    simp only[d,j,false_and,or_false,false_iff];omega
def nmS(c:UInt8)(n:Int):Tw:=if 0<=n/\n<=999999 then bs (c::de 6 n.toNat) else ByteArray.empty
theorem Uu{c:UInt8}{n:Int}(h:¬(0<=n/\n<=999999)):nmS c n=ByteArray.empty:=by unfold nmS;rw[qJ h]
theorem dJ{c:UInt8}{n:Nat}(h:n<=999999):nmS c (n:Nat)=bs (c::de 6 n):=by unfold nmS;rw[qK (by omega),qh]
def isK(c:UInt8):Bool:=c==99||c==116||c==98
def kR(s:Tw):Bool:=match s.data.toList with
 | []=>false
 | c::l=>decide (l.length=6)&&isK c&&l.all isD
def npK(s:Tw):Nat:=if kR s=true then(s.data.toList.headD 0).toNat else 0
def npN(s:Tw):Nat:=if kR s=true then dv s.data.toList.tail else 0
theorem mW{s:Tw}(h:kR s=false):npK s=0/\npN s=0:=by simp[npK,npN,h]
theorem rM{s:Tw}(h:kR s=true):∃c l,s=bs (c::l)/\l.length=6/\isK c=true/\(∀x∈l,isD x=true)/\npK s=c.toNat/\npN s=dv l:=by
 have b:=h;unfold kR at h;cases a:s.data.toList with
 | nil=>rw[a]at h;cases h
 | cons c l =>
   rw[a]at h;simp only[Bool.and_eq_true,decide_eq_true_eq,List.all_eq_true]at h;refine⟨c,l,by rw[<-a,Qi],h.1.1,h.1.2,h.2, ?_, ?_⟩
   ·unfold npK;rw[qK b,a];rfl
   ·unfold npN;rw[qK b,a];rfl
theorem XQ(c:UInt8)(l:List UInt8)(d:l.length=6)(a:isK c=true)(b:∀x∈l,isD x=true):kR (bs (c::l))=true/\npK (bs (c::l))=c.toNat/\npN (bs (c::l))=dv l:=by
 have h:kR (bs (c::l))=true:=by
  unfold kR;rw[dbs];simp only[Bool.and_eq_true,decide_eq_true_eq,List.all_eq_true];exact⟨⟨d,a⟩,b⟩
 refine⟨h, ?_, ?_⟩
 ·unfold npK;rw[qK h,dbs];rfl
 ·unfold npN;rw[qK h,dbs];rfl
theorem nw{s:Tw}(h:∀c l,s.data.toList=c::l->¬(l.length=6/\isK c=true/\∀x∈l,isD x=true)):kR s=false:=by
 cases e:kR s with
 | false=>rfl
 | true =>
   obtain⟨c,l,f,a,b,d,_⟩:=rM e;exact absurd ⟨a,b,d⟩ (h c l (by rw[f,dbs]))
theorem rN{c:UInt8}{n:Nat}(f:isK c=true)(h:n<=999999):kR (nmS c (n:Nat))=true/\npK (nmS c (n:Nat))=c.toNat/\npN (nmS c (n:Nat))=n:=by
 rw[dJ h];obtain⟨a,b,d⟩:=XQ c (de 6 n) (fv _ _) f (fun x g=>Qo _ _ _ g);refine⟨a,b, ?_⟩;rw[d,rL];exact Nat.mod_eq_of_lt (by omega)
theorem XX{s:Tw}(h:kR s=true):npN s<=999999/\(npK s=99/\nmS 99 (npN s:Nat)=s∨npK s=116/\nmS 116 (npN s:Nat)=s∨npK s=98/\nmS 98 (npN s:Nat)=s):=by
 obtain⟨c,l,o,i,d,f,a,k⟩:=rM h;have n:=ni f;rw[i]at n;have j:npN s<=999999:=by rw[k];omega
 have g:=Uy f;rw[i]at g;have b:nmS c (npN s:Nat)=s:=by rw[dJ j,k,g,o]
 refine⟨j, ?_⟩;simp only[isK,Bool.or_eq_true,beq_iff_eq]at d;rcases d with(rfl|rfl)|rfl
 ·exact qX ⟨a,b⟩
 ·exact qY (qX ⟨a,b⟩)
 ·exact qY (qY ⟨a,b⟩)
theorem rO{c:UInt8}{n:Nat}(h:n<=999999):(nmS c (n:Nat)).size=7:=by rw[dJ h,jh,qk,fv]
theorem Ug(c:UInt8){m n:Nat}(a:m<=999999)(b:n<=999999):Op.bytesLess (nmS c (m:Nat)).toList (nmS c (n:Nat)).toList=decide ((m:Int)<(n:Int)):=by
 rw[dJ a,dJ b,Lib.toList_data,Lib.toList_data,dbs,dbs,Op.bytesLess,Qw,Nat.mod_eq_of_lt (show m<10 ^ 6 by omega),Nat.mod_eq_of_lt (show n<10 ^ 6 by omega)];have:¬c<c:=fun h=>by have:=UInt8.lt_iff_toNat_lt.1 h;omega
 rw[Bool.eq_iff_iff];simp[this]
theorem Ub(c:UInt8){m n:Nat}(b:m<=999999)(d:n<=999999):((nmS c (m:Nat)).toList==(nmS c (n:Nat)).toList)=((m:Int)==(n:Int)):=by
 rw[Bool.eq_iff_iff,beq_iff_eq,beq_iff_eq];constructor
 ·intro h;rw[Lib.toList_data,Lib.toList_data,dJ b,dJ d,dbs,dbs]at h;have a:=congrArg (fun l=>dv l.tail) h;simp only[List.tail_cons,rL]at a;omega
 ·intro h;have:m=n:=by omega
  rw[this]
def stS(s:Tw):Bool:=decide (1<=s.size/\s.size<=32)
theorem Uc{s:Tw}{c:UInt8}{l:List UInt8}(h:s.data.toList=c::l)(j:Nat)(d:j<l.length)(a:j+1<s.size):s[j+1]'a=l[j]:=by
 have b:s.data.toList[j+1]'(by rw[mG];exact a)=l[j]:=by simp[h]
 exact b
theorem XZ{s:Tw}{c:UInt8}{l:List UInt8}(h:s.data.toList=c::l)(a:0<s.size):s[0]'a=c:=by
 have b:s.data.toList[0]'(by rw[mG];exact a)=c:=by simp[h]
 exact b
theorem Ud{l:List UInt8}{j:Nat}(a:j<l.length):dv (l.take (j+1))=dv (l.take j)*10+(l[j].toNat-48):=by
 rw[List.take_add_one,qD a];exact Uv _ _
structure jz: Prop where
 stream:∀(s:Tw) (w:World),s.size<=maxLen->Calls prog 46 #[.string s] w fun e w'=>e = .returned (.bool (stS s))/\Below w.heap.size w w'
 chunk:∀(n:Int) (w:World),(Lit.int .i64 n).wf=true->Calls prog 128 #[.int .i64 n] w fun e w'=>e = .returned (.string (nmS 99 n))/\Below w.heap.size w w'
 table:∀(n:Int) (w:World),(Lit.int .i64 n).wf=true->Calls prog 123 #[.int .i64 n] w fun e w'=>e = .returned (.string (nmS 116 n))/\Below w.heap.size w w'
 zm:∀(n:Int) (w:World),(Lit.int .i64 n).wf=true->Calls prog 124 #[.int .i64 n] w fun e w'=>e = .returned (.string (nmS 98 n))/\Below w.heap.size w w'
 parse:∀(s:Tw) (w:World),s.size<=maxLen->Calls prog 126 #[.string s] w fun e w'=>e = .returned (.tuple #[.int .u8 (npK s:Nat),.int .i64 (npN s:Nat),.bool (kR s)])/\Below w.heap.size w w'
end
section
open Go.RowKit
open Go.Maps (Keyed)
def pgC(l:List UInt8):Array Value:=(l.map fun c=>Value.int .u8 (c.toNat:Int)).toArray
def pgV(l:List UInt8):Value:=.agg (pgC l)
theorem mA(l:List UInt8):(pgC l).size=l.length:=by unfold pgC;rw[List.size_toArray,qj]
theorem Uf(l:List UInt8){i:Nat}(hi:i<l.length):(pgC l)[i]? = some (.int .u8 ((l.getD i 0).toNat:Int)):=by
 unfold pgC;rw[List.getElem?_toArray,qz,qu,qD hi];rfl
theorem mB(l:List UInt8):(pgC l).all (·.oneCell')=true:=by
 unfold pgC;rw[List.all_toArray,List.all_eq_true];intro x a;obtain⟨c,_,rfl⟩:=qN.1 a;rfl
def gh: Value->Option UInt8
 | .int .u8 n=>if n=((UInt8.ofNat n.toNat).toNat:Int) then some (UInt8.ofNat n.toNat) else none
 | _=>none
theorem Uh(c:UInt8):gh (.int .u8 (c.toNat:Int))=some c:=by simp[gh]
theorem Ul{v:Value}{c:UInt8}(h:gh v=some c):v = .int .u8 (c.toNat:Int):=by
 unfold gh at h;split at h
 ·rename_i n;split at h
  ·rename_i e;injection h with h;rw[<-h,<-e]
  ·cases h
 ·cases h
def pgR: Value->Option (DataW Unit × List MemPlace)
 | .agg cs=>(cs.toList.mapM gh).map fun l=>(.lit (.string l),[])
 | _=>none
theorem XJ: ∀l:List UInt8,(l.map fun c=>Value.int .u8 (c.toNat:Int)).mapM gh=some l
 | []=>rfl
 | c::l=>by rw[List.map_cons,List.mapM_cons,Uh,XJ l];rfl
theorem XK: ∀ {cs:List Value} {l:List UInt8},cs.mapM gh=some l->cs=l.map fun c=>Value.int .u8 (c.toNat:Int)
 | [],l,h=>by rw[List.mapM_nil]at h;injection h with h;rw[<-h];rfl
 | v::cs,l,h=>by
   rw[List.mapM_cons]at h;cases e1:gh v with
   | none=>rw[e1]at h;cases h
   | some c =>
     cases e2:cs.mapM gh with
     | none=>rw[e1,e2]at h;cases h
     | some m =>
       rw[e1,e2]at h;injection h with h;rw[<-h,List.map_cons,<-XK e2,<-Ul e1]
theorem Um(l:List UInt8):pgR (pgV l)=some (.lit (.string l),[]):=by
 show((pgC l).toList.mapM gh).map _=_;unfold pgC;rw[List.toList_toArray,XJ];rfl
theorem Un{v:Value}{y:DataW Unit × List MemPlace}(h:pgR v=some y):∃l,v=pgV l/\y=(.lit (.string l),[]):=by
 unfold pgR at h;split at h
 ·rename_i cs;cases e:cs.toList.mapM gh with
  | none=>rw[e]at h;cases h
  | some l =>
    rw[e]at h;injection h with h;refine⟨l, ?_,h.symm⟩;unfold pgV pgC;rw[<-XK e,Array.toArray_toList]
 ·cases h
def dp(k:Nat):Lit:=.int .i64 (k:Int)
theorem XV{a b:Nat}(h:dp a=dp b):a=b:=by unfold dp at h;injection h with _ h;omega
theorem XY{k:Nat}(h:k<=1000000):keyOf prog 3 (.int .i64 (k:Int))=some (dp k):=Maps.keyOf_int_mk Tryz.underlying3 (WalkArith.wf_i64 (by omega))
theorem Up(k:Nat):WideAt.IsKeyLit (dp k):=trivial
theorem XU: Keyed prog 3:=Maps.int_keyed Tryz.underlying3
theorem XG(w:World):(zeroValue 335).run prog w = .ok (pgV (List.replicate 60 0)) w:=by kernel_rfl
theorem oQ: (prog.info? 335).map (·.size)=some 60:=by kernel_rfl
def pgB(t:Tw)(k:Nat):List UInt8:=(pgT t (k+1)).data.toList.take 60
theorem XW{t:Tw}{k:Nat}(h:pgW t (k+1)=true):(pgB t k).length=60:=by
 unfold pgB;rw[qq,uJ,rC (rD.1 h).1];decide
theorem Ur{t:Tw}{k:Nat}(x:Nat)(b:k=x/480):(pgB t k).getD (x/8%60) 0=byT t x:=by
 have a:x/8%60<60:=Nat.mod_lt _ (by decide);unfold pgB byT;rw[qu,qu,List.getElem?_take,qK a,U9 _ _ _ (by omega),b]
structure Us(D0:DataW Unit)(t:Tw)(m:Nat):Prop where
 yes:∀k,k<m->pgW t (k+1)=true->∀zd,D0.atKey (dp k) zd = .lit (.string (pgB t k))
 no:∀k,m<=k∨pgW t (k+1)=false->Maps.has D0 (dp k)=false
def vX(w:World)(mb:Nat)(t:Tw)(m:Nat):Prop:=∃a,w.ownsMap prog 3 pgR mb m a/\Maps.IsMap a/\Us a t m
section
variable {w w':World}{mb m:Nat}{t:Tw}
theorem vX.lt(h:vX w mb t m):mb<w.heap.size:=by
 obtain⟨b,a,c⟩:=h;exact a.lt
theorem vX.of_block(h:vX w mb t m)(e:w'.heap[mb]? = w.heap[mb]?):vX w' mb t m:=by
 obtain⟨a,⟨c,b,f,r⟩,d⟩:=h;exact⟨a,⟨c,b,e.trans f,r⟩,d⟩
theorem vX.below(h:vX w mb t m)(a:Below w.heap.size w w'):vX w' mb t m:=h.of_block (a.block _ h.lt)
theorem vX.new(w:World)(t:Tw):vX (w.alloc (.map #[] 0)) w.heap.size t 0 :=
 ⟨.map [],World.ownsMap_made w _ _ _,⟨[],rfl⟩,fun k a=>by omega,fun k _=>rfl⟩
theorem vX.skip(h:vX w mb t m)(g:pgW t (m+1)=false):vX w mb t (m+1):=by
 obtain⟨c,d,f,b⟩:=h;refine⟨c,d.mono (Nat.le_succ m),f,fun k a hw=>?_,fun k a=>?_⟩
 ·by_cases e:k=m
  ·rw[e,g]at hw;cases hw
  ·exact b.yes k (by omega) hw
 ·refine b.no k ?_;rcases a with a|a
  ·exact qX (by omega)
  ·exact qY a
theorem vX.look(h:vX w mb t m){k:Nat}(r:k<=1000000):
  (Instr.lookup 235 (.map (some mb)) (.int .i64 (k:Int)) true).run prog w = .ok (.tuple #[pgV (if k<m/\pgW t (k+1)=true then pgB t k else List.replicate 60 0),.bool (decide (k<m)&&pgW t (k+1))]) w:=by
 obtain⟨s,⟨z,u,q,F,_,rfl⟩,A,g⟩:=h;rcases Maps.fit_look true XU Tryz.underlying235 (XG w) q F (XY r) with⟨i,_,d⟩|⟨v,y,_,_,i,p,d,_⟩
 ·have n:¬(k<m/\pgW t (k+1)=true):=fun f=>by
   have a:=g.yes k f.1 f.2;have j:=a (.lit (.int .i64 0));rw[d]at j;cases j
  rw[i,qJ n]
  have:(decide (k<m)&&pgW t (k+1))=false:=by
   by_cases c:k<m
   ·rw[qW c,Bool.true_and];exact Bool.eq_false_iff.2 (fun e=>n ⟨c,e⟩)
   ·rw[qG c,Bool.false_and]
  rw[this];rfl
 ·have b:k<m/\pgW t (k+1)=true:=by
   refine Classical.byContradiction fun f=>?_
   have a:=g.no k (by
    by_cases c:k<m
    ·exact qY (Bool.eq_false_iff.2 (fun e=>f ⟨c,e⟩))
    ·exact qX (by omega))
   rw[Maps.has_true_of_atKey d]at a;cases a
  have a:=g.yes k b.1 b.2 (.lit (.int .i64 0));rw[d]at a;obtain⟨l,o,rfl⟩:=Un p;simp only[DataW.lit.injEq,Lit.string.injEq]at a;rw[i,qK b,qW b.1,b.2,o,a];rfl
theorem vX.put(h:vX w mb t m)(l:m<=1000000)(hw:pgW t (m+1)=true):∃w',(Instr.mapUpdate 235 (.map (some mb)) (.int .i64 (m:Int)) (pgV (pgB t m))).run prog w = .ok () w'/\vX w' mb t (m+1)/\w.grownBy w' (some mb):=by
 obtain⟨p,g,c,d⟩:=h;obtain⟨w',o,n,i⟩:=g.update XU Tryz.underlying235 (by unfold maxLen;omega) (XY l) (Um (pgB t m));refine⟨w',o,⟨_,n,c.put _ _,fun k a j=>?_,fun k a=>?_⟩,i⟩
 ·intro f;by_cases e:k=m
  ·subst e;exact Maps.atKey_put_same c (Up k) _ f
  ·rw[Maps.atKey_put_other (fun b=>e (XV b))];exact d.yes k (by omega) j f
 ·by_cases e:k=m
  ·subst e;rcases a with a|a
   ·omega
   ·rw[hw]at a;cases a
  ·rw[Maps.has_put_other (fun b=>e (XV b))];refine d.no k ?_;rcases a with a|a
   ·exact qX (by omega)
   ·exact qY a
end
def yS(w:World)(f:Value)(t:Tw):Prop :=
 (vb t=false/\f = .agg #[.int .i64 0,.int .i64 0,.map none]) ∨
 (vb t=true/\∃mb,f = .agg #[.int .i64 (hpT t:Nat),.int .i64 (hnT t:Nat),.map (some mb)]/\vX w mb t (hnT t/60))
theorem yS.below{w w':World}{f:Value}{t:Tw}(h:yS w f t)(a:Below w.heap.size w w'):yS w' f t:=by
 rcases h with h|⟨h,mb,e,b⟩
 ·exact qX h
 ·exact qY ⟨h,mb,e,b.below a⟩
theorem yS.none(w:World):yS w (.agg #[.int .i64 0,.int .i64 0,.map none]) ByteArray.empty:=qX ⟨rF (by decide),rfl⟩
end
section
open Go.RowKit
theorem XA{a b:Int}(h:a=b):Value.int .u64 a = .int .u64 b:=by rw[h]
theorem oX{a b:Int}(h:a=b):Ending.returned (.int .u64 a) = .returned (.int .u64 b):=by rw[h]
theorem Ut(x:Nat)(a:x<18446744073709551616):IntKind.u64.wrap (bits .xor .u64 (x:Int) ((x:Int)/4294967296)*11400714819323198485)=((df x:Nat):Int):=mixStep_u64 x 4294967296 11400714819323198485 a
theorem Ua(x:Nat):bits .xor .u64 ((df x:Nat):Int) (((df x:Nat):Int)/536870912)=((mK x:Nat):Int):=xorShift_u64 (df x) 536870912 (Qv x)
theorem Ue(x:Nat)(w:World)(a:x<18446744073709551616):
  Calls prog 173 #[.int .u64 (x:Nat)] w fun e w'=>e = .returned (.int .u64 (mK x:Nat))/\w=w':=by
 go_enter func173,ntmps173;go_wp2;go_ret;exact⟨oX (by rw[Ut x a,Ua]),rfl⟩
theorem Ui: bits .and .u64 (IntKind.u64.wrap (-17)) 63=47:=by decide +kernel
theorem Uo(x:Nat)(a:x<18446744073709551616):x*140737488355328%18446744073709551616|||x/131072=uw x:=by
 have e:x*140737488355328%18446744073709551616=x%131072*140737488355328:=by omega
 have h:=nat_join 47 (x%131072*140737488355328) (x/131072) (Nat.mul_mod_left _ _) (by omega);rw[e,h];unfold uw;omega
theorem Uw(x:Nat)(c:x<18446744073709551616):bits .or .u64 (IntKind.u64.wrap ((x:Int)*140737488355328)) ((x:Int)/131072)=((uw x:Nat):Int):=by
 have a:IntKind.u64.wrap ((x:Int)*140737488355328)=((x*140737488355328%18446744073709551616:Nat):Int):=by
  rw[IntKind.wrap_u64];omega
 have b:(x:Int)/131072=((x/131072:Nat):Int):=by omega
 rw[a,b,u64_or_nat _ _ (by omega) (by omega),Uo x c]
theorem GQ(x:Nat)(w:World)(a:x<18446744073709551616):
  Calls prog 312 #[.int .u64 (x:Nat),.int .i64 (-17)] w fun e w'=>e = .returned (.int .u64 (uw x:Nat))/\w=w':=by
 have b:=Ui;go_enter func312,ntmps312;go_wp2;go_ret;exact⟨oX (Uw x a),rfl⟩
theorem GX(x:Nat)(a:x<18446744073709551616):bits .or .u64 ((uw x:Nat):Int) 1=((gg x:Nat):Int):=by
 have h:=u64_or_nat (uw x) 1 (rV a) (by decide);rw[UZ]at h;exact h
theorem GZ(x:Nat)(w:World)(a:x<18446744073709551616):
  Calls prog 296 #[.int .u64 (x:Nat)] w fun e w'=>e = .returned (.int .u64 (gg x:Nat))/\w=w':=by
 have h:=qQ (fun w=>GQ x w a);have c:=rV a;have b:=qQ (GX x a);generalize uw x=r at*;go_enter func296,ntmps296;go_wp2_with fail;refine(h.out _).mono ?_;rintro e w'⟨rfl,rfl⟩;go_wp2;go_ret;exact⟨oX b.out,rfl⟩
theorem GJ(y c:Nat)(b:y<18446744073709551616)(a:c<256):IntKind.u64.wrap (bits .xor .u64 (y:Int) (c:Int)*1099511628211)=((hst y c:Nat):Int):=by
 rw[u64_xor_nat y c b (Yt a),IntKind.wrap_u64,Ya,Int.natCast_emod,Int.natCast_mul];rfl
theorem GK(s:Nat)(a:s<18446744073709551616):bits .xor .u64 14695981039346656037 (s:Int)=((mV^^^s:Nat):Int):=u64_xor_nat 14695981039346656037 s (by decide) a
theorem XB(x:Nat)(s:Tw)(w:World)(j:x<18446744073709551616)(r:s.size<=maxLen):
  Calls prog 109 #[.int .u64 (x:Nat),.string s] w fun e w'=>e = .returned (.int .u64 (jc x s.data.toList:Nat))/\w=w':=by
 unfold maxLen at r;by_cases f:x=0
 ·subst f;go_enter func109,ntmps109;go_wp2;go_ret;exact⟨rfl,rfl⟩
 ·have u:((x:Int)==0)=false:=by simp;omega
  have z:=GK x j;have q:=xlt UQ j;have g:jc x s.data.toList=mK (yP (mV^^^x) s.data.toList):=by unfold jc;rw[qJ f]
  generalize mV^^^x=b at*;have l:=qQ g;clear g;go_enter func109,ntmps109;go_wp2
  go_loop [5,13] (fun a i=>∃k:Nat,k<=s.size/\i = .int .i64 k/\a = .int .u64 (yP b (s.data.toList.take k):Nat)) (fun _ i=>s.size-(intOf i).toNat)
  case atStart=>exact⟨0,by omega,rfl,XA (by rw[List.take_zero,rJ])⟩
  case round =>
   obtain⟨k,v,rfl,rfl⟩:=hrel;have d:yP b (s.data.toList.take k)<18446744073709551616:=Yo _ q;by_cases p:k<s.size
   ·have c:=qQ (rQ s k p);have n:=qQ (Yi b (s.data.toList.take k) s[k]);have o:=(s[k]).toNat_lt;generalize yP b (s.data.toList.take k)=y at*;go_wp2
    go_round
    case rel=>exact⟨k+1,by omega,by go_num,XA (by rw[c.out,n.out];exact GJ y _ d o)⟩
    case measure=>simp[intOf];omega
   ·obtain rfl:k=s.size:=(by omega);have c:List.take s.size s.data.toList=s.data.toList:=qg (by simp);rw[c]at d ⊢;clear c;generalize yP b s.data.toList=y at*;have h:=qQ (fun w=>Ue y w d);go_wp2_with fail;refine(h.out _).mono ?_;rintro e w'⟨rfl,rfl⟩;go_wp2;go_ret;exact⟨oX (by rw[l.out]),rfl⟩
theorem GV(h n m:Nat)(a:h<18446744073709551616)(b:0<m):prb h (n:Nat) (m:Nat)=(h+n*gg h%18446744073709551616)%18446744073709551616%m:=by
 unfold prb;rw[qJ (by omega),qh,qh];congr 1;omega
theorem GY(h n m s:Nat)(b:h<18446744073709551616)(f:n<9223372036854775808)(d:m<9223372036854775808)(a:0<m)(c:gg h=s):
  wrap64 (Int.tmod (IntKind.u64.wrap ((h:Int)+IntKind.u64.wrap ((n:Int)*(s:Int)))) (m:Int))=((prb h (n:Nat) (m:Nat):Nat):Int):=by
 rw[GV h n m b a,c,IntKind.wrap_u64,IntKind.wrap_u64,<-Int.natCast_mul];have e:((h:Int)+((n*s:Nat):Int)%18446744073709551616)%18446744073709551616=(((h+n*s%18446744073709551616)%18446744073709551616:Nat):Int):=by omega
 rw[e];generalize (h+n*s%18446744073709551616)%18446744073709551616=x;rw[<-Int.ofNat_tmod];have:=Nat.mod_lt x a;generalize x%m=y at*;unfold wrap64;omega
theorem GU(h:Nat)(i b:Int)(w:World)(a:h<18446744073709551616)(j:(Lit.int .i64 i).wf=true)(g:(Lit.int .i64 b).wf=true):
  Calls prog 259 #[.int .u64 (h:Nat),.int .i64 i,.int .i64 b] w fun e w'=>e = .returned (.int .i64 (prb h i b:Nat))/\w=w':=by
 have l:=bounds_i64 j;have k:=bounds_i64 g;by_cases c:b<1
 ·have e:prb h i b=0:=by unfold prb;rw[qK (qX c)]
  rw[e];go_enter func259,ntmps259;go_wp2;go_ret;exact⟨rfl,rfl⟩
 ·by_cases d:i<0
  ·have e:prb h i b=0:=(by unfold prb;rw[qK (qY d)]);rw[e];go_enter func259,ntmps259;go_wp2;go_ret;exact⟨rfl,rfl⟩
  ·obtain⟨n,rfl⟩:∃n:Nat,i=n:=⟨i.toNat,by omega⟩
   obtain⟨m,rfl⟩:∃m:Nat,b=m:=⟨b.toNat,by omega⟩
   have f:=qQ fun w=>GZ h w a
   have o:=UX a;have hw:=qQ (GY h n m (gg h) a (by omega) (by omega) (by omega) rfl);generalize gg h=s at*;generalize prb h (n:Nat) (m:Nat)=r at*;have p:((m:Int)==0)=false:=(by simp;omega);go_enter func259,ntmps259;go_wp2_with fail;refine(f.out _).mono ?_;rintro e w'⟨rfl,rfl⟩;go_wp2;go_ret;refine⟨ln ?_,rfl⟩;exact hw.out
theorem GG(c k:Nat)(g:c<256):(bits .and .u8 ((c:Int)/2 ^ k) 1==0) = !c.testBit k:=by
 have d:(c:Int)/2 ^ k=((c/2 ^ k:Nat):Int):=by simp
 rw[d,show(1:Int)=((1:Nat):Int) from rfl,u8_and_nat _ _ (Nat.lt_of_le_of_lt (Nat.div_le_self _ _) g) (by decide),Nat.and_one_is_mod];have b:=UK (c:=c) (k:=k);cases a:c.testBit k with
 | true=>rw[b.2 a];rfl
 | false =>
   have i:¬c/2 ^ k%2=1:=fun e=>by rw[b.1 e]at a;cases a
   have f:c/2 ^ k%2=0:=(by omega);rw[f];rfl
theorem GW(mb x:Nat)(p n:Int)(C:Array Value)(q r:Bool)(c:Nat)(w:World)(L:x<=10000000)(u:C.size=60)(k:C.all (·.oneCell')=true)(F:c<256)
  (l:∀W,Below w.heap.size w W->(Instr.lookup 235 (.map (some mb)) (.int .i64 ((x:Int)/480)) true).run prog W = .ok (.tuple #[.agg C,.bool q]) W)
  (G:(q=false/\r=false)∨(q=true/\C[x%480/8]? = some (.int .u8 (c:Nat))/\r = !c.testBit (x%8))):
  Calls prog 258 #[.agg #[.int .i64 p,.int .i64 n,.map (some mb)],.int .i64 (x:Nat)] w fun e w'=>e = .returned (.bool r)/\Below w.heap.size w w':=by
 have a:Below w.heap.size w (w.alloc (.cells #[.int .i64 p,.int .i64 n,.map (some mb)] 237)):=(Below.refl _ _).alloc (qZ _) _;have D:=l _ a;have c0:(w.alloc (.cells #[.int .i64 p,.int .i64 n,.map (some mb)] 237)).cell? ⟨w.heap.size,2,none⟩=some (.map (some mb)):=(za.new w _ _).cell 2;obtain⟨b,H⟩:∃b,w.alloc (.cells #[.int .i64 p,.int .i64 n,.map (some mb)] 237)=b:=⟨_,rfl⟩
 rw[H]at a D c0;have o:=run_storeCells_new (P:=prog) b 335 (pgC (List.replicate 60 0)) C (by rw[u];exact oQ) (by rw[u,mA];rfl) k;have j:pgC (List.replicate 60 0)=#[.int .u8 0,.int .u8 0,.int .u8 0,.int .u8 0,.int .u8 0,.int .u8 0,.int .u8 0,.int .u8 0,.int .u8 0,.int .u8 0,.int .u8 0,.int .u8 0,.int .u8 0,.int .u8 0,.int .u8 0,.int .u8 0,.int .u8 0,.int .u8 0,.int .u8 0,.int .u8 0,.int .u8 0,.int .u8 0,.int .u8 0,.int .u8 0,.int .u8 0,.int .u8 0,.int .u8 0,.int .u8 0,.int .u8 0,.int .u8 0,.int .u8 0,.int .u8 0,.int .u8 0,.int .u8 0,.int .u8 0,.int .u8 0,.int .u8 0,.int .u8 0,.int .u8 0,.int .u8 0,.int .u8 0,.int .u8 0,.int .u8 0,.int .u8 0,.int .u8 0,.int .u8 0,.int .u8 0,.int .u8 0,.int .u8 0,.int .u8 0,.int .u8 0,.int .u8 0,.int .u8 0,.int .u8 0,.int .u8 0,.int .u8 0,.int .u8 0,.int .u8 0,.int .u8 0,.int .u8 0]:=by rfl
 rw[j]at o;have g:=fun i v (h:C[i]? = some v)=>((za.new b 335 C).cell i).trans h
 have d:Below w.heap.size w (b.alloc (.cells C 335)):=a.alloc a.size _;rcases G with⟨rfl,rfl⟩|⟨rfl,z,rfl⟩
 ·have f:=qQ d;clear l g k a d j;go_enter func258,ntmps258;go_wp2;go_ret;exact⟨rfl,f.out⟩
 ·have s:=g _ _ z;obtain⟨B,I⟩:∃B,b.alloc (.cells C 335)=B:=⟨_,rfl⟩
  rw[I]at d o s;have f:=qQ d;obtain⟨i,A⟩:∃i:Nat,x%480/8=i:=⟨_,rfl⟩
  obtain⟨y,M⟩:∃y:Nat,x%480=y:=⟨_,rfl⟩
  have J:((x:Int)%480)=(y:Int):=by omega
  have K:((y:Int)/8)=(i:Int):=by omega
  rw[A]at s;clear l g k a d j z A;go_enter func258,ntmps258;go_wp2;go_ret;refine⟨lr ?_,f.out⟩;rw[show x%8=y%8 by omega];exact GG c (y%8) F
theorem GA{t:Tw}{m x:Nat}(f:x/480<m)(l:List UInt8)(q:Bool)(a:l=if x/480<m/\pgW t (x/480+1)=true then pgB t (x/480) else List.replicate 60 0)(b:q=(decide (x/480<m)&&pgW t (x/480+1))):
  l.length=60/\((q=false/\uK t x=false)∨(q=true/\(pgC l)[x%480/8]? = some (.int .u8 ((byT t x).toNat:Nat))/\uK t x = !(byT t x).toNat.testBit (x%8))):=by
 rw[qW f,Bool.true_and]at b;by_cases h:pgW t (x/480+1)=true
 ·rw[qK ⟨f,h⟩]at a;have g:l.length=60:=by rw[a];exact XW h
  refine⟨g,qY ⟨by rw[b,h], ?_, ?_⟩⟩
  ·rw[Uf l (by omega),<-Ur x rfl,a,show x%480/8=x/8%60 by omega]
  ·unfold uK Qa;rw[h,Bool.true_and]
 ·rw[qJ (fun c=>h c.2)]at a;have d:=Bool.eq_false_iff.2 h;exact⟨by rw[a,List.length_replicate],qX ⟨by rw[b,d],by unfold uK;rw[d,Bool.false_and]⟩⟩
theorem GB(mb m x:Nat)(p n:Int)(t:Tw)(w:World)(c:vX w mb t m)(d:x/480<m)(f:x<=10000000):
  Calls prog 258 #[.agg #[.int .i64 p,.int .i64 n,.map (some mb)],.int .i64 (x:Nat)] w fun e w'=>e = .returned (.bool (uK t x))/\Below w.heap.size w w':=by
 obtain⟨a,h⟩:=GA (t:=t) d _ _ rfl rfl
 exact GW mb x p n (pgC _) _ (uK t x) (byT t x).toNat w f (by rw[mA,a]) (mB _) (UInt8.toNat_lt _)
  (fun W b=>by
   have:=(c.below b).look (k:=x/480) (by omega);rw[Int.natCast_ediv]at this;exact this) h
theorem GC{g:Nat}{p b:Int}{i:Nat}(hi:i<nps p):prb g (i:Nat) b∈cB g p b:=Qy.2 ⟨i,hi,rfl⟩
theorem GD(g:Nat)(w:World):Calls prog 221 #[.agg #[.int .i64 0,.int .i64 0,.map none],.int .u64 (g:Nat)] w fun e w'=>e = .returned (.bool true)/\Below w.heap.size w w':=by
 have a:Below w.heap.size w (w.alloc (.cells #[.int .i64 0,.int .i64 0,.map none] 237)):=(Below.refl _ _).alloc (qZ _) _;go_enter func221,ntmps221;go_wp2;refine wp_loop_rounds 1 ?_;rw[rounds_succ];go_wp2;go_ret;exact⟨rfl,a⟩
theorem GE{w wr:World}{g:Nat}{t:TypeId}{cs:Array Value}(h:za wr g t cs):∀W,Below wr.heap.size wr W->Below wr.heap.size wr W/\W.cell? ⟨g,0,none⟩=cs[0]?/\W.cell? ⟨g,1,none⟩=cs[1]?/\W.cell? ⟨g,2,none⟩=cs[2]? := fun W b =>
 have a:za W g t cs:=(b.block _ h.lt).trans h
 ⟨b,a.cell 0,a.cell 1,a.cell 2⟩
theorem GF(mb g p n:Nat)(t:Tw)(r:Bool)(w:World)(hg:g<18446744073709551616)(N:vX w mb t (n/60))(hn:60<=n/\n<=120000/\n%60=0)(hp:p<=16)
  (B:(∀k∈cB g p ((8*n:Nat):Int),uK t k=false)->r=true) (A:∀k∈cB g p ((8*n:Nat):Int),uK t k=true->r=false):
  Calls prog 221 #[.agg #[.int .i64 (p:Nat),.int .i64 (n:Nat),.map (some mb)],.int .u64 (g:Nat)] w fun e w'=>e = .returned (.bool r)/\Below w.heap.size w w':=by
 have Q:nps (p:Nat)=p:=by unfold nps;omega
 obtain⟨b,u⟩:∃b:Int,((8*n:Nat):Int)=b:=⟨_,rfl⟩
 have eb:8*(n:Int)=b:=by omega
 have R:(Lit.int .i64 b).wf=true:=WalkArith.wf_i64 (by omega);rw[u]at B A;have Y:=qQ B;have T:=qQ A;have U:=qQ fun(i:Nat) (W:World) (M:i<64)=>GU g (i:Nat) b W hg (WalkArith.wf_i64 (by omega)) R
 have s:∀i:Nat,prb g (i:Nat) b/480<n/60/\prb g (i:Nat) b<=10000000:=fun i=>by
  have:=UJ g (i:Nat) (show 1<=b by omega);omega
 have S:=qQ s;have l:za (w.alloc (.cells #[.int .i64 (p:Nat),.int .i64 (n:Nat),.map (some mb)] 237)) w.heap.size 237 #[.int .i64 (p:Nat),.int .i64 (n:Nat),.map (some mb)]:=za.new w _ _;have y:Below w.heap.size w (w.alloc (.cells #[.int .i64 (p:Nat),.int .i64 (n:Nat),.map (some mb)] 237)):=(Below.refl _ _).alloc (qZ _) _;have C:=N.below y;obtain⟨a,aa⟩:∃a,w.alloc (.cells #[.int .i64 (p:Nat),.int .i64 (n:Nat),.map (some mb)] 237)=a:=⟨_,rfl⟩
 rw[aa]at l y C;have c0:a.cell? ⟨w.heap.size,0,none⟩=some (.int .i64 (p:Nat)):=l.cell 0;have c1:a.cell? ⟨w.heap.size,1,none⟩=some (.int .i64 (n:Nat)):=l.cell 1;have d:=qQ (show za a w.heap.size _ _/\vX a mb t (n/60)/\Below w.heap.size w a from⟨l,C,y⟩);clear l y C s B A u R N;go_enter func221,ntmps221;go_wp2;clear c0 c1;go_loopw [8] (fun v wr=>∃k:Nat,k<=p/\v = .int .i64 k/\(∀j,j<k->uK t (prb g (j:Nat) b)=false)/\Below a.heap.size a wr) (fun v _=>p-(intOf v).toNat)
 case atStart=>exact⟨0,qH _,rfl,fun j hj=>by omega,Below.refl _ _⟩
 case round =>
  obtain⟨k,hk,rfl,K,L⟩:=hrel;have H:=qQ K;have c:=qQ L;clear K L;by_cases s:k<p
  ·have I:=qQ fun W=>U.out k W (by omega)
   have f:=S.out k;have P:=d.out.2.1.below c.out;have o:za wr w.heap.size _ _:=(c.out.block _ d.out.1.lt).trans d.out.1;have V:=qQ (show ∀W,Below wr.heap.size wr W->Below wr.heap.size wr W/\W.cell? ⟨w.heap.size,0,none⟩=some (.int .i64 (p:Nat))/\W.cell? ⟨w.heap.size,1,none⟩=some (.int .i64 (n:Nat))/\W.cell? ⟨w.heap.size,2,none⟩=some (.map (some mb)) from GE (w:=w) o);have O:=qQ (GC (g:=g) (p:=(p:Nat)) (b:=b) (i:=k) (by rw[Q];exact s));have c0:wr.cell? ⟨w.heap.size,0,none⟩=some (.int .i64 (p:Nat)):=o.cell 0;have c1:wr.cell? ⟨w.heap.size,1,none⟩=some (.int .i64 (n:Nat)):=o.cell 1;have c2:wr.cell? ⟨w.heap.size,2,none⟩=some (.map (some mb)):=o.cell 2;obtain⟨x,G⟩:∃x,prb g (k:Nat) b=x:=⟨_,rfl⟩
   have X:=qQ G;rw[G]at I f O;have J:=qQ fun W (Z:Below wr.heap.size wr W)=>(GB mb (n/60) x (p:Nat) (n:Nat) t W (P.below Z) f.1 f.2)
   have z:=qQ (show uK t x=uK t x from rfl);obtain⟨q,D⟩:∃q,uK t x=q:=⟨_,rfl⟩
   have z:=qQ D;rw[D]at J;have s5:(k:Int)<(p:Int):=(by omega);have ab:IntKind.i64.wrap b=b:=(by rw[IntKind.wrap_i64];omega);clear G f P o D;go_wp2_with fail
   go_region_held3 (fun W=>Below wr.heap.size wr W/\W.cell? ⟨w.heap.size,0,none⟩=some (.int .i64 (p:Nat))/\W.cell? ⟨w.heap.size,1,none⟩=some (.int .i64 (n:Nat))/\W.cell? ⟨w.heap.size,2,none⟩=some (.map (some mb)))
    (first | (with_reducible assumption) | ((with_reducible refine V.out _ ?_);(repeat' (first | (with_reducible assumption) | (with_reducible exact Below.refl _ _) | (with_reducible refine Below.drew ?_)));done) | fail)
    (first
    | (go_at_call 259;((with_reducible refine(I.out _).mono ?_);rintro e w'⟨rfl,rfl⟩))
    | (go_at_call 258;((with_reducible refine(J.out _ (And.left (by with_reducible assumption))).mono ?_);rintro e w'⟨rfl,u⟩;have ac:=bj (And.left (by with_reducible assumption)) u))
    | fail)
   cases q with
   | true =>
     have F:=T.out x O.out z.out;subst F;go_wp2;go_ret;exact⟨rfl,d.out.2.2.trans ((c.out.trans ((And.left (‹Below wr.heap.size wr _/\_›)).mono c.out.size)).mono d.out.2.2.size)⟩
   | false =>
     go_wp2;go_roundw
     case rel =>
      refine⟨k+1,s,by go_num,fun j hj=>?_,c.out.trans ((And.left (‹Below wr.heap.size wr _/\_›)).mono c.out.size)⟩;by_cases e:j=k
      ·rw[e,X.out];exact z.out
      ·exact H.out j (by omega)
     case measure=>simp[intOf];omega
  ·have F:r=true:=Y.out fun x f=>by
    obtain⟨i,M,rfl⟩:=Qy.1 f;rw[Q]at M;exact H.out i (by omega)
   subst F;have s5:(p:Int)<=(k:Int):=(by omega);go_wp2;go_ret;exact⟨rfl,d.out.2.2.trans (c.out.mono d.out.2.2.size)⟩
theorem XC(f:Value)(g:Nat)(t:Tw)(w:World)(a:g<18446744073709551616)(h:yS w f t):
  Calls prog 221 #[f,.int .u64 (g:Nat)] w fun e w'=>e = .returned (.bool (yR t g))/\Below w.heap.size w w':=by
 rcases h with⟨h,rfl⟩|⟨h,mb,rfl,c⟩
 ·rw[Qe h];exact GD g w
 ·obtain⟨i,j,l,n,o⟩:=rB.1 (rE.1 h).2.1;exact GF mb g _ _ t (yR t g) w a c (by omega) (by omega) Uj fun k b d=>Uk h b d
end
section
structure jS where
 next:Int
 check:Int
 seed:Nat
 lv:LvL
theorem jS.ext'{a b:jS}(c:a.next=b.next)(d:a.check=b.check)(f:a.seed=b.seed)(g:a.lv=b.lv):a=b:=by
 cases a;cases b;simp only at c d f g;subst c;subst d;subst f;subst g;rfl
def jr(m:jS):Prop:=0<=m.next/\m.next<=1000000/\0<=m.check/\m.check<=2147483647/\dy m.lv/\∀x∈m.lv.flatten,x<m.next
instance (m : jS):Decidable (jr m) := by unfold jr; infer_instance
def bP(m:jS):Bool:=decide (jr m)
def ga(m:jS):jS:=⟨m.next,m.check,m.seed,jI m.lv⟩
def u4(x:Int):List UInt8:=be 4 x.toNat
def lvB(l:List Int):List UInt8:=be 1 l.length++l.flatMap u4
def jo(L:LvL):List UInt8:=L.flatMap lvB
def gH: List UInt8:=[105,109,97,112]
def mC(m:jS):List UInt8:=gH++be 4 m.next.toNat++be 4 m.check.toNat++be 8 m.seed
def gX(m:jS):List UInt8:=mC m++be 1 (jI m.lv).length
def uV(m:jS):List UInt8:=gX m++jo (jI m.lv)
def mfB(m:jS):Tw:=vg (bs (uV m))
def mfS(m:jS):Tw:=if jr m then mfB m else ByteArray.empty
def mfE(m:jS):Int:=if jr m then 0 else 2
theorem rP{m:jS}(h:¬jr m):mfS m=ByteArray.empty/\mfE m=2:=by unfold mfS mfE;rw[qJ h,qJ h];exact⟨rfl,rfl⟩
theorem rR{m:jS}(h:jr m):mfS m=mfB m/\mfE m=0:=by unfold mfS mfE;rw[qK h,qK h];exact⟨rfl,rfl⟩
theorem XD(x:Int):(u4 x).length=4:=jO _ _
theorem mD: ∀l:List Int,(l.flatMap u4).length=4*l.length
 | []=>rfl
 | x::l=>by rw[List.flatMap_cons,qI,XD,mD l,qk];omega
theorem XE(l:List Int):(lvB l).length=1+4*l.length:=by unfold lvB;rw[qI,jO,mD]
theorem mE(a b:LvL):jo (a++b)=jo a++jo b:=by unfold jo;rw[List.flatMap_append]
theorem rS(x:List Int)(L:LvL):jo (x::L)=lvB x++jo L:=by unfold jo;rw[List.flatMap_cons]
theorem XF(x:List Int):jo [x]=lvB x:=by rw[rS];show _++[]=_;rw[List.append_nil]
theorem rq: ∀L:LvL,(jo L).length=L.length+4*L.flatten.length
 | []=>rfl
 | x::L=>by rw[rS,qI,XE,rq L,qk,List.flatten_cons,qI];omega
theorem GH(m:jS):(mC m).length=20:=by
 unfold mC;rw[qI,qI,qI,jO,jO,jO];rfl
theorem oZ(m:jS):(gX m).length=21:=by unfold gX;rw[qI,GH,jO]
theorem rz(m:jS):(mfB m).size=25+(jo (jI m.lv)).length:=by unfold mfB;rw[U2,jh];unfold uV;rw[qI,oZ];omega
theorem XH(m:jS):(mfB m).data.toList=gX m++(jo (jI m.lv)++vl (uV m)):=by
 unfold mfB;rw[Qt,rA]
 conv=>lhs;arg 1;unfold uV
 rw[qd]
theorem jr.xk{m:jS}(h:jr m):(jI m.lv).length<=5/\(jI m.lv).flatten.length<=40/\∀x∈jI m.lv,x.length<=40/\∀y∈x,0<=y/\y<4294967296:=by
 obtain⟨n,o,p,q,c,g⟩:=h;have e:=ng m.lv;have r:=pa m.lv;have j:(jI m.lv).flatten.length<=40:=by rw[e];exact c.2.1
 refine⟨by have:=c.1;omega,j,fun x f=>⟨?_,fun y k=>?_⟩⟩
 ·have i:∀(L:LvL),x∈L->x.length<=L.flatten.length:=by
   intro L
   induction L with
   | nil=>intro h;cases h
   | cons z L l =>
     intro h;rw[List.flatten_cons,qI];rcases qL.1 h with rfl|h
     ·omega
     ·have:=l h;omega
  have:=i _ f;omega
 ·have d:y∈m.lv.flatten:=by rw[<-e];exact List.mem_flatten.2 ⟨x,f,k⟩
  have a:=c.2.2.1 y d;have b:=g y d;omega
theorem GI{m:jS}(h:jr m):(mfB m).size<=190:=by
 obtain⟨a,b,-⟩:=h.xk;rw[rz,rq];omega
theorem GL(L:LvL)(n:Nat)(b:n<=L.length):kP (L.take (kP L n)) (kP L n)=kP L n:=by
 induction n with
 | zero=>rfl
 | succ n a =>
   by_cases c:L.getD n []=[]
   ·have e:kP L (n+1)=kP L n:=(by rw[kP,qK c]);rw[e];exact a (by omega)
   ·have e:kP L (n+1)=n+1:=(by rw[kP,qJ c]);rw[e,kP,qJ];rw[qu,List.getElem?_take,qK (by omega),<-qu];exact c
theorem GM(L:LvL):jI (jI L)=jI L:=by
 have b:=pt L L.length;have h:=GL L L.length (qZ _);have e:jI L=L.take (kP L L.length):=rfl;have a:(L.take (kP L L.length)).length=kP L L.length:=by rw[qq];omega
 show(jI L).take (kP (jI L) (jI L).length)=jI L;rw[e,a,h,List.take_take,Nat.min_self]
theorem GN{L:LvL}(h:dy L):dy (jI L):=by
 have:=pa L;refine⟨by have:=h.1;omega, ?_⟩;rw[ng];exact h.2
theorem XI{m:jS}(h:jr m):jr (ga m):=by
 obtain⟨a,b,c,d,f,g⟩:=h;refine⟨a,b,c,d,GN f, ?_⟩;show ∀x∈(jI m.lv).flatten,_;rw[ng];exact g
theorem XL(m:jS):mfB (ga m)=mfB m:=by
 have a:jI (ga m).lv=jI m.lv:=GM m.lv;have b:uV (ga m)=uV m:=by unfold uV gX mC;rw[a];rfl
 unfold mfB;rw[b]
def num(s:Tw)(p n:Nat):Nat:=jJ (s.extract p (p+n))
def uM(s:Tw)(p k:Nat):List Int:=(List.range k).map fun j=>((num s (p+4*j) 4:Nat):Int)
theorem mF(s:Tw)(p k:Nat):(uM s p k).length=k:=by unfold uM;rw[qj,List.length_range]
theorem GO(s:Tw)(p k:Nat):uM s p (k+1)=uM s p k++[((num s (p+4*k) 4:Nat):Int)]:=by unfold uM;rw[List.range_succ,List.map_append];rfl
theorem GP(s:Tw)(p:Nat):uM s p 0=[]:=rfl
theorem GR(s:Tw)(p:Nat){k j:Nat}(h:j<k):(uM s p k)[j]? = some ((num s (p+4*j) 4:Nat):Int):=by unfold uM;rw[qz,List.getElem?_range h];rfl
theorem fg{s:Tw}{a b c:List UInt8}{p n:Nat}(h:s.data.toList=a++(b++c))(g:p=a.length)(f:n=b.length)(d:n<=8):num s p n=un b:=by
 subst g;subst f;unfold num jJ;rw[dX,h,List.drop_left,show a.length+b.length-a.length=b.length by omega,List.take_left,qg d]
theorem rj(s:Tw)(p n k:Nat)(c:n<=k)(b:n<=8):num s p n<256 ^ k:=by
 unfold num jJ;have h:=cA ((s.extract p (p+n)).data.toList.take 8)
 have a:((s.extract p (p+n)).data.toList.take 8).length<=k:=by
  rw[qq,dX,qq];omega
 exact qP h (Nat.pow_le_pow_right (by decide) a)
theorem ry(n:Nat)(h:n<4294967296):un (be 4 n)=n:=by
 have p:(256:Nat) ^ 4=4294967296:=by decide
 rw[dc,p,Nat.mod_eq_of_lt h]
theorem GS(n:Nat)(h:n<18446744073709551616):un (be 8 n)=n:=by
 have p:(256:Nat) ^ 8=18446744073709551616:=by decide
 rw[dc,p,Nat.mod_eq_of_lt h]
theorem XM(n:Nat)(h:n<256):un (be 1 n)=n:=by rw[dc,Nat.pow_one,Nat.mod_eq_of_lt h]
theorem GT{x:List Int}{j:Nat}(h:j<x.length):x.flatMap u4=(x.take j).flatMap u4++(u4 x[j]++(x.drop (j+1)).flatMap u4):=by
 conv=>lhs;rw[<-ql j x,List.drop_eq_getElem_cons h,List.flatMap_append,List.flatMap_cons]
theorem G3{s:Tw}{a c:List UInt8}{x:List Int}{p:Nat}(h:s.data.toList=a++(x.flatMap u4++c))(d:p=a.length)(f:∀y∈x,0<=y/\y<4294967296):uM s p x.length=x:=by
 apply List.ext_getElem?;intro j;rcases Nat.lt_or_ge j x.length with c1|c1
 ·rw[GR _ _ c1,qD c1]
  have e:s.data.toList=(a++(x.take j).flatMap u4)++(u4 x[j]++((x.drop (j+1)).flatMap u4++c)):=by
   rw[h,GT c1];simp only[List.append_assoc]
  have b:p+4*j=(a++(x.take j).flatMap u4).length:=by rw[qI,mD,qq,d];omega
  have g:=f x[j] (List.getElem_mem c1);rw[fg e b (XD _).symm (by decide)];unfold u4;rw[ry _ (by omega)];congr 1;omega
 ·rw[List.getElem?_eq_none (by rw[mF];exact c1),List.getElem?_eq_none c1]
def place(T:LvL)(i:Nat):Nat:=21+(jo (T.take i)).length
theorem G4{T:LvL}{i:Nat}{x:List Int}(h:T[i]? = some x):place T (i+1)=place T i+1+4*x.length:=by
 have e:T.take (i+1)=T.take i++[x]:=by rw[List.take_add_one,h];rfl
 unfold place;rw[e,mE,XF,qI,XE];omega
theorem G5{m:jS}{s:Tw}(h:jr m)(i:m.seed<18446744073709551616)(g:mfB m=s):
  ((num s 4 4:Nat):Int)=m.next/\((num s 8 4:Nat):Int)=m.check/\num s 12 8=m.seed/\num s 20 1=(jI m.lv).length:=by
 obtain⟨k,l,n,o,f,p⟩:=h;have q:=pa m.lv;have r:=f.1;have e:=XH m;rw[g]at e;unfold gX mC at e;have j:gH.length=4:=rfl;have a:s.data.toList=gH++(be 4 m.next.toNat++(be 4 m.check.toNat++(be 8 m.seed++(be 1 (jI m.lv).length++(jo (jI m.lv)++vl (uV m)))))):=by rw[e];simp only[List.append_assoc]
 have b:s.data.toList=(gH++be 4 m.next.toNat)++(be 4 m.check.toNat++(be 8 m.seed++(be 1 (jI m.lv).length++(jo (jI m.lv)++vl (uV m))))):=by rw[e];simp only[List.append_assoc]
 have c:s.data.toList=(gH++be 4 m.next.toNat++be 4 m.check.toNat)++(be 8 m.seed++(be 1 (jI m.lv).length++(jo (jI m.lv)++vl (uV m)))):=by rw[e];simp only[List.append_assoc]
 have d:s.data.toList=(gH++be 4 m.next.toNat++be 4 m.check.toNat++be 8 m.seed)++(be 1 (jI m.lv).length++(jo (jI m.lv)++vl (uV m))):=by rw[e];simp only[List.append_assoc]
 refine⟨?_, ?_, ?_, ?_⟩
 ·rw[fg a j.symm (jO _ _).symm (by decide),ry _ (by omega)];omega
 ·rw[fg b (by rw[qI,jO];rfl) (jO _ _).symm (by decide),ry _ (by omega)];omega
 ·rw[fg c (by rw[qI,qI,jO,jO];rfl) (jO _ _).symm (by decide),GS _ i]
 ·rw[fg d (by rw[qI,qI,qI,jO,jO,jO];rfl) (jO _ _).symm (by decide),XM _ (by omega)]
theorem G6{m:jS}{s:Tw}{i:Nat}{x:List Int}(h:jr m)(l:mfB m=s)(c:(jI m.lv)[i]? = some x):
  num s (place (jI m.lv) i) 1=x.length/\uM s (place (jI m.lv) i+1) x.length=x/\place (jI m.lv) i+1+4*x.length+4<=s.size:=by
 obtain⟨p,q,n⟩:=h.xk;obtain⟨r,o⟩:=n x (qO c);have k:i<(jI m.lv).length:=(qM.1 c).1;have e:=XH m;have b:=rz m;rw[l]at e b
 have j:jI m.lv=(jI m.lv).take i++(x::(jI m.lv).drop (i+1)):=by
  have:=(qM.1 c).2
  conv=>lhs;rw[<-ql i (jI m.lv),List.drop_eq_getElem_cons k,this]
 have a:jo (jI m.lv)=jo ((jI m.lv).take i)++(be 1 x.length++(x.flatMap u4++jo ((jI m.lv).drop (i+1)))):=by
  conv=>lhs;rw[j]
  rw[mE,rS];unfold lvB;simp only[List.append_assoc]
 have f:s.data.toList=(gX m++jo ((jI m.lv).take i))++(be 1 x.length++(x.flatMap u4++(jo ((jI m.lv).drop (i+1))++vl (uV m)))):=by rw[e,a];simp only[List.append_assoc]
 have g:s.data.toList=(gX m++jo ((jI m.lv).take i)++be 1 x.length)++(x.flatMap u4++(jo ((jI m.lv).drop (i+1))++vl (uV m))):=by rw[e,a];simp only[List.append_assoc]
 have d:place (jI m.lv) i=(gX m++jo ((jI m.lv).take i)).length:=by unfold place;rw[qI,oZ]
 refine⟨?_, ?_, ?_⟩
 ·rw[fg f d (jO _ _).symm (by decide),XM _ (by omega)]
 ·exact G3 g (by rw[qI,jO,<-d]) o
 ·rw[a]at b;simp only[List.length_append,jO,mD]at b;unfold place;omega
def dr(s:Tw)(i p:Nat)(L:LvL):Prop:=∀m,jr m->mfB m=s->i<=(jI m.lv).length->p=place (jI m.lv) i/\L=(jI m.lv).take i
theorem XN(s:Tw):dr s 0 21 []:=fun m _ _ _=>⟨rfl,rfl⟩
theorem XO{s:Tw}{i p k:Nat}{L:LvL}(h:dr s i p L)(o:k<=num s p 1)(n:k=num s p 1∨s.size<p+1+4*k+4):dr s (i+1) (p+1+4*k) (L++[uM s (p+1) k]):=by
 intro m b c f;obtain⟨rfl,rfl⟩:=h m b c (by omega);obtain⟨x,a⟩:∃x,(jI m.lv)[i]? = some x:=⟨_,qD f⟩
 obtain⟨j,d,l⟩:=G6 b c a;have g:k=x.length:=by omega
 subst g;refine⟨(G4 a).symm, ?_⟩;rw[d,List.take_add_one,a];rfl
def mH(s:Tw)(r:jS):Prop:=∀m,jr m->m.seed<18446744073709551616->mfB m=s->r=ga m
theorem XP{s:Tw}{n p:Nat}{L:LvL}(h:dr s n p L)(r:n<=num s 20 1)(j:n=num s 20 1∨s.size<=p):mH s ⟨(num s 4 4:Nat),(num s 8 4:Nat),num s 12 8,L⟩:=by
 intro m b l a;obtain⟨c,d,f,o⟩:=G5 b l a;obtain⟨g,i⟩:=h m b a (by omega)
 have k:n=(jI m.lv).length:=by
  rcases j with e|e
  ·omega
  ·have q:(jo ((jI m.lv).take n)).length<=(jo (jI m.lv)).length:=by
    conv=>rhs;rw[<-ql n (jI m.lv),mE,qI]
    omega
   have:=rz m;rw[a]at this;unfold place at g;omega
 refine jS.ext' c d f ?_;show L=jI m.lv;rw[i,k,List.take_length]
def gw(s:Tw):Prop:=∃m,(jr m/\m.seed<18446744073709551616)/\mfB m=s
open Classical in
noncomputable def mgE (s:Tw):Int:=if gw s then 0 else 90
def mI: jS:=⟨0,0,0,[]⟩
open Classical in
noncomputable def mgM (s:Tw):jS:=if h:gw s then ga (Classical.choose h) else mI
theorem G7{s:Tw}(h:¬gw s):mgE s=90/\mgM s=mI:=by unfold mgE mgM;rw[qJ h,dif_neg h];exact⟨rfl,rfl⟩
theorem G8{s:Tw}{r:jS}(h:gw s)(d:mH s r):mgE s=0/\mgM s=r:=by
 unfold mgE mgM;rw[qK h,dif_pos h];obtain⟨⟨a,b⟩,c⟩:=Classical.choose_spec h;exact⟨rfl,(d _ a b c).symm⟩
theorem G9{s:Tw}{r:jS}(d:mH s r)(f:r.seed<18446744073709551616):gw s↔jr r/\mfB r=s:=by
 constructor
 ·rintro ⟨m,⟨a,b⟩,c⟩;have e:=d m a b c;rw[e];exact⟨XI a,by rw[XL];exact c⟩
 ·rintro ⟨a,b⟩;exact⟨r,⟨a,f⟩,b⟩
theorem Gq{m:jS}(h:jr m)(c:m.seed<18446744073709551616):mgE (mfB m)=0/\mgM (mfB m)=ga m:=by
 have b:gw (mfB m):=⟨m,⟨h,c⟩,rfl⟩
 unfold mgE mgM;rw[qK b,dif_pos b];obtain⟨⟨f,g⟩,j⟩:=Classical.choose_spec b;refine⟨rfl, ?_⟩;generalize Classical.choose b=o at*
 have q:∀a:jS,jr a->a.seed<18446744073709551616->mfB a=mfB m->∃L p,dr (mfB m) (num (mfB m) 20 1) p L:=by
  intro a r u s
  have l:∀i,∃L p,dr (mfB m) i p L:=by
   intro i
   induction i with
   | zero=>exact⟨_,_,XN _⟩
   | succ i n =>
     obtain⟨L,p,h⟩:=n;exact⟨_,_,XO h (qZ _) (qX rfl)⟩
  exact l _
 obtain⟨L,p,k⟩:=q m h c rfl;have d:=XP k (qZ _) (qX rfl);rw[<-d o f g j,d m h c rfl]
end
section
open Go.RowKit
def vB(s:Tw)(p:Nat):Tw:=s.extract p s.size
theorem ru(s:Tw)(p:Nat):(vB s p).size=s.size-p:=by unfold vB;rw[qS];omega
theorem Gx(s:Tw):vB s 0=s:=by
 unfold vB;have a:=uJ s;rw[gF,List.drop_zero,qg (by omega),dQ]
theorem rf(s:Tw)(p:Nat):(vB s p).data.toList=s.data.toList.drop p:=by
 unfold vB;have a:=uJ s;rw[dX,qg (by rw[List.length_drop];omega)]
theorem Gz(s:Tw)(p k:Nat):jJ ((vB s p).extract 0 (min k (vB s p).size))=num s p k:=by
 unfold num;congr 1;rw[gF,gF s p,rf,ru,List.drop_zero,Nat.sub_zero,show p+k-p=k by omega];congr 1;have a:=uJ s;rcases Nat.lt_or_ge k (s.size-p) with c|c
 ·rw[Nat.min_eq_left (by omega)]
 ·rw[Nat.min_eq_right c,qg (by rw[List.length_drop];omega),qg (by rw[List.length_drop];omega)]
theorem Gj(s:Tw)(p k:Nat):(vB s p).extract (min k (vB s p).size) (vB s p).size=vB s (p+k):=by
 have a:=uJ s;have b:=ru s p;rw[<-dQ ((vB s p).extract _ _),<-dQ (vB s (p+k)),dX,rf,rf];congr 1;rw[List.drop_drop,qg (by rw[List.length_drop];omega)];rcases Nat.lt_or_ge k (vB s p).size with c|c
 ·rw[Nat.min_eq_left (by omega)]
 ·rw[Nat.min_eq_right c,List.drop_eq_nil_of_le (by omega),List.drop_eq_nil_of_le (by omega)]
theorem XR(r:Tw):r.extract 0 r.size=r:=by
 have a:=uJ r;rw[gF,List.drop_zero,qg (by omega),dQ]
theorem XS(r:Tw):r.extract r.size r.size=ByteArray.empty:=by
 rw[gF,Nat.sub_self,List.take_zero];rfl
def rh(w:World)(g:Nat)(x:Nat)(t:Tw)(e:Ending)(w':World):Prop:=e = .returned (.int .u64 (x:Nat))/\w'=w.setCell ⟨g,0,none⟩ (.string t)
theorem Gv(r:Tw)(k g:Nat)(w:World)(p:1<=k)(q:k<=8)(i:r.size<=1100000)(n:w.cell? ⟨g,0,none⟩=some (.string r))(o:w.frozen? ⟨g,0,none⟩=false):
  Calls prog 284 #[.pointer (some ⟨g,0,none⟩),.int .i64 (k:Nat)] w (rh w g (jJ (r.extract 0 (min k r.size))) (r.extract (min k r.size) r.size)):=by
 have b:=qQ (fun(m:Nat)=>gQ (r.extract 0 m) w (by rw[qS];unfold maxLen;omega));unfold rh;obtain⟨z,d⟩:∃z,z=r.size:=⟨_,rfl⟩
 rw[<-d]at i ⊢;rcases Nat.lt_trichotomy k z with c|c|c
 ·rw[Nat.min_eq_left (by omega)];have a:=qQ (b.out k);clear b;subst d;go_enter func284,ntmps284;go_wp2_with fail;refine a.out.mono ?_;rintro e w'⟨rfl,rfl⟩;go_wp2;go_ret;exact⟨rfl,rfl⟩
 ·obtain rfl:k=z:=c;rw[Nat.min_self];have a:=qQ (b.out k);clear b;subst d;rw[XR]at a ⊢;rw[XS];go_enter func284,ntmps284;go_wp2_with fail;refine a.out.mono ?_;rintro e w'⟨rfl,rfl⟩;go_wp2;go_ret;exact⟨rfl,rfl⟩
 ·rw[Nat.min_eq_right (by omega)];have a:=qQ (b.out z);clear b;by_cases l:z=0
  ·subst l
   have j:r=ByteArray.empty:=by
    have:r.data.toList=[]:=List.length_eq_zero_iff.1 (by rw[uJ];exact d.symm);rw[<-dQ r,this];rfl
   subst j;have f:ByteArray.empty.extract 0 0=ByteArray.empty:=(by rw[gF];rfl);rw[f]at a ⊢;clear f d;go_enter func284,ntmps284;go_wp2_with fail;refine a.out.mono ?_;rintro e w'⟨rfl,rfl⟩;go_wp2;go_ret;exact⟨rfl,rfl⟩
  ·subst d;rw[XR]at a ⊢;rw[XS];go_enter func284,ntmps284;go_wp2_with fail;refine a.out.mono ?_;rintro e w'⟨rfl,rfl⟩;go_wp2;go_ret;exact⟨rfl,rfl⟩
theorem XT(s:Tw)(p k g:Nat)(w:World)(c:1<=k)(d:k<=8)(f:s.size<=1100000)(a:w.cell? ⟨g,0,none⟩=some (.string (vB s p)))(b:w.frozen? ⟨g,0,none⟩=false):
  Calls prog 284 #[.pointer (some ⟨g,0,none⟩),.int .i64 (k:Nat)] w (rh w g (num s p k) (vB s (p+k))):=by
 have h:=Gv (vB s p) k g w c d (by rw[ru];omega) a b;rw[Gz,Gj]at h;exact h
def jZ(p:Tw):Tw:=vg (bs (be 4 p.size)++p)++bs (be 4 p.size)
theorem oJ(s:Tw):(vg s).size=s.size+4:=by unfold vg;rw[qT,jh,nd]
theorem yT(p:Tw):(jZ p).size=p.size+12:=by
 unfold jZ;rw[qT,oJ,qT,jh,jO];omega
def prS(p:Tw):Tw:=if 2000<p.size then ByteArray.empty else jZ p
def prE(p:Tw):Int:=if 2000<p.size then 3 else 0
def je(s:Tw)(k:Nat):Nat:=jJ (s.extract k (k+4))
def yC(s:Tw)(k:Nat):Bool:=decide (k+12<=s.size/\je s k<=2000/\k+je s k+12<=s.size/\s.extract k (k+je s k+12)=jZ (s.extract (k+4) (k+4+je s k)))
def uY(s:Tw)(a:Int):Bool:=decide (0<=a)&&yC s a.toNat
def uN(s:Tw)(a:Int):Tw:=if uY s a=true then s.extract (a.toNat+4) (a.toNat+4+je s a.toNat) else ByteArray.empty
def kI(s:Tw)(a:Int):Nat:=if uY s a=true then a.toNat+je s a.toNat+12 else 0
theorem dK(s:Tw)(k:Nat):uY s (k:Nat)=yC s k:=by simp[uY]
theorem X6{s:Tw}{a:Int}(h:uY s a=false):uN s a=ByteArray.empty/\kI s a=0:=by simp[uN,kI,h]
theorem rm{s:Tw}{k:Nat}(h:yC s k=true):uY s (k:Nat)=true/\uN s (k:Nat)=s.extract (k+4) (k+4+je s k)/\kI s (k:Nat)=k+je s k+12:=by
 have e:uY s (k:Nat)=true:=by rw[dK];exact h
 simp[uN,kI,e]
theorem mL{s:Tw}{k:Nat}:yC s k=true↔(k+12<=s.size/\je s k<=2000/\k+je s k+12<=s.size/\s.extract k (k+je s k+12)=jZ (s.extract (k+4) (k+4+je s k))):=by simp[yC]
theorem fh{s:Tw}{k:Nat}(h:¬(k+12<=s.size/\je s k<=2000/\k+je s k+12<=s.size/\s.extract k (k+je s k+12)=jZ (s.extract (k+4) (k+4+je s k)))):yC s k=false:=by
 cases e:yC s k with
 | false=>rfl
 | true=>exact absurd (mL.1 e) h
theorem X7(s:Tw)(a:Int):kI s a<=s.size:=by
 unfold kI;by_cases h:uY s a=true
 ·rw[qK h];have b:yC s a.toNat=true:=by simp[uY]at h;exact h.2
  have:=mL.1 b;omega
 ·rw[qJ h];exact qH _
theorem oK{s:Tw}{k:Nat}(h:yC s k=true):k+12<=kI s (k:Nat)/\kI s (k:Nat)<=s.size:=by
 obtain⟨_,_,e⟩:=rm h;have:=mL.1 h;rw[e];omega
def whL(s:Tw):Nat->Nat->List Int
 | 0,_=>[]
 | n+1,k=>if yC s k=true then(k:Int)::whL s n (kI s (k:Nat)) else []
def whE(s:Tw):Nat->Nat->Nat
 | 0,k=>k
 | n+1,k=>if yC s k=true then whE s n (kI s (k:Nat)) else k
def wlL(s:Tw)(a:Int):List Int:=if 0<=a/\a<=s.size then whL s (s.size+1) a.toNat else []
def wlE(s:Tw)(a:Int):Nat:=if 0<=a/\a<=s.size then whE s (s.size+1) a.toNat else 0
theorem X8(s:Tw):∀(n m k:Nat),s.size<k+n->s.size<k+m->k<=s.size->whL s n k=whL s m k/\whE s n k=whE s m k
 | 0,m,k,h1,h2,hk=>by omega
 | n+1,0,k,h1,h2,hk=>by omega
 | n+1,m+1,k,h1,h2,hk=>by
   unfold whL whE;by_cases h:yC s k=true
   ·have hl:=oK h;obtain⟨a,b⟩:=X8 s n m (kI s (k:Nat)) (by omega) (by omega) (by omega);rw[qK h,qK h,qK h,qK h,a,b];exact⟨rfl,rfl⟩
   ·rw[qJ h,qJ h,qJ h,qJ h];exact⟨rfl,rfl⟩
theorem Xq{s:Tw}{k:Nat}(c:k<=s.size)(h:yC s k=true):
  whL s (s.size+1) k=(k:Int)::whL s (s.size+1) (kI s (k:Nat))/\whE s (s.size+1) k=whE s (s.size+1) (kI s (k:Nat)):=by
 have d:=oK h;obtain⟨a,b⟩:=X8 s s.size (s.size+1) (kI s (k:Nat)) (by omega) (by omega) (by omega);constructor
 ·rw[whL,qK h,a]
 ·rw[whE,qK h,b]
theorem Xx{s:Tw}{k:Nat}(h:yC s k=false):whL s (s.size+1) k=[]/\whE s (s.size+1) k=k:=by
 constructor
 ·rw[whL,qJ (by rw[h];decide)]
 ·rw[whE,qJ (by rw[h];decide)]
def mM(w:World)(e:Ending)(w':World):Prop:=e = .returned (.tuple #[.string ByteArray.empty,.int .i64 0,.bool false])/\Below w.heap.size w w'
theorem Xz{a b:Tw}(h:a=b):(a.toList==b.toList)=true:=by rw[h,beq_iff_eq]
theorem Gy{a b:Tw}(h:¬a=b):(a.toList != b.toList)=true:=by
 rw[bne_iff_ne];intro x;rw[Lib.toList_data,Lib.toList_data]at x;exact h (ByteArray.ext (Array.toList_inj.1 x))
def dV(s:Tw)(a:Int)(w:World)(e:Ending)(w':World):Prop:=e = .returned (.tuple #[.string (uN s a),.int .i64 (kI s a:Nat),.bool (uY s a)])/\Below w.heap.size w w'
theorem mN{s:Tw}{a:Int}{w w':World}{e:Ending}(h:uY s a=false)(d:mM w e w'):dV s a w e w':=by
 obtain⟨b,c⟩:=X6 h;unfold dV;rw[b,c,h];exact d
def oV(n:Int):Value:=.int .i64 n
theorem ju.xD{w:World}{base:Nat}{e:TypeId}{v:Value}{l:List Int}(h:w.ownsRow base e 1 v l.length (l.map oV)):ju w v l:=by
 have b:=h;rcases h.2 with⟨a,f⟩|⟨g,d,o,a,p,j,n,k,r,s⟩
 ·exact qX ⟨List.length_eq_zero_iff.1 f,none,0,a⟩
 ·refine qY ⟨g,0,d,a,n,k,(qb.1 j).1,fun i x c=>?_⟩;rw[a]at b;have q:i<l.length:=(qM.1 c).1;rw[Nat.zero_add,b.cellAt i (by omega),qz,c];rfl
theorem Gu{w:World}{base n size:Nat}{e:TypeId}{v:Value}{xs:List Value}(h:w.ownsRow base e size v n xs):∀k,v.ownBlock=some k->base<=k:=by
 intro k a;rcases h.2 with⟨rfl,_⟩|⟨g,c,d,rfl,b,_⟩
 ·cases a
 ·cases a;exact b
def fm(s:Tw)(a:Int)(w:World)(e:Ending)(w':World):Prop:=∃u,e = .returned (.tuple #[u,.int .i64 (wlE s a:Nat)])/\ju w' u (wlL s a)/\Below w.heap.size w w'
theorem cC(a x b:Tw){i j:Nat}(hi:i=a.size)(d:j=a.size+x.size):(a++x++b).extract i j=x:=by
 subst hi d;rw[ByteArray.append_assoc];apply ByteArray.ext;apply Array.toList_inj.1;have c:a.data.toList.length=a.size:=Array.length_toList;have f:x.data.toList.length=x.size:=Array.length_toList;rw[ByteArray.data_extract,Array.toList_extract,List.extract];simp only[ByteArray.data_append,Array.toList_append];rw[List.drop_left' c,Nat.add_sub_cancel_left,List.take_left' f]
theorem Xj(p:Tw):jZ p=bs (be 4 p.size)++(p++(bs (vl (bs (be 4 p.size)++p).data.toList)++bs (be 4 p.size))):=by
 unfold jZ vg;simp only[ByteArray.append_assoc]
theorem Gg(n:Nat)(h:n<4294967296):jJ (bs (be 4 n))=n:=by
 unfold jJ;have:(bs (be 4 n)).data.toList=be 4 n:=by simp[bs]
 rw[this,qg (by rw[jO];omega),dc];exact Nat.mod_eq_of_lt (by omega)
theorem Xk(a p b:Tw)(c:p.size<=2000):je (a++jZ p++b) a.size=p.size:=by
 unfold je
 have e:a++jZ p++b=a++bs (be 4 p.size)++((p++(bs (vl (bs (be 4 p.size)++p).data.toList)++bs (be 4 p.size)))++b):=by
  rw[Xj];simp only[ByteArray.append_assoc]
 rw[e,cC _ _ _ rfl (by rw[jh,jO]),Gg _ (by omega)]
theorem Gb(a p b:Tw):(a++jZ p++b).extract (a.size+4) (a.size+4+p.size)=p:=by
 have e:a++jZ p++b=(a++bs (be 4 p.size))++p++((bs (vl (bs (be 4 p.size)++p).data.toList)++bs (be 4 p.size))++b):=by
  rw[Xj];simp only[ByteArray.append_assoc]
 rw[e];exact cC _ _ _ (by rw[qT,jh,jO]) (by rw[qT,jh,jO])
theorem rn(a p b:Tw)(g:p.size<=2000):yC (a++jZ p++b) a.size=true/\uN (a++jZ p++b) (a.size:Nat)=p/\kI (a++jZ p++b) (a.size:Nat)=a.size+(p.size+12):=by
 have c:=Xk a p b g;have d:=Gb a p b;have k:(a++jZ p++b).size=a.size+(p.size+12)+b.size:=by rw[qT,qT,yT]
 have f:yC (a++jZ p++b) a.size=true:=by
  rw[mL,c,d];refine⟨by omega,g,by omega, ?_⟩;exact cC _ _ _ rfl (by rw[yT];omega)
 obtain⟨_,i,j⟩:=rm f;refine⟨f, ?_, ?_⟩
 ·rw[i,c,d]
 ·rw[j,c];omega
theorem Gc(n:Nat)(w:World)(a:n<18446744073709551616):
  Calls prog 142 #[.int .u64 (n:Nat),.int .i64 2] w fun e w'=>e = .returned (.string (bs (be 2 n)))/\Below w.heap.size w w' :=
 uL n 2 w (by omega) (by omega) a
theorem Gd(s:Tw)(h:s.size<=65535)(l:List UInt8)(a:l.length=2)(w:World):(Op.stringOp .add (bs l) s).run prog w = .ok (.string (bs l++s)) w :=
 run_string_add_sum (P:=prog) (w:=w) (bs l) s (by rw[jh,a];omega)
theorem Xv(s:Tw)(w:World)(h:s.size<=65535):
  Calls prog 141 #[.string s] w fun e w'=>e = .returned (.string (bs (be 2 s.size)++s))/\Below w.heap.size w w':=by
 have a:=qQ (Gc s.size w (by omega));have b:=Gd s h (be 2 s.size) (jO _ _);go_enter func141,ntmps141;go_wp2_with (go_at_call 142;refine a.out.mono ?_;rintro e w'⟨rfl,c⟩);go_ret;exact⟨rfl,‹Below _ _ _›⟩
end
end Go.Proofs.YthejglbnkmimjaaGreat
