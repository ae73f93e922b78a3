import Derived.Test.YthejglbnkmimjaaGreatPp03
set_option linter.unusedVariables false
set_option maxRecDepth 100000
set_option maxHeartbeats 9000000
namespace Go.Proofs.YthejglbnkmimjaaGreat
open Tryz
section
open Go.RowKit
theorem LJ(s:Tw)(w:World)(c:s.size<=maxLen):
  Calls prog 46 #[.string s] w fun e w'=>e = .returned (.bool (stS s))/\Below w.heap.size w w':=by
 unfold maxLen at c;unfold stS;by_cases a:1<=s.size
 ·have d:decide ((1:Int)<=(s.size:Int))=true:=qW (by omega);by_cases b:s.size<=32
  ·have f:decide ((s.size:Int)<=32)=true:=qW (by omega);rw[qW ⟨a,b⟩];go_enter func46,ntmps46;go_wp2;go_ret;exact⟨rfl,Below.refl _ _⟩
  ·have f:decide ((s.size:Int)<=32)=false:=qG (by omega);rw[qG (fun h=>b h.2)];go_enter func46,ntmps46;go_wp2;go_ret;exact⟨rfl,Below.refl _ _⟩
 ·have d:decide ((1:Int)<=(s.size:Int))=false:=qG (by omega);rw[qG (fun h=>a h.1)];go_enter func46,ntmps46;go_wp2;go_ret;exact⟨rfl,Below.refl _ _⟩
theorem LK(c:UInt8)(n:Int)(w:World)(h:¬(0<=n/\n<=999999)):
  Calls prog 186 #[.int .u8 (c.toNat:Nat),.int .i64 n] w fun e w'=>e = .returned (.string ByteArray.empty)/\Below w.heap.size w w':=by
 by_cases a:n<0
 ·have b:decide (n<0)=true:=qW a;clear h;go_enter func186,ntmps186;go_wp2;go_ret;exact⟨rfl,Below.refl _ _⟩
 ·have b:decide (n<0)=false:=qG a;have d:decide (999999<n)=true:=qW (by omega);clear h;go_enter func186,ntmps186;go_wp2;go_ret;exact⟨rfl,Below.refl _ _⟩
theorem LV(l:List UInt8)(i:Nat)(b:UInt8)(hi:i<l.length)(j:Nat):(if j=i then Value.int .u8 ((b.toNat:Nat):Int) else fk l j)=fk (l.set i b) j:=by
 unfold fk;by_cases e:j=i
 ·subst e;rw[qK rfl,qu,List.getElem?_set_self hi];rfl
 ·rw[qJ e,qu,qu,List.getElem?_set_ne (fun h=>e h.symm)]
def nmL(c:UInt8)(k n:Nat):List UInt8:=c::(List.replicate (6-k) 0++de k n)
theorem Jz(c:UInt8)(k n:Nat)(a:k<=6):(nmL c k n).length=7:=by simp[nmL,fv];omega
theorem LY(c:UInt8)(k n:Nat)(f:k<6):(nmL c k n).set (6-k) (UInt8.ofNat (48+n/10 ^ k%10))=nmL c (k+1) n:=by
 obtain⟨j,a⟩:∃j,6-k=j+1:=⟨5-k,by omega⟩
 have b:6-(k+1)=j:=by omega
 have d:(List.replicate j (0:UInt8)).length=j:=List.length_replicate;unfold nmL;rw[a,b,List.set_cons_succ,de,List.replicate_succ',qd,List.set_append_right _ _ (by omega),d,Nat.sub_self,List.singleton_append,List.set_cons_zero]
theorem LU(c:UInt8)(n:Nat)(w:World)(h:n<=999999):
  Calls prog 186 #[.int .u8 (c.toNat:Nat),.int .i64 (n:Nat)] w fun e w'=>e = .returned (.string (bs (c::de 6 n)))/\Below w.heap.size w w':=by
 have A:decide ((n:Int)<0)=false:=qG (by omega);have B:decide ((999999:Int)<(n:Int))=false:=qG (by omega);go_enter func186,ntmps186;go_wp2;go_loopw [1,15] (fun m i wr=>∃k:Nat,k<=6/\i = .int .i64 k/\m = .int .i64 (n/10 ^ k:Nat)/\RowB wr w.heap.size 7 (fk (nmL c k n))/\Below w.heap.size w wr) (fun _ i _=>6-(intOf i).toNat)
 case atStart =>
  refine⟨0,qH _,rfl,by simp, ?_, ?_⟩
  ·refine⟨_,287,(0,0),(show(w.heap.push _)[w.heap.size]? = _ from Array.getElem?_push_size),qZ 7,qX rfl,fun i r=>?_⟩;have q:nmL c 0 n=[c,0,0,0,0,0,0]:=rfl;rw[q]
   match i,r with
   | 0,_ | 1,_ | 2,_ | 3,_ | 4,_ | 5,_ | 6,_=>rfl
  ·exact(Below.refl _ _).alloc (qZ _) _
 case round =>
  obtain⟨k,s,rfl,rfl,b,f⟩:=hrel;by_cases t:k<6
  ·obtain⟨m,a⟩:∃m,n/10 ^ k=m:=⟨_,rfl⟩
   have g:n/10 ^ (k+1)=m/10:=(by rw[Nat.pow_succ,<-Nat.div_div_eq_div_mul,a]);have z:m<=999999:=(by rw[<-a];exact qR (Nat.div_le_self _ _) h);rw[a];have p:=qQ g;have u:=b.cell (i:=6-k) (by omega);have y:=b.frozen (i:=6-k) (by omega);have l:=b.set (6-k) (.int .u8 ((UInt8.ofNat (48+m%10)).toNat:Nat));have d:=l.congr (fun j _=>LV _ _ _ (by rw[Jz c k n s];omega) j);rw[<-a,LY c k n t,a,fu _ (Nat.mod_lt _ (by decide))]at d;have o:=qQ d;clear a g l d;clear b;go_wp2;go_roundw
   case rel =>
    refine⟨k+1,by omega,by go_num,by rw[p.out];go_num, ?_, ?_⟩
    ·exact o.out
    ·exact f.setCell (by simp) _
   case measure=>simp[intOf];omega
  ·obtain rfl:k=6:=(by omega);have v:=Yz b (Jz c 6 n (qZ _)) 7;go_wp2;go_ret;exact⟨rfl,f⟩
theorem tC(c:UInt8)(n:Int)(w:World):
  Calls prog 186 #[.int .u8 (c.toNat:Nat),.int .i64 n] w fun e w'=>e = .returned (.string (nmS c n))/\Below w.heap.size w w':=by
 by_cases h:0<=n/\n<=999999
 ·obtain⟨k,rfl⟩:∃k:Nat,n=k:=⟨n.toNat,by omega⟩
  rw[dJ (by omega)];exact LU c k w (by omega)
 ·rw[Uu h];exact LK _ n w h
theorem LG(n:Int)(w:World):Calls prog 128 #[.int .i64 n] w fun e w'=>e = .returned (.string (nmS 99 n))/\Below w.heap.size w w':=by
 have h:Calls prog 186 #[.int .u8 99,.int .i64 n] w fun e w'=>e = .returned (.string (nmS 99 n))/\Below w.heap.size w w':=tC 99 n w
 generalize nmS 99 n=s at*;have H:=qQ h;clear h;go_enter func128,ntmps128;go_wp2_with fail;refine(H.out).mono ?_;rintro _ b⟨rfl,a⟩;go_wp2;go_ret;exact⟨rfl,a⟩
theorem LW(n:Int)(w:World):Calls prog 123 #[.int .i64 n] w fun e w'=>e = .returned (.string (nmS 116 n))/\Below w.heap.size w w':=by
 have h:Calls prog 186 #[.int .u8 116,.int .i64 n] w fun e w'=>e = .returned (.string (nmS 116 n))/\Below w.heap.size w w':=tC 116 n w
 generalize nmS 116 n=s at*;have H:=qQ h;clear h;go_enter func123,ntmps123;go_wp2_with fail;refine(H.out).mono ?_;rintro _ b⟨rfl,a⟩;go_wp2;go_ret;exact⟨rfl,a⟩
theorem LA(n:Int)(w:World):Calls prog 124 #[.int .i64 n] w fun e w'=>e = .returned (.string (nmS 98 n))/\Below w.heap.size w w':=by
 have h:Calls prog 186 #[.int .u8 98,.int .i64 n] w fun e w'=>e = .returned (.string (nmS 98 n))/\Below w.heap.size w w':=tC 98 n w
 generalize nmS 98 n=s at*;have H:=qQ h;clear h;go_enter func124,ntmps124;go_wp2_with fail;refine(H.out).mono ?_;rintro _ b⟨rfl,a⟩;go_wp2;go_ret;exact⟨rfl,a⟩
theorem Jj(c:UInt8)(w:World):Calls prog 189 #[.int .u8 (c.toNat:Nat)] w fun e w'=>e = .returned (.bool (isK c))/\w=w':=by
 by_cases a:c.toNat=99
 ·obtain rfl:c=99:=UInt8.toNat_inj.1 a;go_enter func189,ntmps189;go_wp2;go_ret;exact⟨rfl,rfl⟩
 ·by_cases b:c.toNat=116
  ·obtain rfl:c=116:=UInt8.toNat_inj.1 b;go_enter func189,ntmps189;go_wp2;go_ret;exact⟨rfl,rfl⟩
  ·by_cases d:c.toNat=98
   ·obtain rfl:c=98:=UInt8.toNat_inj.1 d;go_enter func189,ntmps189;go_wp2;go_ret;exact⟨rfl,rfl⟩
   ·have f:isK c=false:=by
     simp only[isK,Bool.or_eq_false_iff,beq_eq_false_iff_ne];exact⟨⟨fun e=>a (by rw[e];rfl),fun e=>b (by rw[e];rfl)⟩,fun e=>d (by rw[e];rfl)⟩
    have g:((c.toNat:Int)==99)=false:=qy.2 (by omega);have i:((c.toNat:Int)==116)=false:=qy.2 (by omega);have j:((c.toNat:Int)==98)=false:=qy.2 (by omega);rw[f];clear f a b d;go_enter func189,ntmps189;go_wp2;go_ret;exact⟨rfl,rfl⟩
def Jk(w:World)(e:Ending)(w':World):Prop:=e = .returned (.tuple #[.int .u8 0,.int .i64 0,.bool false])/\w=w'
theorem LB(s:Tw)(w:World)(a:s.size<=maxLen)(h:¬s.size=7):
  Calls prog 126 #[.string s] w (Jk w):=by
 unfold maxLen at a;have b:((s.size:Int) != 7)=true:=by simp;omega
 have c:((s.size:Int)==7)=false:=qy.2 (by omega);clear h;go_enter func126,ntmps126;go_wp2;go_ret3;exact⟨rfl,rfl⟩
theorem LC(s:Tw)(w:World)(d:0<s.size)(h:s.size=7)(c:UInt8)(f:s[0]'d=c)(b:isK c=false):
  Calls prog 126 #[.string s] w (Jk w):=by
 have i:((s.size:Int) != 7)=false:=by simp;omega
 have j:((s.size:Int)==7)=true:=beq_iff_eq.2 (by omega);have g:(0:Int)<(s.size:Int):=by omega
 have a:=qQ (Jj c);clear h;go_enter func126,ntmps126;go_wp2_with fail;refine(a.out w).mono ?_;rintro _ _⟨rfl,rfl⟩;rw[b];go_wp2;go_ret3;exact⟨rfl,rfl⟩
theorem LD(s:Tw)(w:World)(hz:0<s.size)(h:s.size=7)(c:UInt8)(l:List UInt8)(g:s.data.toList=c::l)(A:isK c=true):
  Calls prog 126 #[.string s] w fun e w'=>e = .returned (.tuple #[.int .u8 (npK s:Nat),.int .i64 (npN s:Nat),.bool (kR s)])/\w=w':=by
 have t1:((s.size:Int) != 7)=false:=by simp;omega
 have t2:((s.size:Int)==7)=true:=beq_iff_eq.2 (by omega);have aa:l.length=6:=by have:=mG s;rw[g,qk]at this;omega
 have hc:=XZ g hz;have aj:(0:Int)<(s.size:Int):=by omega
 have R:=qQ fun(j:Nat) (k:j<l.length)=>(⟨by omega,Uc g j k (by omega)⟩:∃hs:j+1<s.size,s[j+1]'hs=l[j])
 have I:=qQ fun(b:∀x∈l,isD x=true)=>XQ c l aa A b
 have J:bs (c::l)=s:=by rw[<-g,Qi]
 rw[J]at I
 have X:=qQ fun(j:Nat) (k:j<l.length) (f:isD l[j]=false)=>nw (s:=s) (fun c' l' e=>by
  rw[g]at e;cases e;rintro ⟨_,_,ha⟩;rw[ha _ (List.getElem_mem k)]at f;cases f)
 have W:=qQ fun(j:Nat) (k:j<=l.length) (b:∀i (a:i<l.length),i<j->isD l[i]=true)=>(by
  have Z:=ni (l:=l.take j) (fun x D=>by
   obtain⟨i,a⟩:=List.getElem?_of_mem D;rw[List.getElem?_take]at a;by_cases v:i<j
   ·rw[qK v]at a;obtain⟨M,e⟩:=qM.1 a;rw[<-e];exact b i M v
   ·rw[qJ v]at a;cases a)
  rw[qq]at Z;have:10 ^ min j l.length<=10 ^ 6:=Nat.pow_le_pow_right (by decide) (by omega);omega:dv (l.take j)<=999999)
 obtain⟨K,y⟩:∃K,npK s=K:=⟨_,rfl⟩
 obtain⟨N,z⟩:∃N,npN s=N:=⟨_,rfl⟩
 obtain⟨o,C⟩:∃o,kR s=o:=⟨_,rfl⟩
 rw[y,z,C];have G:=qQ (qU y (qU z C));have S:=qQ (Jj c);have T:=qQ A;clear h g y z C J A;go_enter func126,ntmps126;go_wp2_with fail;refine(S.out w).mono ?_;rintro _ _⟨rfl,rfl⟩;rw[T.out];go_wp2;go_loopw [3,16] (fun n i wr=>∃j:Nat,j<=6/\i = .int .i64 (j:Nat)/\n = .int .i64 (dv (l.take j):Nat)/\(∀i (a:i<l.length),i<j->isD l[i]=true)/\w=wr) (fun _ i _=>6-(intOf i).toNat)
 case atStart=>exact⟨0,qH _,rfl,rfl,fun i a h=>absurd h (by omega),rfl⟩
 case round =>
  obtain⟨j,k,rfl,rfl,b,rfl⟩:=hrel;have ae:=W.out j (by omega) b;have F:=qQ b;clear b;by_cases M:j<6
  ·obtain⟨af,ag⟩:=R.out j (by omega);have ai:(1+(j:Int)).toNat=j+1:=(by omega);have ah:(1+(j:Int))<(s.size:Int):=(by omega);have ad:=(l[j]'(by omega)).toNat_lt;cases f:isD (l[j]'(by omega)) with
   | false =>
     have B:=X.out j (by omega) f;obtain⟨p,q⟩:=mW B;obtain⟨r,t,u⟩:=G.out;rw[p]at r;rw[q]at t;rw[B]at u;subst r t u;simp only[isD,decide_eq_false_iff_not]at f;have L:(l[j]'(by omega)).toNat<48∨57<(l[j]'(by omega)).toNat:=(by omega);generalize l[j]'(by omega)=d at*;clear f p q B;by_cases ac:d.toNat<48
     ·have P:decide ((d.toNat:Int)<48)=true:=qW (by omega);clear L;go_wp2;go_ret3;exact⟨rfl,rfl⟩
     ·have P:decide ((d.toNat:Int)<48)=false:=qG (by omega);have v2:decide ((57:Int)<(d.toNat:Int))=true:=qW (by omega);clear L;go_wp2;go_ret3;exact⟨rfl,rfl⟩
   | true =>
     have V:=qQ (Ud (l:=l) (j:=j) (by omega))
     have H:∀i (a:i<l.length),i<j+1->isD l[i]=true:=fun i a v=>by
      by_cases e:i=j
      ·subst e;exact f
      ·exact F.out i a (by omega)
     have U:=qQ H;simp only[isD,decide_eq_true_eq]at f;generalize l[j]'(by omega)=d at*;obtain⟨d1,d2⟩:=f;have P:decide ((d.toNat:Int)<48)=false:=qG (by omega);have v2:decide ((57:Int)<(d.toNat:Int))=false:=qG (by omega);generalize dv (l.take j)=m at*;clear H;go_wp2;go_roundw
     case rel=>exact⟨j+1,by omega,by go_num,by rw[V.out];go_num,U.out,trivial⟩
     case measure=>simp[intOf];omega
  ·obtain rfl:j=6:=by omega
   have b:∀x∈l,isD x=true:=fun x D=>by
    obtain⟨i,a⟩:=List.getElem?_of_mem D;obtain⟨ab,Y⟩:=qM.1 a;rw[<-Y];exact F.out i ab (by omega)
   obtain⟨p,q,Q⟩:=I.out b;obtain⟨r,t,u⟩:=G.out;rw[q]at r;rw[Q]at t;rw[p]at u;have O:l.take 6=l:=qg (by omega);rw[O];subst r t u;clear p q Q O b;go_wp2;go_ret3;exact⟨rfl,rfl⟩
theorem LF(s:Tw)(w:World)(m:s.size<=maxLen):
  Calls prog 126 #[.string s] w fun e w'=>e = .returned (.tuple #[.int .u8 (npK s:Nat),.int .i64 (npN s:Nat),.bool (kR s)])/\w=w':=by
 by_cases b:s.size=7
 ·cases a:s.data.toList with
  | nil =>
    have:=mG s;rw[a,b]at this;cases this
  | cons c l =>
    cases d:isK c with
    | true=>exact LD s w (by omega) b c l a d
    | false =>
      obtain⟨g,i⟩:=mW (nw (s:=s) (fun j k e=>by
       rw[a]at e;cases e;rintro ⟨_,h,_⟩;rw[d]at h;cases h))
      have f:=nw (s:=s) (fun j k e=>by
       rw[a]at e;cases e;rintro ⟨_,h,_⟩;rw[d]at h;cases h)
      rw[g,i,f];exact LC s w (by omega) b c (XZ a (by omega)) d
 ·have f:=nw (s:=s) (fun j k e=>by
   rintro ⟨h,_,_⟩;have:=mG s;rw[e,qk]at this;omega)
  obtain⟨g,i⟩:=mW f;rw[g,i,f];exact LB s w m b
theorem LH: jz where
 stream:=LJ
 chunk:=fun n w _=>LG n w
 table:=fun n w _=>LW n w
 zm:=fun n w _=>LA n w
 parse:=fun s w a=>(LF s w a).mono (by rintro e b⟨rfl,rfl⟩;exact⟨rfl,Below.refl _ _⟩)
def yW(s:Tw):Nat:=un (s.data.toList.take 2)
def kh(s:Tw):Bool:=decide (2<=s.size/\yW s+2<=s.size)
def rdA(s:Tw):Tw:=if kh s=true then s.extract 2 (2+yW s) else ByteArray.empty
def rdB(s:Tw):Tw:=if kh s=true then s.extract (2+yW s) s.size else ByteArray.empty
theorem LI(s:Tw):jJ (s.extract 0 2)=yW s:=by
 unfold jJ yW;have e:(s.extract 0 2).data.toList=s.data.toList.take 2:=by simp
 rw[e,qg (by rw[qq];omega)]
theorem Jv(s:Tw):yW s<=65535:=by
 have h:=cA (s.data.toList.take 2);have a:(s.data.toList.take 2).length<=2:=by rw[qq];omega
 have b:256 ^ (s.data.toList.take 2).length<=256 ^ 2:=Nat.pow_le_pow_right (by decide) a;unfold yW;omega
theorem Jy{s:Tw}(h:¬(2<=s.size/\yW s+2<=s.size)):kh s=false/\rdA s=ByteArray.empty/\rdB s=ByteArray.empty:=by
 have e:kh s=false:=by simpa[kh] using h
 simp[rdA,rdB,e]
theorem tD{s:Tw}(h:2<=s.size/\yW s+2<=s.size):kh s=true/\rdA s=s.extract 2 (2+yW s)/\rdB s=s.extract (2+yW s) s.size:=by
 have e:kh s=true:=by simpa[kh] using h
 simp[rdA,rdB,e]
theorem Ju(s:Tw)(w:World):Calls prog 131 #[.string (s.extract 0 2)] w fun e w'=>e = .returned (.int .u64 (yW s:Nat))/\w=w':=by
 rw[<-LI];exact gQ _ w (by unfold maxLen;rw[qS];omega)
theorem LL(s:Tw)(w:World)(c:s.size<=maxLen)(d:2<=s.size)(L:Nat)(f:L<=65535)(h:L+2<=s.size)
  (a:∀w:World,Calls prog 131 #[.string (s.extract 0 2)] w fun e w'=>e = .returned (.int .u64 (L:Nat))/\w=w'):
  Calls prog 212 #[.string s] w fun e w'=>e = .returned (.tuple #[.string (s.extract 2 (2+L)),.string (s.extract (2+L) s.size),.bool true])/\Below w.heap.size w w':=by
 unfold maxLen at c;have b:=qQ a;clear a;go_enter func212,ntmps212;go_wp2_with (go_at_call 131;refine(b.out _).mono ?_;rintro e w'⟨rfl,rfl⟩);go_quiet (fail);go_wp2;go_ret3;exact⟨rfl,yg (Below.refl _ _) _⟩
theorem LM(s:Tw)(w:World)(c:s.size<=maxLen)(d:2<=s.size)(L:Nat)(f:L<=65535)(h:s.size<L+2)
  (a:∀w:World,Calls prog 131 #[.string (s.extract 0 2)] w fun e w'=>e = .returned (.int .u64 (L:Nat))/\w=w'):
  Calls prog 212 #[.string s] w fun e w'=>e = .returned (.tuple #[.string ByteArray.empty,.string ByteArray.empty,.bool false])/\Below w.heap.size w w':=by
 unfold maxLen at c;have b:=qQ a;clear a;go_enter func212,ntmps212;go_wp2_with (go_at_call 131;refine(b.out _).mono ?_;rintro e w'⟨rfl,rfl⟩);go_ret3;exact⟨rfl,Below.refl _ _⟩
theorem fB(s:Tw)(w:World)(f:s.size<=maxLen):
  Calls prog 212 #[.string s] w fun e w'=>e = .returned (.tuple #[.string (rdA s),.string (rdB s),.bool (kh s)])/\Below w.heap.size w w':=by
 by_cases d:2<=s.size
 ·by_cases h:yW s+2<=s.size
  ·obtain⟨a,b,c⟩:=tD ⟨d,h⟩;rw[a,b,c];exact LL s w f d _ (Jv s) h (Ju s)
  ·obtain⟨a,b,c⟩:=Jy (s:=s) (by omega);rw[a,b,c];exact LM s w f d _ (Jv s) (by omega) (Ju s)
 ·obtain⟨a,b,c⟩:=Jy (s:=s) (by omega);rw[a,b,c];clear a b c;go_enter func212,ntmps212;go_wp2;go_ret3;exact⟨rfl,Below.refl _ _⟩
def chk(t d:Tw):Int:=if t.size=0 then 2 else if 16<t.size∨200<d.size then 3 else 0
theorem LN{t d:Tw}(h:t.size=0):chk t d=2:=by unfold chk;rw[qK h]
theorem Jg{t d:Tw}(a:¬t.size=0)(h:16<t.size∨200<d.size):chk t d=3:=by unfold chk;rw[qJ a,qK h]
theorem LO{t d:Tw}(a:¬t.size=0)(h:¬(16<t.size∨200<d.size)):chk t d=0:=by unfold chk;rw[qJ a,qJ h]
theorem mw{t d:Tw}:chk t d=0↔(1<=t.size/\t.size<=16/\d.size<=200):=by
 unfold chk;by_cases a:t.size=0
 ·rw[qK a];omega
 ·rw[qJ a];by_cases h:16<t.size∨200<d.size
  ·rw[qK h];omega
  ·rw[qJ h];omega
theorem tE(t d:Tw):chk t d=0∨chk t d=2∨chk t d=3:=by
 unfold chk;by_cases a:t.size=0
 ·rw[qK a];omega
 ·rw[qJ a];by_cases h:16<t.size∨200<d.size
  ·rw[qK h];omega
  ·rw[qJ h];omega
def evB(t d:Tw)(b:Nat):Tw:=bs (be 2 t.size)++t++(bs (be 2 d.size)++d)++bs (be 8 b)
theorem Jb(t d:Tw)(b:Nat):(evB t d b).size=t.size+d.size+12:=by
 unfold evB;simp only[ByteArray.size_append,jh,jO];omega
def erL(s:Tw):Tw:=rdB (rdB s)
def vu(s:Tw):Bool:=decide (8<=(erL s).size/\chk (rdA s) (rdA (rdB s))=0)
def erT(s:Tw):Tw:=if vu s=true then rdA s else ByteArray.empty
def erD(s:Tw):Tw:=if vu s=true then rdA (rdB s) else ByteArray.empty
def erW(s:Tw):Nat:=if vu s=true then jJ (erL s) else 0
def erR(s:Tw):Tw:=if vu s=true then(erL s).extract 8 (erL s).size else ByteArray.empty
theorem pX{s:Tw}(h:vu s=true):erT s=rdA s/\erD s=rdA (rdB s)/\erW s=jJ (erL s)/\erR s=(erL s).extract 8 (erL s).size:=by
 simp[erT,erD,erW,erR,h]
theorem tF{s:Tw}(h:vu s=false):erT s=ByteArray.empty/\erD s=ByteArray.empty/\erW s=0/\erR s=ByteArray.empty:=by
 simp[erT,erD,erW,erR,h]
theorem uS(s:Tw):(rdB s).size<=s.size:=by
 unfold rdB;by_cases h:kh s=true
 ·rw[qK h,qS];omega
 ·rw[qJ h];exact qH _
theorem nQ(s:Tw):(rdA s).size<=s.size:=by
 unfold rdA;by_cases h:kh s=true
 ·rw[qK h,qS];omega
 ·rw[qJ h];exact qH _
theorem LP(s:Tw):erW s<18446744073709551616:=by
 unfold erW;by_cases h:vu s=true
 ·rw[qK h];exact mX _
 ·rw[qJ h];decide
theorem Jc(s:Tw)(h:0<(rdB s).size):kh s=true:=by
 cases e:kh s with
 | true=>rfl
 | false =>
   unfold rdB at h;rw[e]at h;simp at h
theorem LR(s:Tw)(h:0<(erL s).size):kh s=true/\kh (rdB s)=true:=by
 have a:=Jc (rdB s) h;refine⟨Jc s ?_,a⟩;have:(rdB (rdB s)).size<=(rdB s).size:=uS _;unfold erL at h;omega
theorem cP(s:Tw):s.data.toList.length=s.size:=Array.length_toList
theorem LS{t:Tw}{n:Nat}{r:List UInt8}(a:n<=65535)(h:t.data.toList=be 2 n++r):yW t=n:=by
 unfold yW;rw[h,List.take_append_of_le_length (by rw[jO];omega),qg (by rw[jO];omega),dc];omega
theorem tH{t r:Tw}(h:t.size<=65535):rdA (bs (be 2 t.size)++t++r)=t/\rdB (bs (be 2 t.size)++t++r)=r/\kh (bs (be 2 t.size)++t++r)=true:=by
 have a:(bs (be 2 t.size)++t++r).data.toList=be 2 t.size++(t.data.toList++r.data.toList):=by
  simp only[ByteArray.data_append,Array.toList_append,List.append_assoc,bs]
 have b:yW (bs (be 2 t.size)++t++r)=t.size:=LS h a;have g:(bs (be 2 t.size)++t++r).size=t.size+2+r.size:=by rw[qT,qT,jh,jO];omega
 obtain⟨c,d,f⟩:=tD (s:=bs (be 2 t.size)++t++r) ⟨by omega,by omega⟩;refine⟨?_, ?_,c⟩
 ·rw[d,b];apply ByteArray.ext;apply Array.toList_inj.1;rw[ByteArray.data_extract,Array.toList_extract,a,List.extract,List.drop_left' (jO 2 _),List.take_left' (by rw[cP];omega)]
 ·rw[f,b];apply ByteArray.ext;apply Array.toList_inj.1;rw[ByteArray.data_extract,Array.toList_extract,a,g,List.extract,<-List.drop_drop,List.drop_left' (jO 2 _),List.drop_left' (cP t),qg (by rw[cP];omega)]
theorem Jd{s:Tw}(h:kh s=true):bs (be 2 (rdA s).size)++rdA s++rdB s=s:=by
 have b:2<=s.size/\yW s+2<=s.size:=by simpa[kh] using h
 obtain⟨_,a,c⟩:=tD b;have g:(rdA s).size=yW s:=by rw[a,qS];omega
 rw[g,a,c];apply ByteArray.ext;apply Array.toList_inj.1;have f:s.data.toList.length=s.size:=cP s
 have d:be 2 (yW s)=s.data.toList.take 2:=by
  have:=dd (s.data.toList.take 2);rw[qq,f,Nat.min_eq_left b.1]at this;exact this
 simp only[ByteArray.data_append,Array.toList_append,ByteArray.data_extract,Array.toList_extract,List.extract,bs,d];rw[Nat.add_sub_cancel_left,qd,qg (l:=List.drop (2+yW s) s.data.toList) (by rw[List.length_drop];omega),<-List.drop_drop,ql,ql]
theorem L0{L:Tw}(h:8<=L.size):bs (be 8 (jJ L))++L.extract 8 L.size=L:=by
 apply ByteArray.ext;apply Array.toList_inj.1;have b:L.data.toList.length=L.size:=cP L
 have a:be 8 (jJ L)=L.data.toList.take 8:=by
  have:=dd (L.data.toList.take 8);rw[qq,b,Nat.min_eq_left h]at this;exact this
 simp only[ByteArray.data_append,Array.toList_append,ByteArray.data_extract,Array.toList_extract,List.extract,bs,a];rw[qg (l:=List.drop 8 L.data.toList) (by rw[List.length_drop];omega),ql]
theorem Jf{b:Nat}(d:b<18446744073709551616)(r:Tw):jJ (bs (be 8 b)++r)=b/\(bs (be 8 b)++r).extract 8 (bs (be 8 b)++r).size=r:=by
 have a:(bs (be 8 b)++r).data.toList=be 8 b++r.data.toList:=by simp only[ByteArray.data_append,Array.toList_append,bs]
 have c:(bs (be 8 b)++r).size=8+r.size:=by rw[qT,jh,jO]
 constructor
 ·unfold jJ;rw[a,List.take_left' (jO 8 b),dc];exact Nat.mod_eq_of_lt (by omega)
 ·apply ByteArray.ext;apply Array.toList_inj.1;rw[ByteArray.data_extract,Array.toList_extract,a,c,List.extract,List.drop_left' (jO 8 b),qg (by rw[cP];omega)]
theorem L2(t d:Tw)(b:Nat)(r:Tw)(i:chk t d=0)(n:b<18446744073709551616):
  vu (evB t d b++r)=true/\erT (evB t d b++r)=t/\erD (evB t d b++r)=d/\erW (evB t d b++r)=b/\erR (evB t d b++r)=r:=by
 have y:=mw.1 i;have e:evB t d b++r=bs (be 2 t.size)++t++(bs (be 2 d.size)++d++(bs (be 8 b)++r)):=by unfold evB;simp only[ByteArray.append_assoc]
 obtain⟨f,a,u⟩:=tH (t:=t) (r:=bs (be 2 d.size)++d++(bs (be 8 b)++r)) (by omega);obtain⟨g,k,v⟩:=tH (t:=d) (r:=bs (be 8 b)++r) (by omega);obtain⟨l,m⟩:=Jf n r;rw[e];have c:erL (bs (be 2 t.size)++t++(bs (be 2 d.size)++d++(bs (be 8 b)++r)))=bs (be 8 b)++r:=by unfold erL;rw[a,k]
 have j:vu (bs (be 2 t.size)++t++(bs (be 2 d.size)++d++(bs (be 8 b)++r)))=true:=by
  unfold vu;rw[c,f,a,g,i,qT,jh,jO];simp
 obtain⟨o,p,q,s⟩:=pX j;refine⟨j, ?_, ?_, ?_, ?_⟩
 ·rw[o,f]
 ·rw[p,a,g]
 ·rw[q,c,l]
 ·rw[s,c,m]
theorem L3{s:Tw}(h:vu s=true):chk (erT s) (erD s)=0/\evB (erT s) (erD s) (erW s)++erR s=s:=by
 obtain⟨b,c,i,j⟩:=pX h;have a:8<=(erL s).size/\chk (rdA s) (rdA (rdB s))=0:=by simpa[vu] using h
 obtain⟨f,g⟩:=LR s (by omega);refine⟨by rw[b,c];exact a.2, ?_⟩;rw[b,c,i,j];have k:=Jd f;have l:=Jd g;have m:=L0 a.1;have e:evB (rdA s) (rdA (rdB s)) (jJ (erL s))++(erL s).extract 8 (erL s).size=bs (be 2 (rdA s).size)++rdA s++(bs (be 2 (rdA (rdB s)).size)++rdA (rdB s)++(bs (be 8 (jJ (erL s)))++(erL s).extract 8 (erL s).size)):=by unfold evB;simp only[ByteArray.append_assoc]
 rw[e,m];have d:erL s=rdB (rdB s):=rfl;rw[d,l,k]
theorem L4(b:Nat)(w:World):(callFunc 164 #[.float .f64 b]).run prog w = .ok (.value (.int .u64 (b:Nat))) w:=by
 rw[run_callFunc_extern func164 (by kernel_rfl) (by kernel_rfl) (by kernel_rfl) (e:=Extern.MathFloatBits.float64bits) (by kernel_rfl)];rfl
theorem pZ(t d:Tw)(b:Nat)(w:World)(f:t.size<=maxLen)(c:d.size<=maxLen):
  Calls prog 137 #[.agg #[.string t,.string d,.float .f64 b]] w fun e w'=>e = .returned (.int .i64 (chk t d))/\Below w.heap.size w w':=by
 unfold maxLen at f c;by_cases a:t.size=0
 ·rw[LN a];go_enter func137,ntmps137;go_wp2;go_ret;exact⟨rfl,(Below.refl _ _).alloc (qZ _) _⟩
 by_cases g:16<t.size
 ·rw[Jg a (by omega)];go_enter func137,ntmps137;go_wp2;go_ret;exact⟨rfl,(Below.refl _ _).alloc (qZ _) _⟩
 by_cases i:200<d.size
 ·rw[Jg a (by omega)];go_enter func137,ntmps137;go_wp2;go_ret;exact⟨rfl,(Below.refl _ _).alloc (qZ _) _⟩
 ·rw[LO a (by omega)];go_enter func137,ntmps137;go_wp2;go_ret;exact⟨rfl,(Below.refl _ _).alloc (qZ _) _⟩
theorem vT{a W:World}{p:Addr}{v:Value}(h:Below a.heap.size a W)(c:p.block<a.heap.size)(b:a.cell? p=some v):W.cell? p=some v:=(h.cell c).trans b
theorem Jh(s:Tw)(d:s.size<=200)(a W:World)(h:Below a.heap.size a W):
  Calls prog 141 #[.string s] W fun e w'=>e = .returned (.string (bs (be 2 s.size)++s))/\Below a.heap.size a w' :=
 (Xv s W (by omega)).mono fun e w' ⟨c,b⟩=>⟨c,bj h b⟩
theorem L7(b:Nat)(c:b<18446744073709551616)(a W:World)(h:Below a.heap.size a W):
  Calls prog 142 #[.int .u64 (b:Nat),.int .i64 8] W fun e w'=>e = .returned (.string (bs (be 8 b)))/\Below a.heap.size a w' :=
 (uL b 8 W (by omega) (by omega) c).mono fun e w' ⟨d,c⟩=>⟨d,bj h c⟩
theorem L8(t d:Tw)(b:Nat)(w:World)(f:b<18446744073709551616)(h:chk t d=0):
  Calls prog 143 #[.agg #[.string t,.string d,.float .f64 b]] w fun e w'=>e = .returned (.string (evB t d b))/\Below w.heap.size w w':=by
 have v:=mw.1 h;have i:=fun W=>pZ t d b W (by unfold maxLen;omega) (by unfold maxLen;omega)
 rw[h]at i;have q:=qQ i;have m:=qQ (Jh t (by omega));have j:=qQ (Jh d (by omega));have k:=qQ (L7 b f);have H:=fun w=>L4 b w
 have o:(bs (be 2 t.size)++t).size=t.size+2:=by rw[qT,jh,jO];omega
 have p:(bs (be 2 d.size)++d).size=d.size+2:=by rw[qT,jh,jO];omega
 have F:(bs (be 8 b)).size=8:=by rw[jh,jO]
 have e:evB t d b=bs (be 2 t.size)++t++(bs (be 2 d.size)++d)++bs (be 8 b):=rfl;have I:∀w:World,(Op.stringOp .add (bs (be 2 t.size)++t) (bs (be 2 d.size)++d)).run prog w = .ok (.string (bs (be 2 t.size)++t++(bs (be 2 d.size)++d))) w:=fun w=>run_string_add_sum (P:=prog) (w:=w) _ _ (by omega)
 have G:(bs (be 2 t.size)++t++(bs (be 2 d.size)++d)).size=t.size+2+(d.size+2):=by rw[qT,o,p]
 have J:∀w:World,(Op.stringOp .add (bs (be 2 t.size)++t++(bs (be 2 d.size)++d)) (bs (be 8 b))).run prog w = .ok (.string (evB t d b)) w:=fun w=>run_string_add_sum (P:=prog) (w:=w) _ _ (by omega)
 generalize evB t d b=B at*;generalize bs (be 2 t.size)++t++(bs (be 2 d.size)++d)=X at*;generalize bs (be 2 t.size)++t=T at*;generalize bs (be 2 d.size)++d=D at*;generalize bs (be 8 b)=Q at*;clear o p F G e i h v f;go_enter func143,ntmps143;go_wp2_with fail;refine(q.out _).mono ?_;rintro e a⟨rfl,c⟩;have y:=c.size;rw[World.size_alloc]at y;have z:a.cell? ⟨w.heap.size,0,none⟩=some (.string t):=vT c (by simp) (World.cell?_alloc_at _ _ _ _ rfl);have A:a.cell? ⟨w.heap.size,1,none⟩=some (.string d):=vT c (by simp) (World.cell?_alloc_at _ _ _ _ rfl);have C:a.cell? ⟨w.heap.size,2,none⟩=some (.float .f64 b):=vT c (by simp) (World.cell?_alloc_at _ _ _ _ rfl);have n:Below w.heap.size w a:=((Below.refl _ _).alloc (qZ _) _).trans (c.mono (by simp))
 have l:Hid (∀W,Below a.heap.size a W->Below a.heap.size a W/\W.cell? ⟨w.heap.size,0,none⟩=some (.string t)/\W.cell? ⟨w.heap.size,1,none⟩=some (.string d)/\W.cell? ⟨w.heap.size,2,none⟩=some (.float .f64 b)) :=
  qQ fun W g=>⟨g,vT g (show w.heap.size<_ by omega) z,vT g (show w.heap.size<_ by omega) A,vT g (show w.heap.size<_ by omega) C⟩
 have u:=qQ fun W (h:Below a.heap.size a W/\W.cell? ⟨w.heap.size,0,none⟩=some (.string t)/\W.cell? ⟨w.heap.size,1,none⟩=some (.string d)/\W.cell? ⟨w.heap.size,2,none⟩=some (.float .f64 b))=>m.out a W h.1
 have r:=qQ fun W (h:Below a.heap.size a W/\W.cell? ⟨w.heap.size,0,none⟩=some (.string t)/\W.cell? ⟨w.heap.size,1,none⟩=some (.string d)/\W.cell? ⟨w.heap.size,2,none⟩=some (.float .f64 b))=>j.out a W h.1
 have s:=qQ fun W (h:Below a.heap.size a W/\W.cell? ⟨w.heap.size,0,none⟩=some (.string t)/\W.cell? ⟨w.heap.size,1,none⟩=some (.string d)/\W.cell? ⟨w.heap.size,2,none⟩=some (.float .f64 b))=>k.out a W h.1
 clear c m j k;go_wp2_with fail
 go_region_held3 (fun W=>Below a.heap.size a W/\W.cell? ⟨w.heap.size,0,none⟩=some (.string t)/\W.cell? ⟨w.heap.size,1,none⟩=some (.string d)/\W.cell? ⟨w.heap.size,2,none⟩=some (.float .f64 b))
  (first | assumption | exact l.out _ (by assumption) | exact l.out _ (Below.refl _ _).drew | fail) (first
  | (go_at_call 141;((with_reducible refine(u.out _ (by assumption)).mono ?_);rintro e w'⟨rfl,f⟩))
  | (go_at_call 141;((with_reducible refine(r.out _ (by assumption)).mono ?_);rintro e w'⟨rfl,f⟩))
  | (go_at_call 142;((with_reducible refine(s.out _ (by assumption)).mono ?_);rintro e w'⟨rfl,f⟩))
  | fail)
 all_goals
  go_wp2;go_ret;exact⟨rfl,n.trans ((And.left (‹Below a.heap.size a _/\_›)).mono n.size)⟩
theorem Jl{a b:Tw}(h:a=b):(a.toList==b.toList)=true:=by rw[h,beq_iff_eq]
theorem Jm{a b:Tw}(h:¬a=b):(a.toList==b.toList)=false:=by
 rw[qy];intro x;rw[Lib.toList_data,Lib.toList_data]at x;exact h (ByteArray.ext (Array.toList_inj.1 x))
end
section
open Go.RowKit
theorem bA(P:Program)(w:World)(a:Addr)(m:Mode)(k:FloatKind)(b:Nat):(store a (.float k b) m).run P w=stored P w a (.float k b) m:=run_store P w a _ m rfl
attribute [local go_sem] bA
def vI(w:World)(g:Nat)(t d:Tw)(b:Nat):Prop:=w.heap[g]? = some (.cells #[.string t,.string d,.float .f64 b] 64 (0,0))
theorem vI.c0{w:World}{g:Nat}{t d:Tw}{b:Nat}(h:vI w g t d b):w.cell? ⟨g,0,none⟩=some (.string t):=by unfold vI at h;simp[World.cell?,h]
theorem vI.c1{w:World}{g:Nat}{t d:Tw}{b:Nat}(h:vI w g t d b):w.cell? ⟨g,1,none⟩=some (.string d):=by unfold vI at h;simp[World.cell?,h]
theorem vI.c2{w:World}{g:Nat}{t d:Tw}{b:Nat}(h:vI w g t d b):w.cell? ⟨g,2,none⟩=some (.float .f64 b):=by unfold vI at h;simp[World.cell?,h]
theorem vI.fz{w:World}{g:Nat}{t d:Tw}{b:Nat}(h:vI w g t d b)(i:Nat):w.frozen? ⟨g,i,none⟩=false:=by unfold vI at h;simp[World.frozen?,h]
theorem vI.new(w:World)(t d:Tw)(b:Nat):vI (w.alloc (.cells #[.string t,.string d,.float .f64 b] 64)) w.heap.size t d b:=by
 show(w.heap.push _)[w.heap.size]? = _;simp
theorem vI.lt{w:World}{g:Nat}{t d:Tw}{b:Nat}(h:vI w g t d b):g<w.heap.size:=by
 obtain⟨a,_⟩:=qb.1 h;exact a
theorem vI.below{w w':World}{g:Nat}{t d:Tw}{b:Nat}(h:vI w g t d b)(a:Below w.heap.size w w'):vI w' g t d b:=(a.block g h.lt).trans h
theorem vI.x7{w:World}{g:Nat}{t d:Tw}{b:Nat}(h:vI w g t d b)(f c:Tw)(a:Nat):
  vI (((w.setCell ⟨g,0,none⟩ (.string f)).setCell ⟨g,1,none⟩ (.string c)).setCell ⟨g,2,none⟩ (.float .f64 a)) g f c a:=by
 unfold vI at h ⊢;simp[World.setCell,Array.getElem?_modify,h]
theorem nX{w w2:World}(h:Below w.heap.size w w2)(c b:Value)(a:Value):
  Below w.heap.size w (((w2.setCell ⟨w.heap.size,0,none⟩ c).setCell ⟨w.heap.size,1,none⟩ b).setCell ⟨w.heap.size,2,none⟩ a):=((h.setCell (qZ _) _).setCell (qZ _) _).setCell (qZ _) _
theorem L9(s:Tw)(w:World)(d:s.size<=maxLen)(h:¬8<=(erL s).size):
  Calls prog 252 #[.string s] w fun e w'=>e = .returned (.tuple #[.agg #[.string ByteArray.empty,.string ByteArray.empty,.float .f64 0],.string ByteArray.empty,.bool false])/\Below w.heap.size w w':=by
 have k:=qQ fun W=>fB s W d
 have i:=qQ fun W=>fB (rdB s) W (qR (uS s) d)
 have z:(erL s).size<8:=by omega
 have j:rdB (rdB s)=erL s:=rfl;rw[j]at i;have f:=vI.new w ByteArray.empty ByteArray.empty 0;generalize erL s=L at*;generalize rdB s=R at*;generalize rdA s=A at*;generalize kh s=o at*;generalize rdA R=r at*;generalize kh R=B at*;clear j h d;go_enter func252,ntmps252;go_wp2_with fail;refine(k.out _).mono ?_;rintro e C⟨rfl,b⟩;have g:=f.below b;go_wp2_with fail;refine(i.out _).mono ?_;rintro e q⟨rfl,c⟩;have a:=g.below c;have l:Below w.heap.size w q:=(((Below.refl _ _).alloc (qZ _) _).trans (b.mono (by simp))).trans (c.mono (by have:=b.size;simp at this;omega));have m:=a.c0;have n:=a.c1;have p:=a.c2;have t:=a.fz 0;have u:=a.fz 1;have y:=a.fz 2;clear f g a b c;go_wp2_with fail;exact bodyPost_ret (v:=.tuple #[.agg #[.string ByteArray.empty,.string ByteArray.empty,.float .f64 0],.string ByteArray.empty,.bool false]) (by simp[results,Tryz.results252,go_sem,m,n,p];rfl) rfl ⟨rfl,nX l _ _ _⟩
theorem Lq(s:Tw)(w:World)(d:s.size<=maxLen)(h:8<=(erL s).size)(H:¬chk (rdA s) (rdA (rdB s))=0):
  Calls prog 252 #[.string s] w fun e w'=>e = .returned (.tuple #[.agg #[.string ByteArray.empty,.string ByteArray.empty,.float .f64 0],.string ByteArray.empty,.bool false])/\Below w.heap.size w w':=by
 have I:=qQ fun W=>fB s W d
 have u:=qQ fun W=>fB (rdB s) W (qR (uS s) d)
 have J:=qQ fun W=>gQ (erL s) W (qR (uS _) (qR (uS s) d))
 have O:=fun b w=>Qx b w
 have i:=fun b W=>pZ (rdA s) (rdA (rdB s)) b W (qR (nQ _) d) (qR (nQ _) (qR (uS s) d))
 have G:rdB (rdB s)=erL s:=rfl;rw[G]at u;have r:=vI.new w ByteArray.empty ByteArray.empty 0;rcases tE (rdA s) (rdA (rdB s)) with f|f|f
 ·exact absurd f H
 all_goals
  rw[f]at i;have K:=qQ i;clear i f H;generalize jJ (erL s)=n at*;generalize erL s=L at*;generalize rdB s=R at*;generalize rdA s=A at*;generalize kh s=o at*;generalize rdA R=q at*;generalize kh R=P at*;clear G d;go_enter func252,ntmps252;go_wp2_with fail;refine(I.out _).mono ?_;rintro e Q⟨rfl,g⟩;have t:=r.below g;go_wp2_with fail;refine(u.out _).mono ?_;rintro e N⟨rfl,j⟩;have a:=t.below j;have F:Below w.heap.size w N:=(((Below.refl _ _).alloc (qZ _) _).trans (g.mono (by simp))).trans (j.mono (by have:=g.size;simp at this;omega));have l:=a.c0;have m:=a.c1;have p:=a.c2;have B:=a.fz 0;have C:=a.fz 1;have D:=a.fz 2;have z:=qQ (a.x7 A q n);have y:=qQ (nX F (.string A) (.string q) (.float .f64 n));clear r t a g j F;go_wp2_with fail;refine(J.out _).mono ?_;rintro e w'⟨rfl,rfl⟩;go_wp2_with fail;refine(K.out _ _).mono ?_;rintro e S⟨rfl,k⟩;have c:=z.out.below k;have M:=bj y.out k;clear k z y l m p B C D;have l:=c.c0;have m:=c.c1;have p:=c.c2;have B:=c.fz 0;have C:=c.fz 1;have D:=c.fz 2;clear c;go_wp2_with fail;exact bodyPost_ret (v:=.tuple #[.agg #[.string ByteArray.empty,.string ByteArray.empty,.float .f64 0],.string ByteArray.empty,.bool false]) (by simp[results,Tryz.results252,go_sem,l,m,p];rfl) rfl ⟨rfl,nX M _ _ _⟩
theorem Lx(s:Tw)(w:World)(d:s.size<=maxLen)(h:8<=(erL s).size)(G:chk (rdA s) (rdA (rdB s))=0):
  Calls prog 252 #[.string s] w fun e w'=>e = .returned (.tuple #[.agg #[.string (rdA s),.string (rdA (rdB s)),.float .f64 (jJ (erL s))],.string ((erL s).extract 8 (erL s).size),.bool true])/\Below w.heap.size w w':=by
 have H:=qQ fun W=>fB s W d
 have t:=qQ fun W=>fB (rdB s) W (qR (uS s) d)
 have I:=qQ fun W=>gQ (erL s) W (qR (uS _) (qR (uS s) d))
 have O:=fun b w=>Qx b w
 have i:=fun b W=>pZ (rdA s) (rdA (rdB s)) b W (qR (nQ _) d) (qR (nQ _) (qR (uS s) d))
 have M:(erL s).size<=maxLen:=qR (uS _) (qR (uS s) d);unfold maxLen at M;have F:rdB (rdB s)=erL s:=rfl;rw[F]at t;have q:=vI.new w ByteArray.empty ByteArray.empty 0;rw[G]at i;have J:=qQ i;clear i G;generalize jJ (erL s)=n at*;generalize erL s=L at*;generalize rdB s=R at*;generalize rdA s=A at*;generalize kh s=o at*;generalize rdA R=g at*;generalize kh R=P at*;clear F d;go_enter func252,ntmps252;go_wp2_with fail;refine(H.out _).mono ?_;rintro e Q⟨rfl,f⟩;have r:=q.below f;go_wp2_with fail;refine(t.out _).mono ?_;rintro e N⟨rfl,j⟩;have a:=r.below j;have D:Below w.heap.size w N:=(((Below.refl _ _).alloc (qZ _) _).trans (f.mono (by simp))).trans (j.mono (by have:=f.size;simp at this;omega));have l:=a.c0;have m:=a.c1;have p:=a.c2;have z:=a.fz 0;have B:=a.fz 1;have C:=a.fz 2;have y:=qQ (a.x7 A g n);have u:=qQ (nX D (.string A) (.string g) (.float .f64 n));clear q r a f j D;go_wp2_with fail;refine(I.out _).mono ?_;rintro e w'⟨rfl,rfl⟩;go_wp2_with fail;refine(J.out _ _).mono ?_;rintro e S⟨rfl,k⟩;have c:=y.out.below k;have K:=bj u.out k;clear k y u l m p z B C;have l:=c.c0;have m:=c.c1;have p:=c.c2;have z:=c.fz 0;have B:=c.fz 1;have C:=c.fz 2;clear c;go_wp2_with fail;go_region
 all_goals
  go_wp2;exact bodyPost_ret (v:=.tuple #[.agg #[.string A,.string g,.float .f64 n],.string (L.extract 8 L.size),.bool true]) (by simp[results,Tryz.results252,go_sem,l,m,p]) rfl ⟨rfl,(nX K _ _ _).drew⟩
theorem Jn{s:Tw}(h:8<=(erL s).size)(a:chk (rdA s) (rdA (rdB s))=0):vu s=true:=by simp[vu,h,a]
theorem Jp{s:Tw}(h:¬8<=(erL s).size):vu s=false:=by simp[vu];omega
theorem Jr{s:Tw}(a:¬chk (rdA s) (rdA (rdB s))=0):vu s=false:=by simp[vu,a]
theorem Lz(s:Tw)(w:World)(g:s.size<=maxLen):
  Calls prog 252 #[.string s] w fun e w'=>e = .returned (.tuple #[.agg #[.string (erT s),.string (erD s),.float .f64 (erW s)],.string (erR s),.bool (vu s)])/\Below w.heap.size w w':=by
 by_cases h:8<=(erL s).size
 ·by_cases a:chk (rdA s) (rdA (rdB s))=0
  ·obtain⟨b,c,d,f⟩:=pX (Jn h a);rw[b,c,d,f,Jn h a];exact Lx s w g h a
  ·obtain⟨b,c,d,f⟩:=tF (Jr a);rw[b,c,d,f,Jr a];exact Lq s w g h a
 ·obtain⟨b,c,d,f⟩:=tF (Jp h);rw[b,c,d,f,Jp h];exact L9 s w g h
end
end Go.Proofs.YthejglbnkmimjaaGreat
