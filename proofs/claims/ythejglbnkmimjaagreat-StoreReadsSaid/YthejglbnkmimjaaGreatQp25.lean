import Derived.Test.YthejglbnkmimjaaGreatQp24
import Derived.Test.YthejglbnkmimjaaGreatQp20
set_option linter.unusedVariables false
set_option maxRecDepth 100000
set_option maxHeartbeats 9000000
namespace Go.Proofs.YthejglbnkmimjaaGreat
open Proofs.Tryz
section
open Go.RowKit Go.Shelf
theorem CN: (prog.info? 111).map (·.size)=some 9:=by kernel_rfl
theorem qJJ(d:Nat)(p:Addr)(w:World):(Op.equalIn (d+1) 71 (.pointer (some p)) (.pointer (some p))).run prog w=.ok true w:=by
 cases a:prog.info? 111 with
 | none=>have:=CN;rw[a]at this;cases this
 | some i =>
   have b:i.size=9:=(by have:=CN;rw[a]at this;simpa using this);simp[Op.equalIn,run_underlying Tryz.underlying71,sizeOf,typeInfo,a,sameAddr]
theorem qJK(p:Addr)(w:World):(binOp .neq 71 (.pointer (some p)) (.pointer (some p))).run prog w=.ok (.bool false) w:=by
 have a:(Op.equal 71 (.pointer (some p)) (.pointer (some p))).run prog w=.ok true w:=qJJ 9999 p w;simp only[binOp];simp[a]
theorem od{w:World}{g:Nat}(h:w.cell? ⟨g,0,none⟩=some (ptr g)):Calls prog 57 #[ptr g] w (X0 (.bool false) w):=by
 have a:=qJK ⟨g,0,none⟩;go_enter func57,ntmps57;go_wp2;go_ret;exact⟨rfl,rfl⟩
theorem CO(A:Option Addr)(n c:Nat)(w:World):(binOp .eql 45 (.slice A n c) (.slice none 0 0)).run prog w=.ok (.bool A.isNone) w:=by
 have a:=run_equal_slice_nil (P:=prog) w 45 37 A n c Tryz.underlying45;simp only[binOp];simp[a]
def Jz(w:World)(L:List LvS)(e:Ending)(w':World):Prop:=∃A c,e=.returned (.slice A L.length c)/\js w' w.1.size (.slice A L.length c) L/\Below w.1.size w w'
theorem qJV(v:Value)(L:List LvS)(w:World)(h:nS w v L)(p:L.length<=500000):Calls prog 104 #[v] w (Jz w L):=by
 obtain⟨A,off,j,rfl,-,-⟩:=h.1.form;cases A with
 | none =>
   have G:L=[]:=by
    rcases h.1 with⟨e,_⟩|⟨b,K,J,e,_⟩
    ·exact e
    ·cases e
   subst G;have H:=fun W=>CO none 0 j W
   clear h p;go_enter func104,ntmps104;go_wp2;go_ret;exact⟨none,0,rfl,js.nil _ _,qU _ _⟩
 | some a =>
   have f:=(qU w.1.size w).alloc (qK _) (.cells #[] 37);have q:js (w.alloc (.cells #[] 37)) w.1.size (.slice (some ⟨w.1.size,0,none⟩) 0 0) []:=World.ownsRow_made w #[] 0 (qK _) (qI _) rfl;have n:=h.1.below f (qK _);obtain⟨t,z,w',c,d,l,C⟩:=De q n h.2.one (by simp;omega) (by simp) 45;have o:=f.trans (sI l (B:=w.1.size) (by simp) (fun k F=>by simp[Value.ownBlock]at F;omega));have y:=qQ o;rw[List.nil_append]at d;have s:([]:List LvS).length+L.length=L.length:=(by simp);rw[s]at c d;have i:=qQ d;clear h p f q n d l C o s;unfold Jz;obtain⟨m,g⟩:∃m,m=L.length:=⟨_,rfl⟩
   have I:=qQ g;rw[<-g]at c i ⊢;clear g;have u:=qQ c;have H:=fun W=>CO (some a) m j W
   clear c;go_enter func104,ntmps104;go_wp2_with (first|(at_builtin;refine yK rfl _ _ rfl rfl rfl u.out ?_)|fail);go_ret;exact⟨t,z,rfl,i.out,y.out⟩
def br(w:World)(A:Option Addr)(n c:Nat)(R:LvL)(k:Nat)(wr:World):Prop :=
 ∃M,js wr w.1.size (.slice A n c) M/\lvl M=R/\(∀i x,k<=i->M[i]? = some x->kF w x.v x.l)/\(∀i x,i<k->M[i]? = some x->jd wr w.1.size x.v x.l)/\Below w.1.size w wr
theorem br.at_{w wr:World}{A:Option Addr}{n c k:Nat}{R:LvL}(h:br w A n c R k wr)(p:n=R.length)(s:k<n):∃g u x,A=some ⟨g,0,none⟩/\w.1.size<=g/\g<wr.1.size/\R[k]? = some x/\wr.cell? ⟨g,k,none⟩=some u/\wr.frozen? ⟨g,k,none⟩=false/\kF wr u x:=by
 obtain⟨M,b,d,j,q,m⟩:=h;have o:M.length=n:=by rw[<-bX,d,p]
 obtain⟨y,a⟩:∃y,M[k]? = some y:=⟨_,qD (by omega)⟩
 obtain⟨g,rfl,f,i,-⟩:=js.some_ b (by omega);obtain⟨c1,c2⟩:=js.cell b o.symm a;exact⟨g,y.v,y.l,rfl,f,i,by rw[<-d];exact sL a,c1,c2,(j k y (qK _) a).below m (qK _)⟩
theorem br.next{w wr w2:World}{g n c k m c2:Nat}{A:Option Addr}{R:LvL}{x:List Int}(h:br w (some ⟨g,0,none⟩) n c R k wr)(C:n=R.length)(p:R[k]? = some x)(F:jd w2 wr.1.size (.slice A m c2) x)(d:Below wr.1.size wr w2):
  br w (some ⟨g,0,none⟩) n c R (k+1) (w2.setCell ⟨g,k,none⟩ (.slice A m c2)):=by
 have J:k<R.length:=(qO.1 p).1;obtain⟨M,l,o,s,t,b⟩:=h;have z:M.length=n:=by rw[<-bX,o,C]
 obtain⟨q,e,u,I,-⟩:=js.some_ l (by omega);obtain rfl:g=q:=by cases e;rfl
 have f:=js.below l d (qK _);have H:=js.put f z.symm (i:=k) ⟨.slice A m c2,x⟩
 have G:R.set k x=R:=xV fun j=>by
  rw[List.getElem?_set];split
  ·rename_i e;subst e;rw[p]
  ·rfl
 refine⟨M.set k ⟨.slice A m c2,x⟩,H,by rw[sM,o];exact G,fun i y v a=>?_,fun i y v a=>?_,(b.trans (d.mono b.size)).setCell u _⟩
 ·rw[List.getElem?_set,qZ (by omega)]at a;exact s i y (by omega) a
 ·rw[List.getElem?_set]at a;split at a
  ·split at a
   ·obtain rfl:=qb a;exact jd.x9 (jd.down F b.size) f
   ·cases a
  ·rename_i K;exact jd.x9 (jd.below (t i y (by omega) a) d (qK _)) f
theorem br.done{w wr:World}{A:Option Addr}{n c k:Nat}{R:LvL}(h:br w A n c R k wr)(m:R.length<=k):vw wr w.1.size (.slice A n c) R:=by
 obtain⟨M,d,a,j,f,l⟩:=h;refine⟨M,d,fun x g=>?_,a⟩;obtain⟨i,b⟩:=qd g;have p:=(qO.1 b).1;have o:M.length=R.length:=by rw[<-bX,a]
 exact f i x (by omega) b
theorem br.drew{w wr:World}{A:Option Addr}{n c k:Nat}{R:LvL}(h:br w A n c R k wr):br w A n c R k wr.drew:=by
 obtain⟨M,a,b,d,f,g⟩:=h;exact⟨M,js.below a (qU _ _).drew (qK _),b,d,fun i x j l=>jd.below (f i x j l) (qU _ _).drew (qK _),g.drew⟩
theorem oh: (37:TypeId)≠47/\(3:TypeId)≠47:=by decide
theorem vw.off{w:World}{base g i:Nat}{v u:Value}{R:LvL}{cs:Array Value}(h:vw w base v R)(c:jF w g 47 cs):vw (w.setCell ⟨g,i,none⟩ u) base v R:=by
 obtain⟨M,a,b,f⟩:=h;exact⟨M,vu a (vJ a c oh.1) u,fun x d=>vu (b x d) (vJ (b x d) c oh.2) u,f⟩
theorem br.off{w wr:World}{A:Option Addr}{n c k g i:Nat}{R:LvL}{u:Value}{cs:Array Value}(h:br w A n c R k wr)(d:jF wr g 47 cs)(p:w.1.size<=g):br w A n c R k (wr.setCell ⟨g,i,none⟩ u):=by
 obtain⟨M,a,l,m,b,o⟩:=h;exact⟨M,vu a (vJ a d oh.1) u,l,m,fun i x f j=>vu (b i x f j) (vJ (b i x f j) d oh.2) u,o.setCell p u⟩
def ch(w:World)(n c:Int)(d:Nat)(R:LvL)(e:Ending)(w':World):Prop:=∃A cp,e=.returned (kc n c d (.slice A R.length cp))/\vw w' w.1.size (.slice A R.length cp) R/\Below w.1.size w w'
theorem lB{w:World}{g:Nat}{t:TypeId}{a b c d:Value}(h:jF w g t #[a,b,c,d]):w.cell? ⟨g,0,none⟩=some a/\w.cell? ⟨g,1,none⟩=some b/\w.cell? ⟨g,2,none⟩=some c/\w.cell? ⟨g,3,none⟩=some d:=⟨h.cell 0,h.cell 1,h.cell 2,h.cell 3⟩
theorem Jj{w:World}{g:Nat}{t:TypeId}{cs:Array Value}(h:jF w g t cs):w.frozen? ⟨g,0,none⟩=false/\w.frozen? ⟨g,1,none⟩=false/\w.frozen? ⟨g,2,none⟩=false/\w.frozen? ⟨g,3,none⟩=false:=⟨h.frozen 0,h.frozen 1,h.frozen 2,h.frozen 3⟩
theorem CP(n c:Int)(d:Nat)(A:Option Addr)(cp:Nat)(R:LvL)(w:World)(h:kh w (.slice A R.length cp) R)(hl:R.flatten.length<=100000)(hL:R.length<=100000):
  Calls prog 58 #[kc n c d (.slice A R.length cp)] w (ch w n c d R):=by
 obtain⟨Q,X,V⟩:=h;have ah:Q.length=R.length:=by rw[<-V,bX]
 obtain⟨l,z⟩:∃l,(w.alloc (.cells #[n,c,.int .u64 (d:Nat),.slice A R.length cp] 47)).alloc (.cells #[.int .i64 0,.int .i64 0,.int .u64 0,.slice none 0 0] 47)=l:=⟨_,rfl⟩
 have U:Below w.1.size w l:=by
  rw[<-z];exact((qU w.1.size w).alloc (qK _) _).alloc (by simp) _
 have b:jF l w.1.size 47 #[n,c,.int .u64 (d:Nat),.slice A R.length cp]:=by
  rw[<-z];exact(jF.new w _ _).alloc _
 have C:jF l (w.1.size+1) 47 #[.int .i64 0,.int .i64 0,.int .u64 0,.slice none 0 0]:=by
  have:=jF.new (w.alloc (.cells #[n,c,.int .u64 (d:Nat),.slice A R.length cp] 47)) 47 #[.int .i64 0,.int .i64 0,.int .u64 0,.slice none 0 0];rw[World.size_alloc,z]at this;exact this
 have al:l.1.size=w.1.size+2:=by rw[<-z];simp
 unfold kc ch;have am:=z;have f:=qJV _ Q l (X.below U (qK _)) (by omega);have ap:=qQ X;have ar:=qQ V;have aa:=qQ b;have an:=qQ C;have N:=qQ U;have aF:=qQ al;have ao:=qQ (fun k x (o:R[k]? = some x)=>oS o);have HL:=qQ hl;obtain⟨k0,k1,k2,G⟩:=lB b;unfold Jz at f;obtain⟨m,F⟩:∃m,m=R.length:=⟨_,rfl⟩
 have O:=qQ F;rw[ah,<-F]at f;have HC:=qQ f;rw[<-F]at G ⊢;rw[<-F]at aa am;have aq:Hid (m<=100000):=qQ (by omega);clear X V ah U b C hl hL z al f F;go_enter func58,ntmps58;go_wp2_with fail;refine HC.out.mono ?_;rintro e H⟨a,c2,rfl,ak,J⟩;have b:jF H w.1.size 47 #[n,c,.int .u64 (d:Nat),.slice A m cp]:=jF.below aa.out J;have C:jF H (w.1.size+1) 47 #[.int .i64 0,.int .i64 0,.int .u64 0,.slice none 0 0]:=jF.below an.out J;have ad:Below w.1.size w H:=N.out.trans (J.mono N.out.size);have aj:=js.down ak (show w.1.size<=l.1.size from N.out.size);have af:br w a m c2 R 0 H:=⟨Q,aj,ar.out,fun i x _ o=>ap.out.2 x (qM o),fun i x hi=>absurd hi (Nat.not_lt_zero _),ad⟩
 have L:=qQ (af.off (i:=3) (u:=.slice a m c2) b (qK _));have I:=qQ (b.put 3 (.slice a m c2));have T:=qQ (C.xF (p:=⟨w.1.size,3,none⟩) (by simp) (.slice a m c2));have q3:=b.cell 3;have f3:=b.frozen 3;clear ak J b C ad aj af k0 k1 k2 G am HC;obtain⟨w3,aC⟩:∃w3,H.setCell ⟨w.1.size,3,none⟩ (.slice a m c2)=w3:=⟨_,rfl⟩
 rw[aC]at L I T;have z3:w3.cell? ⟨w.1.size,3,none⟩=some (.slice a m c2):=I.out.cell 3;go_wp2;go_loopg [12] m (fun g i wr=>∃(k:Nat),k+g=m/\i=.int .i64 k/\br w a m c2 R k wr/\jF wr w.1.size 47 #[n,c,.int .u64 (d:Nat),.slice a m c2]/\jF wr (w.1.size+1) 47 #[.int .i64 0,.int .i64 0,.int .u64 0,.slice none 0 0])
 case atStart=>exact⟨0,by omega,rfl,L.out,I.out,T.out⟩
 case round =>
  obtain⟨k,aH,rfl,hf,p1,K⟩:=hrel;have s:=qQ hf;have P:=qQ p1;have t:=qQ K;obtain⟨k0,k1,k2,G⟩:=lB p1;obtain⟨r0,r1,r2,r3⟩:=lB K;obtain⟨t0,t1,t2,t3⟩:=Jj K;clear hf p1 K L I T z3;cases gk with
  | zero =>
    obtain rfl:k=m:=(by omega);have s1:¬(k:Int)<(k:Int):=(by omega);have ac:=qQ (show vw (dD wr (w.1.size+1) (.int .i64 n) (.int .i64 c) (.int .u64 (d:Nat)) (.slice a k c2)) w.1.size (.slice a k c2) R from(((((s.out.done (by rw[<-O.out];exact qK _)).off t.out).off (t.out.put 0 (.int .i64 n))).off ((t.out.put 0 (.int .i64 n)).put 1 (.int .i64 c))).off (((t.out.put 0 (.int .i64 n)).put 1 (.int .i64 c)).put 2 (.int .u64 (d:Nat)))))
    have ab:=qQ (show Below w.1.size w (dD wr (w.1.size+1) (.int .i64 n) (.int .i64 c) (.int .u64 (d:Nat)) (.slice a k c2)) from by
     obtain⟨M,-,-,-,-,hb⟩:=s.out;exact J5 hb (Nat.le_succ _) _ _ _ _)
    unfold dD at ac ab;go_wp2;exact bodyPost_ret (v:=kc n c d (.slice a k c2)) (by simp[results,kc,Tryz.results58,go_sem,r0,r1,r2,r3]) rfl ⟨a,c2,rfl,ac.out,ab.out⟩
  | succ gi =>
    have aA:k<m:=(by omega);have s1:(k:Int)<(m:Int):=(by omega);obtain⟨g,u,x,rfl,aG,ag,o,ae,az,Y⟩:=s.out.at_ O.out aA;obtain⟨A5,o5,c5,rfl,-,-⟩:=Y.form;have aE:=ao.out k x o;have aD:=HL.out;have f:=qQ (Qe _ x wr.drew (Y.below (qU _ _).drew (qK _)) (by omega));have HX:=qQ o
    have ai:w.1.size≠g:=by
     obtain⟨M,q,-⟩:=s.out;exact fun e=>vJ q P.out oh.1 (by rw[e];rfl)
    have aB:w.1.size+1≠g:=by
     obtain⟨M,q,-⟩:=s.out;exact fun e=>vJ q t.out oh.1 (by rw[e];rfl)
    have aI:=aq.out;have Z:w.1.size<wr.1.size:=P.out.lt;have aJ:w.1.size<wr.drew.1.size/\wr.drew.cell? ⟨w.1.size,3,none⟩=some (.slice (some ⟨g,0,none⟩) m c2):=⟨Z,G⟩
    have ax:=qQ (fun(W:World) (i:Nat) (y v:Value) (h:w.1.size<W.1.size/\W.cell? ⟨w.1.size,3,none⟩=some v)=>(show w.1.size<(W.setCell ⟨g,i,none⟩ y).1.size/\(W.setCell ⟨g,i,none⟩ y).cell? ⟨w.1.size,3,none⟩=some v from⟨by simpa[World.setCell] using h.1,(World.cell?_of_block (w:=W) (Below.heap_setCell _ _ _ _ (by simpa using ai))).trans h.2⟩));unfold bQ at f;clear o aE aD Y r0 r1 r2 r3 t0 t1 t2 t3 k0 k1 k2;obtain⟨y,hy⟩:∃y,y=x.length:=⟨_,rfl⟩
    rw[<-hy]at f ae;have HY:=qQ hy;clear hy;go_wp2_with fail
    go_region_held3 (fun W=>w.1.size<W.1.size/\W.cell? ⟨w.1.size,3,none⟩=some (.slice (some ⟨g,0,none⟩) m c2))
     (first|(with_reducible assumption)|(with_reducible exact ax.out _ _ _ _ (by with_reducible assumption))|fail)
     (first
     | (go_at_call 105;((with_reducible refine f.out.mono ?_);rintro e w9⟨A9,c9,rfl,h9,j⟩;have ay:w.1.size<w9.1.size/\w9.cell? ⟨w.1.size,3,none⟩=some (.slice (some ⟨g,0,none⟩) m c2):=⟨qS Z j.size,(j.cell (p:=⟨w.1.size,3,none⟩) Z).trans G⟩;have d3:=(j.cell (p:=⟨g,k,none⟩) ag).trans ae;have d4:w9.frozen? ⟨g,k,none⟩=false:=by rw[World.frozen?_of_block (w:=wr.drew) (j.block _ ag)];exact az))
     | fail)
    have au:=qQ (s.out.drew.next O.out HX.out h9 j);have av:=qQ ((jF.below P.out.drew j).xF (p:=⟨g,k,none⟩) ai (.slice A9 y c9));have aw:=qQ ((jF.below t.out.drew j).xF (p:=⟨g,k,none⟩) aB (.slice A9 y c9));clear h9 j ay d3 d4;go_wp2;go_roundg gi
    case measure=>omega
    case rel=>exact⟨k+1,by omega,by go_num,au.out,av.out,aw.out⟩
end
section
open Go.RowKit Go.Shelf
structure rr(w:World)(base gx gd r:Nat)(S:IxS)(Fm Gr Gk:List Nat)(gm:Nat)(A:Option Addr)(cp:Nat)(B:Option Addr)(c2:Nat)(ps:List Nat):Prop where
 xW:jF w gx 111 #[ptr gx,ptr gd,S.m.next,S.m.check,.int .u64 (S.m.seed:Nat),.slice A S.m.lv.length cp,.slice B ps.length c2,.float .f64 r,mtp gm]
 lv:bE w (.slice A S.m.lv.length cp) S.m.lv Gk
 row:vt w base (.slice B ps.length c2) ps
 xO:uu w gd ps S.T Gk
 mem:vZ w base gm Fm S.mem
 own:gx∈Gr
 xq:∀b∈jL (.slice B ps.length c2),b∈Gr
 low:base<=gx
section
variable {w w':World}{base gx gd r gm cp c2:Nat}{S:IxS}{Fm Gr Gk ps:List Nat}{A B:Option Addr}
theorem IxM.cells(h:IxM w base gx gd r S Fm Gr Gk):∃gm A cp B c2 ps,rr w base gx gd r S Fm Gr Gk gm A cp B c2 ps:=by
 obtain⟨gm,k,l,ps,c,a,b,d,f,g,i,j⟩:=h;obtain⟨A,off,cp,rfl,-,-⟩:=a.now.form;obtain⟨B,c2,rfl,-,-,-⟩:=b.form;exact⟨gm,A,cp,B,c2,ps,c,a,b,d,f,g,i,j⟩
theorem rr.cs(h:rr w base gx gd r S Fm Gr Gk gm A cp B c2 ps):w.cell? ⟨gx,0,none⟩=some (ptr gx)/\w.cell? ⟨gx,1,none⟩=some (ptr gd)/\w.cell? ⟨gx,2,none⟩=some (.int .i64 S.m.next)/\w.cell? ⟨gx,3,none⟩=some (.int .i64 S.m.check) /\
  w.cell? ⟨gx,4,none⟩=some (.int .u64 (S.m.seed:Nat))/\w.cell? ⟨gx,5,none⟩=some (.slice A S.m.lv.length cp)/\w.cell? ⟨gx,6,none⟩=some (.slice B ps.length c2)/\w.cell? ⟨gx,7,none⟩=some (.float .f64 r)/\w.cell? ⟨gx,8,none⟩=some (mtp gm) :=
 ⟨h.xW.cell 0,h.xW.cell 1,h.xW.cell 2,h.xW.cell 3,h.xW.cell 4,h.xW.cell 5,h.xW.cell 6,h.xW.cell 7,h.xW.cell 8⟩
end
section
variable {At:jR}(api:jS At){w0 w w':World}{gd gx r:Nat}{S:IxS}{D:jD}{E:List Nat}
include api
theorem CR(h:jf At w0 gd gx r S D E w)(ok:kB D S):Calls prog 31 #[ptr gx] w (ch w S.m.next S.m.check S.m.seed S.m.lv):=by
 have c:=(qU w.1.size w).alloc (qK _) (.cells #[.int .i64 0,.int .i64 0,.int .u64 0,.slice none 0 0] 47);have B:=jF.new w 47 #[.int .i64 0,.int .i64 0,.int .u64 0,.slice none 0 0];have n:(w.alloc (.cells #[.int .i64 0,.int .i64 0,.int .u64 0,.slice none 0 0] 47)).1.size=w.1.size+1:=by simp
 obtain⟨o,K⟩:∃o,w.alloc (.cells #[.int .i64 0,.int .i64 0,.int .u64 0,.slice none 0 0] 47)=o:=⟨_,rfl⟩
 rw[K]at c B n;obtain⟨Fm,Gr,Gk,-,F,-⟩:=h.below api c;obtain⟨gm,A,cp,P,c2,ps,i⟩:=F.cells;obtain⟨c0,-,T,U,V,I,-,-,-⟩:=i.cs;have J:=qQ (od c0);have l:=ok.may.2.2.2.2.1;have j:=CP S.m.next S.m.check S.m.seed A cp S.m.lv o i.lv.now (by have:=l.2.1;omega) (by have:=l.1;omega);have t:=qQ c;have H:=qQ B;have C:=qQ n;clear h ok F i c B l n;unfold ch kc at j;unfold ch;have y:=qQ j;clear j;generalize S.m.next=p at*;generalize S.m.check=q at*;generalize S.m.seed=s at*;generalize S.m.lv=R at*;obtain⟨m,k⟩:∃m,m=R.length:=⟨_,rfl⟩
 have Q:=qQ k;rw[<-k]at y I ⊢;clear k;go_enter func31,ntmps31;go_wp2_with fail;refine X5 J.out ?_;go_wp2_with fail;refine y.out.mono ?_;rintro e w2⟨a,b,rfl,G,f⟩;have d:=jF.below H.out f;obtain⟨L,M,N,O⟩:=lB d;obtain⟨W,X,Y,Z⟩:=Jj d;have z:=qQ ((G.manSet (g:=w.1.size) (by rw[C.out];omega) (.int .i64 p) (.int .i64 q) (.int .u64 (s:Nat)) (.slice a m b)).down (base':=w.1.size) (by rw[C.out];omega));have u:=qQ (J5 (t.out.trans (f.mono t.out.size)) (qK _) (.int .i64 p) (.int .i64 q) (.int .u64 (s:Nat)) (.slice a m b));unfold dD at z u;clear G f d;go_wp2;exact bodyPost_ret (v:=kc p q s (.slice a m b)) (by simp[results,kc,Tryz.results31,go_sem,L,M,N,O]) rfl ⟨a,b,rfl,z.out,u.out⟩
def fL(S:IxS)(x:jC):IxS:=if mayE x=true then { S with mem:=vz S.mem x } else S
def mA(x:jC):Nat:=if mayE x=true then 0 else 2
omit api in
theorem jf.zz(api:jS At){gm:Nat}{A B:Option Addr}{cp c2:Nat}{ps Fm Gr Gk i:List Nat}{l:List jC}(o:DS At w0 gd D (Fm++(Gr++(Gk++E))) w)(d:rr w w0.1.size gx gd r S Fm Gr Gk gm A cp B c2 ps)
  (f:∀b∈Fm,b ∉ Gr/\b ∉ Gk/\b ∉ E) (u:∀b∈Gr,b ∉ Gk/\b ∉ E) (p:∀b∈Gk,b ∉ E) (s:∀b∈Fm++Gr,w0.1.size<=b)
  (y:vZ w' w0.1.size gm i l) (hF:∀x∈i,x∈Fm∨w.1.size<=x) (z:jH Fm w w'):jf At w0 gd gx r { S with mem:=l } D E w'/\jE E w w':=by
 have n:=o.lt
 have C:∀b∈Gr++(Gk++E),b<w.1.size/\b ∉ Fm:=fun b a=>⟨n b (qJ _ a),fun g=>by
  rcases qE.1 a with k|k
  ·exact(f b g).1 k
  ·rcases qE.1 k with k|k
   ·exact(f b g).2.1 k
   ·exact(f b g).2.2 k⟩
 have j:jE (Gr++(Gk++E)) w w':=jE.xP z C;have hF2:∀x∈i,w0.1.size<=x/\x<w'.1.size:=by obtain⟨v,o,I,f,u,p,s,J⟩:=y;exact p
 have t:∀b∈i,∀G:List Nat,(∀c∈G,c<w.1.size)->(b∈Fm->b ∉ G)->b ∉ G:=fun b a G F H g=>by
  rcases hF b a with k|k
  ·exact H k g
  ·have:=F b g;omega
 refine⟨⟨i,Gr,Gk,o.xL api z (fun b a=>⟨qW _ a,s b (qW _ a)⟩) (fun b a=>?_),⟨gm,_,_,ps,j.xW d.xW (qW _ d.own),d.lv.step (j.less (fun b a=>qJ _ (qW _ a))),j.xj d.row (fun b a=>qW _ (d.xq b a)),d.xO.keep j (fun b a=>qJ _ (qW _ a)),y,d.own,d.xq,d.low⟩,fun b a=>?_,u,p,fun b a=>?_⟩,j.less (fun b a=>qJ _ (qJ _ a))⟩
 ·rcases qE.1 a with k|k
  ·rcases hF b k with q|q
   ·exact qX (qW _ q)
   ·exact qY ⟨q,(hF2 b k).2⟩
  ·exact qX (qJ _ k)
 ·exact⟨t b a Gr (fun c m=>n c (qJ _ (qW _ m))) (fun k=>(f b k).1),t b a Gk (fun c m=>n c (qJ _ (qJ _ (qW _ m)))) (fun k=>(f b k).2.1),t b a E (fun c m=>n c (qJ _ (qJ _ (qJ _ m)))) (fun k=>(f b k).2.2)⟩
 ·rcases qE.1 a with k|k
  ·exact(hF2 b k).1
  ·exact s b (qJ _ k)
theorem qJY(h:jf At w0 gd gx r S D E w){x:jC}(M:kz x)(hn:S.mem.length<=100000):Calls prog 89 #[ptr gx,kv x] w (nH At w0 gd gx r (err (mA x)) (fL S x) D E w):=by
 have d:=(qU w.1.size w).alloc (qK _) (.cells #[.int .u64 (x.h:Nat),x.v,x.p] 117);have g:=jF.new w 117 #[.int .u64 (x.h:Nat),x.v,x.p];have J:=qQ h.lt;have C:=h.more api d (B:=[w.1.size]) (fun b f=>by rw[qH.1 f];exact⟨qK _,g.lt⟩);obtain⟨n,ak⟩:∃n,w.alloc (.cells #[.int .u64 (x.h:Nat),x.v,x.p] 117)=n:=⟨_,rfl⟩
 rw[ak]at d g C;obtain⟨a,ai⟩:∃a,w.1.size=a:=⟨_,rfl⟩
 rw[ai]at g C
 have ah:n.cell? ⟨gx,0,none⟩=some (ptr gx):=by
  obtain⟨Fm,Gr,Gk,-,L,-⟩:=C;obtain⟨gm,A,cp,o,c2,ps,j⟩:=L.cells;exact j.cs.1
 have ac:=qQ (od ah);have U:=qQ (UY x n M);have X:=qQ C;have ae:=qQ g;have I:=qQ d;have HX:=qQ M;obtain⟨N,O,P⟩:n.cell? ⟨a,0,none⟩=some (.int .u64 (x.h:Nat))/\n.cell? ⟨a,1,none⟩=some (.int .i64 x.v)/\n.cell? ⟨a,2,none⟩=some (.int .i64 x.p):=⟨g.cell 0,g.cell 1,g.cell 2⟩
 have Q:=qQ fun(W:World) (F:List Nat) (gm:Nat) (k:vZ W w0.1.size gm F S.mem)=>P8 k M hn
 clear h C d g M;cases f:mayE x with
 | false =>
   have y:fL S x=S:=(by unfold fL;rw[f];rfl);have z:mA x=2:=(by unfold mA;rw[f];rfl);rw[y,z];rw[tZ f]at U;clear y z f Q;obtain⟨q,u,t⟩:=x;go_enter func89,ntmps89;go_wp2_with fail;refine X5 ac.out ?_;go_wp2_with fail;refine U.out.mono ?_;rintro e c⟨rfl,i⟩;have H:=qQ (X.out.below api i);have T:=qQ ((jE.xA I.out J.out).trans (jE.xA i (fun b d=>qS (J.out b d) I.out.size)));clear i;go_wp2;go_ret;exact⟨rfl,H.out.less (fun b d=>qJ _ d),T.out⟩
 | true =>
   have y:fL S x={ S with mem:=vz S.mem x }:=(by unfold fL;rw[f];rfl);have z:mA x=0:=(by unfold mA;rw[f];rfl);rw[y,z];have aj:=Xb f
   have an:((vP x).toList==[])=false:=by
    rw[qg];intro e;have hz:(vP x).toList.length=0:=(by rw[e];rfl);rw[Lib.toList_data,Array.length_toList]at hz;have:(vP x).size=0:=hz;omega
   clear y z f aj;generalize vP x=s at*;obtain⟨q,u,t⟩:=x;go_enter func89,ntmps89;go_wp2_with fail;refine X5 ac.out ?_;go_wp2_with fail;refine U.out.mono ?_;rintro e c⟨rfl,i⟩;have H:=X.out.below api i;have T:=qQ ((jE.xA I.out J.out).trans (jE.xA i (fun b d=>qS (J.out b d) I.out.size)));have o:=jF.below ae.out i;obtain⟨Fm,Gr,Gk,Z,L,K,d4,d5,d6⟩:=H.drew api;obtain⟨gm,A,cp,Bq,c2,ps,j⟩:=L.cells;have V:c.drew.cell? ⟨gx,8,none⟩=some (mtp gm):=j.cs.2.2.2.2.2.2.2.2;obtain⟨N,O,P⟩:c.drew.cell? ⟨a,0,none⟩=some (.int .u64 (q:Nat))/\c.drew.cell? ⟨a,1,none⟩=some (.int .i64 u)/\c.drew.cell? ⟨a,2,none⟩=some (.int .i64 t):=⟨o.cell 0,o.cell 1,o.cell 2⟩
   have al:c.drew.cell? ⟨gx,8,none⟩=some (mtp gm)/\c.drew.cell? ⟨a,0,none⟩=some (.int .u64 (q:Nat))/\c.drew.cell? ⟨a,1,none⟩=some (.int .i64 u)/\c.drew.cell? ⟨a,2,none⟩=some (.int .i64 t):=⟨V,N,O,P⟩
   have ad:=qQ (Q.out c.drew Fm gm j.mem);have aa:gx ∉ Fm:=fun f=>(K gx f).1 j.own
   have m:a ∉ Fm/\a<c.drew.1.size:=⟨fun f=>(K a f).2.2 (qW _ qC),o.lt⟩
   have ab:gx<c.drew.1.size:=j.xW.lt;have ag:=qQ (fun(W:World) (k:jH Fm c.drew W)=>(show W.cell? ⟨gx,8,none⟩=some (mtp gm)/\W.cell? ⟨a,0,none⟩=some (.int .u64 (q:Nat))/\W.cell? ⟨a,1,none⟩=some (.int .i64 u)/\W.cell? ⟨a,2,none⟩=some (.int .i64 t) from⟨(k.cell (p:=⟨gx,8,none⟩) ab aa).trans V,(k.cell (p:=⟨a,0,none⟩) m.2 m.1).trans N,(k.cell (p:=⟨a,1,none⟩) m.2 m.1).trans O,(k.cell (p:=⟨a,2,none⟩) m.2 m.1).trans P⟩));have af:=qQ (fun(W:World) (G:List Nat) (l:List jC) (k:vZ W w0.1.size gm G l) (hF:∀x∈G,x∈Fm∨c.drew.1.size<=x) (ht:jH Fm c.drew W)=>jf.zz api Z j K d4 d5 d6 k hF ht);clear H Z L K d4 d5 d6 j o V N O P i aa m ab Q;generalize vz S.mem ⟨q,u,t⟩=R at*;go_wp2_with fail
   go_region_held3 (fun W=>W.cell? ⟨gx,8,none⟩=some (mtp gm)/\W.cell? ⟨a,0,none⟩=some (.int .u64 (q:Nat))/\W.cell? ⟨a,1,none⟩=some (.int .i64 u)/\W.cell? ⟨a,2,none⟩=some (.int .i64 t))
    (first|(with_reducible assumption)|fail)
    (first
    | (go_at_call 150;((with_reducible refine ad.out.mono ?_);rintro e w9⟨G,rfl,h9,k9,t9⟩;have am:=ag.out w9 t9;have Y:=qQ (af.out w9 G _ h9 k9 t9)))
    | fail)
   go_wp2;go_ret;exact⟨rfl,Y.out.1.less (fun b d=>qJ _ d),T.out.drew.trans (Y.out.2.less (fun b d=>qJ _ d))⟩
end
end
section
open Go.RowKit
section
variable {At:jR}(api:jS At)(nap:jw){w0 w:World}{gd:Nat}{D:jD}{E:List Nat}
include api
theorem qJU(h:DS At w0 gd D E w)(ok:WfP D)(n:Int)(b:D.down=true):Calls prog 179 #[ptr gd,n] w (X0 (.tuple #[.pointer none,err 61]) w):=by
 have a:=tT api h ok;rw[qV b]at a;have c:=qQ a;clear a h ok b;go_enter func179,ntmps179;go_wp2_with fail;refine X5 c.out ?_;go_wp2;go_ret2;exact⟨rfl,rfl⟩
include nap
theorem CS(h:DS At w0 gd D E w)(ok:WfP D)(G:D.count<=1000000000)(H:D.cap<=1048576)(n:Int)(v:(Lit.int .i64 n).wf=true)(u:D.down=false)(b:(rdW D (ptT n)).2.1≠0∨yw (rdW D (ptT n)).1=false):
  Calls prog 179 #[ptr gd,n] w (y9 At w0 gd (.tuple #[.pointer none,err 90]) (rdW D (ptT n)).2.2 E w):=by
 have q:=tT api h ok;rw[qZ (by rw[u];decide)]at q;have o:=qQ q;have I:=Xy ok (ptT n);have k:=qQ fun W=>nap.table n W v
 rw[show nmS 116 n=ptT n from rfl]at k;have l:=qQ fun W (K:Below w.1.size w W)=>Z9 api (h.below api K) ok (by omega) (ptT n) (oB n)
 have j:=qQ fun W=>UM (rdW D (ptT n)).1 W (by omega)
 have C:=qQ h.lt;by_cases p:(rdW D (ptT n)).2.1=0
 ·have t:yw (rdW D (ptT n)).1=false:=by rcases b with b|b;exact absurd p b;exact b
  unfold fw at j;rw[(ZH t).2,(ZH t).1]at j;rw[p]at l;generalize (rdW D (ptT n)).2.2=J at*;generalize (rdW D (ptT n)).1=s at*;generalize ptT n=L at*;clear h ok G H v u p b q I t;go_enter func179,ntmps179;go_wp2_with fail;refine X5 o.out ?_;go_wp2_with fail;refine(k.out _).mono ?_;rintro e N⟨rfl,a⟩;have g:=qQ (jE.xA a C.out);have f:=qQ (l.out _ a);clear a l k o;go_wp2_with fail;refine f.out.mono ?_;rintro e O⟨rfl,i,m⟩;have d:=qQ (qG i (g.out.trans m));clear i m f g;go_wp2_with fail;refine(j.out _).mono ?_;rintro e Q⟨A,c,rfl,M,F⟩;have z:=qQ F;clear M F j;go_wp2;go_ret2;exact⟨rfl,d.out.1.below api z.out,d.out.2.trans (jE.xA z.out d.out.1.lt)⟩
 ·have P:(((rdW D (ptT n)).2.1:Int) != 0)=true:=by simp;omega
  generalize (rdW D (ptT n)).2.2=J at*;generalize (rdW D (ptT n)).2.1=y at*;generalize (rdW D (ptT n)).1=s at*;generalize ptT n=L at*;clear h ok G H v u p b q I j;go_enter func179,ntmps179;go_wp2_with fail;refine X5 o.out ?_;go_wp2_with fail;refine(k.out _).mono ?_;rintro e N⟨rfl,a⟩;have g:=qQ (jE.xA a C.out);have f:=qQ (l.out _ a);clear a l k o;go_wp2_with fail;refine f.out.mono ?_;rintro e O⟨rfl,i,m⟩;have d:=qQ (qG i (g.out.trans m));clear i m f g;go_wp2;go_ret2;exact⟨rfl,d.out.1,d.out.2⟩
end
section
variable {At:jR}(api:jS At)(nap:jw){w0 w:World}{gd:Nat}{D:jD}{E:List Nat}
def re(At:jR)(w0:World)(gd:Nat)(n:Int)(D:jD)(E:List Nat)(w:World)(e:Ending)(w':World):Prop :=
 (vU D n=0/\rp At w0 gd n (tgL (rdW D (ptT n)).1) (ldF (rdW D (ptT n)).2.2 n (tgL (rdW D (ptT n)).1)) (uI D n) E w e w') ∨
 (vU D n≠0/\e=.returned (.tuple #[.pointer none,err (vU D n)])/\DS At w0 gd (uI D n) E w'/\jE E w w')
include api nap
theorem CT(h:DS At w0 gd D E w)(ok:WfP D)(i:D.count<=1000000000)(n:Int)(k:(Lit.int .i64 n).wf=true)(l:vU D n=0->(tgL (rdW D (ptT n)).1).length<=10000):
  Calls prog 179 #[ptr gd,n] w (re At w0 gd n D E w):=by
 have j:=ok.cap;unfold re;cases d:D.down with
 | true =>
   have a:vU D n=61:=(by unfold vU;rw[qV d]);have c:uI D n=D:=(by unfold uI;rw[qV d]);refine X5 (qJU api h ok n d) ?_;rw[a,c];exact qY ⟨by decide,rfl,h,jE.refl _ _⟩
 | false =>
   have g:¬D.down=true:=(by rw[d];decide);by_cases b:(rdW D (ptT n)).2.1=0
   ·cases f:yw (rdW D (ptT n)).1 with
    | true =>
      have a:vU D n=0:=by
       unfold vU;rw[qZ g,qZ (by simp[b]),qZ (by rw[f];decide)]
      have c:uI D n=(rdW (rdW D (ptT n)).2.2 (ptB n)).2.2:=by
       unfold uI;rw[qZ g,qZ (by simp[b]),qZ (by rw[f];decide)]
      have m:=l a;rw[a,c];exact(qJZ api nap h ok i j n k d b f m).mono fun e w' h=>qX ⟨rfl,h⟩
    | false =>
      have a:vU D n=90:=by
       unfold vU;rw[qZ g,qZ (by simp[b]),qV f]
      have c:uI D n=(rdW D (ptT n)).2.2:=by
       unfold uI;rw[qZ g,qZ (by simp[b]),qV f]
      rw[a,c];exact(CS api nap h ok i j n k d (qY f)).mono fun e w' h=>qY ⟨by decide,h.1,h.2.1,h.2.2⟩
   ·have a:vU D n=90:=by
     unfold vU;rw[qZ g,qV b]
    have c:uI D n=(rdW D (ptT n)).2.2:=by
     unfold uI;rw[qZ g,qV b]
    rw[a,c];exact(CS api nap h ok i j n k d (qX b)).mono fun e w' h=>qY ⟨by decide,h.1,h.2.1,h.2.2⟩
end
theorem Jk{D:jD}(h:WfP D)(n:Int):WfP (uI D n):=by
 unfold uI;split
 ·exact h
 ·split
  ·exact pR h _
  ·split
   ·exact pR h _
   ·exact pR (pR h _) _
end
end Go.Proofs.YthejglbnkmimjaaGreat
