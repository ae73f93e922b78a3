import Derived.Test.YtokbfellcadkpaaGreatPp34
import Derived.Test.YtokbfellcadkpaaGreatPp28
set_option linter.unusedVariables false
set_option maxRecDepth 100000
set_option maxHeartbeats 9000000
namespace Go.Proofs.YtokbfellcadkpaaGreat
open Tryz
section
open Go.RowKit Go.Shelf
theorem Cf: (prog.info? 89).map (·.size)=some 9:=by kernel_rfl
theorem qKI(d:Nat)(p:Addr)(w:World):(Op.equalIn (d+1) 33 (.pointer (some p)) (.pointer (some p))).run prog w = .ok true w:=by
 cases a:prog.info? 89 with
 | none=>have:=Cf;rw[a]at this;cases this
 | some i =>
   have c:i.size=9:=(by have:=Cf;rw[a]at this;simpa using this);simp[Op.equalIn,run_underlying Tryz.underlying33,sizeOf,typeInfo,a,sameAddr]
theorem qKL(p:Addr)(w:World):(binOp .neq 33 (.pointer (some p)) (.pointer (some p))).run prog w = .ok (.bool false) w:=by
 have a:(Op.equal 33 (.pointer (some p)) (.pointer (some p))).run prog w = .ok true w:=qKI 9999 p w;simp only[binOp];simp[a]
theorem nY{w:World}{g:Nat}(h:w.cell? ⟨g,0,none⟩=some (ptr g)):Calls prog 33 #[ptr g] w fun e w'=>e = .returned (.bool false)/\w=w':=by
 have a:=qKL ⟨g,0,none⟩;go_enter func33,ntmps33;go_wp2;go_ret;exact⟨rfl,rfl⟩
theorem Ch(A:Option Addr)(n c:Nat)(w:World):(binOp .eql 38 (.slice A n c) (.slice none 0 0)).run prog w = .ok (.bool A.isNone) w:=by
 have a:=run_equal_slice_nil (P:=prog) w 38 96 A n c Tryz.underlying38;simp only[binOp];simp[a]
def Jd(w:World)(L:List LvS)(e:Ending)(w':World):Prop:=∃A c,e = .returned (.slice A L.length c)/\j8 w' w.heap.size (.slice A L.length c) L/\Below w.heap.size w w'
theorem qKM(v:Value)(L:List LvS)(w:World)(h:oI w v L)(p:L.length<=500000):Calls prog 104 #[v] w (Jd w L):=by
 obtain⟨A,off,j,rfl,-,-⟩:=h.1.form;cases A with
 | none =>
   have H:L=[]:=by
    rcases h.1 with⟨e,_⟩|⟨b,N,K,e,_⟩
    ·exact e
    ·cases e
   subst H;have I:=fun W=>Ch none 0 j W
   clear h p;go_enter func104,ntmps104;go_wp2;go_ret;exact⟨none,0,rfl,j8.nil _ _,Below.refl _ _⟩
 | some a =>
   have f:=(Below.refl w.heap.size w).alloc (qK _) (.cells #[] 96);have q:j8 (w.alloc (.cells #[] 96)) w.heap.size (.slice (some ⟨w.heap.size,0,none⟩) 0 0) []:=World.ownsRow_made w #[] 0 (qK _) (qF _) rfl;have n:=h.1.below f (qK _);obtain⟨t,z,w',c,d,l,C⟩:=T9 q n h.2.one (by simp;omega) (by simp) 38;have o:=f.trans (QQ l (B:=w.heap.size) (by simp) (fun k G=>by simp[Value.ownBlock]at G;omega));have y:=qQ o;rw[List.nil_append]at d;have s:([]:List LvS).length+L.length=L.length:=(by simp);rw[s]at c d;have i:=qQ d;clear h p f q n d l C o s;unfold Jd;obtain⟨m,g⟩:∃m,m=L.length:=⟨_,rfl⟩
   have J:=qQ g;rw[<-g]at c i ⊢;clear g;have u:=qQ c;have I:=fun W=>Ch (some a) m j W
   clear c;go_enter func104,ntmps104;go_wp2_with (first | (at_builtin;refine yI rfl _ _ rfl rfl rfl u.out ?_) | fail);go_ret;exact⟨t,z,rfl,i.out,y.out⟩
def bP(w:World)(A:Option Addr)(n c:Nat)(R:LvL)(k:Nat)(wr:World):Prop :=
 ∃M,j8 wr w.heap.size (.slice A n c) M/\lvl M=R/\(∀i x,k<=i->M[i]? = some x->kX w x.v x.l)/\(∀i x,i<k->M[i]? = some x->j4 wr w.heap.size x.v x.l)/\Below w.heap.size w wr
theorem bP.at_{w wr:World}{A:Option Addr}{n c k:Nat}{R:LvL}(h:bP w A n c R k wr)(q:n=R.length)(t:k<n):∃g u x,A=some ⟨g,0,none⟩/\w.heap.size<=g/\g<wr.heap.size/\R[k]? = some x/\wr.cell? ⟨g,k,none⟩=some u/\wr.frozen? ⟨g,k,none⟩=false/\kX wr u x:=by
 obtain⟨M,d,f,m,s,o⟩:=h;have p:M.length=n:=by rw[<-gS,f,q]
 obtain⟨y,a⟩:∃y,M[k]? = some y:=⟨_,qC (by omega)⟩
 obtain⟨g,rfl,i,j,-⟩:=j8.some_ d (by omega);obtain⟨c1,c2⟩:=j8.cell d p.symm a;exact⟨g,y.v,y.l,rfl,i,j,by rw[<-f];exact QZ a,c1,c2,(m k y (qK _) a).below o (qK _)⟩
theorem bP.next{w wr w2:World}{g n c k m c2:Nat}{A:Option Addr}{R:LvL}{x:List Int}(h:bP w (some ⟨g,0,none⟩) n c R k wr)(G:n=R.length)(q:R[k]? = some x)(H:j4 w2 wr.heap.size (.slice A m c2) x)(f:Below wr.heap.size wr w2):
  bP w (some ⟨g,0,none⟩) n c R (k+1) (w2.setCell ⟨g,k,none⟩ (.slice A m c2)):=by
 have N:k<R.length:=(qP.1 q).1;obtain⟨M,o,p,t,u,d⟩:=h;have C:M.length=n:=by rw[<-gS,p,G]
 obtain⟨s,e,v,K,-⟩:=j8.some_ o (by omega);obtain rfl:g=s:=by cases e;rfl
 have l:=j8.below o f (qK _);have J:=j8.put l C.symm (i:=k) ⟨.slice A m c2,x⟩
 have I:R.set k x=R:=List.ext_getElem? fun j=>by
  rw[List.getElem?_set];split
  ·rename_i e;subst e;rw[q]
  ·rfl
 refine⟨M.set k ⟨.slice A m c2,x⟩,J,by rw[rA,p];exact I,fun i y z a=>?_,fun i y z a=>?_,(d.trans (f.mono d.size)).setCell v _⟩
 ·rw[List.getElem?_set,qZ (by omega)]at a;exact t i y (by omega) a
 ·rw[List.getElem?_set]at a;split at a
  ·split at a
   ·obtain rfl:=qg a;exact j4.xF (j4.down H d.size) l
   ·cases a
  ·rename_i O;exact j4.xF (j4.below (u i y (by omega) a) f (qK _)) l
theorem bP.done{w wr:World}{A:Option Addr}{n c k:Nat}{R:LvL}(h:bP w A n c R k wr)(o:R.length<=k):vJ wr w.heap.size (.slice A n c) R:=by
 obtain⟨M,f,a,l,g,m⟩:=h;refine⟨M,f,fun x j=>?_,a⟩;obtain⟨i,d⟩:=List.getElem?_of_mem j;have q:=(qP.1 d).1;have p:M.length=R.length:=by rw[<-gS,a]
 exact g i x (by omega) d
theorem bP.drew{w wr:World}{A:Option Addr}{n c k:Nat}{R:LvL}(h:bP w A n c R k wr):bP w A n c R k wr.drew:=by
 obtain⟨M,a,d,f,g,j⟩:=h;exact⟨M,j8.below a (Below.refl _ _).drew (qK _),d,f,fun i x l m=>j4.below (g i x l m) (Below.refl _ _).drew (qK _),j.drew⟩
theorem oi: (96:TypeId)≠40/\(3:TypeId)≠40:=by decide
theorem vJ.off{w:World}{base g i:Nat}{v u:Value}{R:LvL}{cs:Array Value}(h:vJ w base v R)(d:jY w g 40 cs):vJ (w.setCell ⟨g,i,none⟩ u) base v R:=by
 obtain⟨M,a,c,j⟩:=h;exact⟨M,yH a (vR a d oi.1) u,fun x f=>yH (c x f) (vR (c x f) d oi.2) u,j⟩
theorem bP.off{w wr:World}{A:Option Addr}{n c k g i:Nat}{R:LvL}{u:Value}{cs:Array Value}(h:bP w A n c R k wr)(f:jY wr g 40 cs)(q:w.heap.size<=g):bP w A n c R k (wr.setCell ⟨g,i,none⟩ u):=by
 obtain⟨M,a,m,o,d,p⟩:=h;exact⟨M,yH a (vR a f oi.1) u,m,o,fun i x j l=>yH (d i x j l) (vR (d i x j l) f oi.2) u,p.setCell q u⟩
def fB(w:World)(n c:Int)(d:Nat)(R:LvL)(e:Ending)(w':World):Prop:=∃A cp,e = .returned (jr n c d (.slice A R.length cp))/\vJ w' w.heap.size (.slice A R.length cp) R/\Below w.heap.size w w'
theorem mJ{w:World}{g:Nat}{t:TypeId}{a b c d:Value}(h:jY w g t #[a,b,c,d]):w.cell? ⟨g,0,none⟩=some a/\w.cell? ⟨g,1,none⟩=some b/\w.cell? ⟨g,2,none⟩=some c/\w.cell? ⟨g,3,none⟩=some d:=⟨h.cell 0,h.cell 1,h.cell 2,h.cell 3⟩
theorem Cl{w:World}{g:Nat}{t:TypeId}{cs:Array Value}(h:jY w g t cs):w.frozen? ⟨g,0,none⟩=false/\w.frozen? ⟨g,1,none⟩=false/\w.frozen? ⟨g,2,none⟩=false/\w.frozen? ⟨g,3,none⟩=false:=⟨h.frozen 0,h.frozen 1,h.frozen 2,h.frozen 3⟩
theorem Cm(n c:Int)(d:Nat)(A:Option Addr)(cp:Nat)(R:LvL)(w:World)(h:jn w (.slice A R.length cp) R)(hl:R.flatten.length<=100000)(hL:R.length<=100000):
  Calls prog 42 #[jr n c d (.slice A R.length cp)] w (fB w n c d R):=by
 obtain⟨X,ab,aa⟩:=h;have al:X.length=R.length:=by rw[<-aa,gS]
 obtain⟨o,C⟩:∃o,(w.alloc (.cells #[.int .i64 n,.int .i64 c,.int .u64 (d:Nat),.slice A R.length cp] 40)).alloc (.cells #[.int .i64 0,.int .i64 0,.int .u64 0,.slice none 0 0] 40)=o:=⟨_,rfl⟩
 have Z:Below w.heap.size w o:=by
  rw[<-C];exact((Below.refl w.heap.size w).alloc (qK _) _).alloc (by simp) _
 have f:jY o w.heap.size 40 #[.int .i64 n,.int .i64 c,.int .u64 (d:Nat),.slice A R.length cp]:=by
  rw[<-C];exact(jY.new w _ _).alloc _
 have G:jY o (w.heap.size+1) 40 #[.int .i64 0,.int .i64 0,.int .u64 0,.slice none 0 0]:=by
  have:=jY.new (w.alloc (.cells #[.int .i64 n,.int .i64 c,.int .u64 (d:Nat),.slice A R.length cp] 40)) 40 #[.int .i64 0,.int .i64 0,.int .u64 0,.slice none 0 0];rw[World.size_alloc,C]at this;exact this
 have ap:o.heap.size=w.heap.size+2:=by rw[<-C];simp
 unfold jr fB;have aq:=C;have j:=qKM _ X o (ab.below Z (qK _)) (by omega);have av:=qQ ab;have ax:=qQ aa;have ae:=qQ f;have ar:=qQ G;have T:=qQ Z;have aJ:=qQ ap;have au:=qQ (fun k x (s:R[k]? = some x)=>oS s);have HL:=qQ hl;obtain⟨k0,k1,k2,I⟩:=mJ f;unfold Jd at j;obtain⟨m,H⟩:∃m,m=R.length:=⟨_,rfl⟩
 have U:=qQ H;rw[al,<-H]at j;have HC:=qQ j;rw[<-H]at I ⊢;rw[<-H]at ae aq;have aw:Hid (m<=100000):=qQ (by omega);clear ab aa al Z f G hl hL C ap j H;go_enter func42,ntmps42;go_wp2_with fail;refine HC.out.mono ?_;rintro e J⟨a,c2,rfl,ao,N⟩;have f:jY J w.heap.size 40 #[.int .i64 n,.int .i64 c,.int .u64 (d:Nat),.slice A m cp]:=jY.below ae.out N;have G:jY J (w.heap.size+1) 40 #[.int .i64 0,.int .i64 0,.int .u64 0,.slice none 0 0]:=jY.below ar.out N;have ah:Below w.heap.size w J:=T.out.trans (N.mono T.out.size);have an:=j8.down ao (show w.heap.size<=o.heap.size from T.out.size);have aj:bP w a m c2 R 0 J:=⟨X,an,ax.out,fun i x _ s=>av.out.2 x (qM s),fun i x hi=>absurd hi (Nat.not_lt_zero _),ah⟩
 have P:=qQ (aj.off (i:=3) (u:=.slice a m c2) f (qK _));have K:=qQ (f.put 3 (.slice a m c2));have Y:=qQ (G.qo (p:=⟨w.heap.size,3,none⟩) (by simp) (.slice a m c2));have q3:=f.cell 3;have f3:=f.frozen 3;clear ao N f G ah an aj k0 k1 k2 I aq HC;obtain⟨w3,aG⟩:∃w3,J.setCell ⟨w.heap.size,3,none⟩ (.slice a m c2)=w3:=⟨_,rfl⟩
 rw[aG]at P K Y;have z3:w3.cell? ⟨w.heap.size,3,none⟩=some (.slice a m c2):=K.out.cell 3;go_wp2;go_loopg [12] m (fun g i wr=>∃(k:Nat),k+g=m/\i = .int .i64 k/\bP w a m c2 R k wr/\jY wr w.heap.size 40 #[.int .i64 n,.int .i64 c,.int .u64 (d:Nat),.slice a m c2]/\jY wr (w.heap.size+1) 40 #[.int .i64 0,.int .i64 0,.int .u64 0,.slice none 0 0])
 case atStart=>exact⟨0,by omega,rfl,P.out,K.out,Y.out⟩
 case round =>
  obtain⟨k,aL,rfl,hf,p1,O⟩:=hrel;have t:=qQ hf;have V:=qQ p1;have z:=qQ O;obtain⟨k0,k1,k2,I⟩:=mJ p1;obtain⟨r0,r1,r2,r3⟩:=mJ O;obtain⟨t0,t1,t2,t3⟩:=Cl O;clear hf p1 O P K Y z3;cases gk with
  | zero =>
    obtain rfl:k=m:=(by omega);have s1:¬(k:Int)<(k:Int):=(by omega);have ag:=qQ (show vJ (gw wr (w.heap.size+1) (.int .i64 n) (.int .i64 c) (.int .u64 (d:Nat)) (.slice a k c2)) w.heap.size (.slice a k c2) R from(((((t.out.done (by rw[<-U.out];exact qK _)).off z.out).off (z.out.put 0 (.int .i64 n))).off ((z.out.put 0 (.int .i64 n)).put 1 (.int .i64 c))).off (((z.out.put 0 (.int .i64 n)).put 1 (.int .i64 c)).put 2 (.int .u64 (d:Nat)))))
    have af:=qQ (show Below w.heap.size w (gw wr (w.heap.size+1) (.int .i64 n) (.int .i64 c) (.int .u64 (d:Nat)) (.slice a k c2)) from by
     obtain⟨M,-,-,-,-,hb⟩:=t.out;exact ry hb (Nat.le_succ _) _ _ _ _)
    unfold gw at ag af;go_wp2;exact bodyPost_ret (v:=jr n c d (.slice a k c2)) (by simp[results,jr,Tryz.results42,go_sem,r0,r1,r2,r3]) rfl ⟨a,c2,rfl,ag.out,af.out⟩
  | succ gi =>
    have aE:k<m:=(by omega);have s1:(k:Int)<(m:Int):=(by omega);obtain⟨g,u,x,rfl,aK,ak,s,ai,aD,ac⟩:=t.out.at_ U.out aE;obtain⟨A5,o5,c5,rfl,-,-⟩:=ac.form;have aI:=au.out k x s;have aH:=HL.out;have j:=qQ (JZ _ x wr.drew (ac.below (Below.refl _ _).drew (qK _)) (by omega));have HX:=qQ s
    have am:w.heap.size≠g:=by
     obtain⟨M,q,-⟩:=t.out;exact fun e=>vR q V.out oi.1 (by rw[e];rfl)
    have aF:w.heap.size+1≠g:=by
     obtain⟨M,q,-⟩:=t.out;exact fun e=>vR q z.out oi.1 (by rw[e];rfl)
    have aM:=aw.out;have ad:w.heap.size<wr.heap.size:=V.out.lt;have aN:w.heap.size<wr.drew.heap.size/\wr.drew.cell? ⟨w.heap.size,3,none⟩=some (.slice (some ⟨g,0,none⟩) m c2):=⟨ad,I⟩
    have aB:=qQ (fun(W:World) (i:Nat) (y v:Value) (h:w.heap.size<W.heap.size/\W.cell? ⟨w.heap.size,3,none⟩=some v)=>(show w.heap.size<(W.setCell ⟨g,i,none⟩ y).heap.size/\(W.setCell ⟨g,i,none⟩ y).cell? ⟨w.heap.size,3,none⟩=some v from⟨by simpa[World.setCell] using h.1,(World.cell?_of_block (w:=W) (Below.heap_setCell _ _ _ _ (by simpa using am))).trans h.2⟩));unfold bI at j;clear s aI aH ac r0 r1 r2 r3 t0 t1 t2 t3 k0 k1 k2;obtain⟨y,hy⟩:∃y,y=x.length:=⟨_,rfl⟩
    rw[<-hy]at j ai;have HY:=qQ hy;clear hy;go_wp2_with fail
    go_region_held3 (fun W=>w.heap.size<W.heap.size/\W.cell? ⟨w.heap.size,3,none⟩=some (.slice (some ⟨g,0,none⟩) m c2))
     (first | (with_reducible assumption) | (with_reducible exact aB.out _ _ _ _ (by with_reducible assumption)) | fail)
     (first
     | (go_at_call 105;((with_reducible refine j.out.mono ?_);rintro e w9⟨A9,c9,rfl,h9,l⟩;have aC:w.heap.size<w9.heap.size/\w9.cell? ⟨w.heap.size,3,none⟩=some (.slice (some ⟨g,0,none⟩) m c2):=⟨qR ad l.size,(l.cell (p:=⟨w.heap.size,3,none⟩) ad).trans I⟩;have d3:=(l.cell (p:=⟨g,k,none⟩) ak).trans ai;have d4:w9.frozen? ⟨g,k,none⟩=false:=by rw[World.frozen?_of_block (w:=wr.drew) (l.block _ ak)];exact aD))
     | fail)
    have ay:=qQ (t.out.drew.next U.out HX.out h9 l);have az:=qQ ((jY.below V.out.drew l).qo (p:=⟨g,k,none⟩) am (.slice A9 y c9));have aA:=qQ ((jY.below z.out.drew l).qo (p:=⟨g,k,none⟩) aF (.slice A9 y c9));clear h9 l aC d3 d4;go_wp2;go_roundg gi
    case measure=>omega
    case rel=>exact⟨k+1,by omega,by go_num,ay.out,az.out,aA.out⟩
end
section
open Go.RowKit Go.Shelf
structure rr(w:World)(base gx gd r:Nat)(S:IxS)(Fm Gr Gk:List Nat)(gm:Nat)(A:Option Addr)(cp:Nat)(B:Option Addr)(c2:Nat)(ps:List Nat):Prop where
 qa:jY w gx 89 #[ptr gx,ptr gd,.int .i64 S.m.next,.int .i64 S.m.check,.int .u64 (S.m.seed:Nat),.slice A S.m.lv.length cp,.slice B ps.length c2,.float .f64 r,mtp gm]
 lv:uB w (.slice A S.m.lv.length cp) S.m.lv Gk
 row:vm w base (.slice B ps.length c2) ps
 xK:uC w gd ps S.T Gk
 mem:vZ w base gm Fm S.mem
 own:gx∈Gr
 xI:∀b∈jF (.slice B ps.length c2),b∈Gr
 low:base<=gx
section
variable {w w':World}{base gx gd r gm cp c2:Nat}{S:IxS}{Fm Gr Gk ps:List Nat}{A B:Option Addr}
theorem IxM.cells(h:IxM w base gx gd r S Fm Gr Gk):∃gm A cp B c2 ps,rr w base gx gd r S Fm Gr Gk gm A cp B c2 ps:=by
 obtain⟨gm,l,m,ps,d,a,c,f,g,i,j,k⟩:=h;obtain⟨A,off,cp,rfl,-,-⟩:=a.now.form;obtain⟨B,c2,rfl,-,-,-⟩:=c.form;exact⟨gm,A,cp,B,c2,ps,d,a,c,f,g,i,j,k⟩
theorem rr.cs(h:rr w base gx gd r S Fm Gr Gk gm A cp B c2 ps):w.cell? ⟨gx,0,none⟩=some (ptr gx)/\w.cell? ⟨gx,1,none⟩=some (ptr gd)/\w.cell? ⟨gx,2,none⟩=some (.int .i64 S.m.next)/\w.cell? ⟨gx,3,none⟩=some (.int .i64 S.m.check) /\
  w.cell? ⟨gx,4,none⟩=some (.int .u64 (S.m.seed:Nat))/\w.cell? ⟨gx,5,none⟩=some (.slice A S.m.lv.length cp)/\w.cell? ⟨gx,6,none⟩=some (.slice B ps.length c2)/\w.cell? ⟨gx,7,none⟩=some (.float .f64 r)/\w.cell? ⟨gx,8,none⟩=some (mtp gm) :=
 ⟨h.qa.cell 0,h.qa.cell 1,h.qa.cell 2,h.qa.cell 3,h.qa.cell 4,h.qa.cell 5,h.qa.cell 6,h.qa.cell 7,h.qa.cell 8⟩
end
section
variable {At:jL}(api:jM At){w0 w w':World}{gd gx r:Nat}{S:IxS}{D:jK}{E:List Nat}
theorem qKN(h:jz At w0 gd gx r S D E w):Calls prog 22 #[ptr gx] w fun e w'=>e = .returned (.int .i64 (S.mem.length:Nat))/\w=w':=by
 obtain⟨Fm,Gr,Gk,-,c,-⟩:=h;obtain⟨gm,A,cp,B,c2,ps,a⟩:=c.cells;obtain⟨c0,-,-,-,-,-,-,-,g⟩:=a.cs;have f:=qQ (nY c0);have d:=qQ (Zg a.mem);clear c a;generalize S.mem.length=n at*;go_enter func22,ntmps22;go_wp2_with fail;refine f.out.mono ?_;rintro e w'⟨rfl,rfl⟩;go_wp2_with fail;refine d.out.mono ?_;rintro e w'⟨rfl,rfl⟩;go_wp2;go_ret;exact⟨rfl,rfl⟩
include api
theorem Cn(h:jz At w0 gd gx r S D E w)(ok:jl D S):Calls prog 11 #[ptr gx] w (fB w S.m.next S.m.check S.m.seed S.m.lv):=by
 have d:=(Below.refl w.heap.size w).alloc (qK _) (.cells #[.int .i64 0,.int .i64 0,.int .u64 0,.slice none 0 0] 40);have B:=jY.new w 40 #[.int .i64 0,.int .i64 0,.int .u64 0,.slice none 0 0];have o:(w.alloc (.cells #[.int .i64 0,.int .i64 0,.int .u64 0,.slice none 0 0] 40)).heap.size=w.heap.size+1:=by simp
 obtain⟨p,O⟩:∃p,w.alloc (.cells #[.int .i64 0,.int .i64 0,.int .u64 0,.slice none 0 0] 40)=p:=⟨_,rfl⟩
 rw[O]at d B o;obtain⟨Fm,Gr,Gk,-,H,-⟩:=h.below api d;obtain⟨gm,A,cp,X,c2,ps,j⟩:=H.cells;obtain⟨c0,-,Z,d1,d2,K,-,-,-⟩:=j.cs;have N:=qQ (nY c0);have n:=ok.may.2.2.2.2.1;have k:=Cm S.m.next S.m.check S.m.seed A cp S.m.lv p j.lv.now (by have:=n.2.1;omega) (by have:=n.1;omega);have u:=qQ d;have J:=qQ B;have G:=qQ o;clear h ok H j d B n o;unfold fB jr at k;unfold fB;have z:=qQ k;clear k;generalize S.m.next=q at*;generalize S.m.check=s at*;generalize S.m.seed=t at*;generalize S.m.lv=R at*;obtain⟨m,l⟩:∃m,m=R.length:=⟨_,rfl⟩
 have Y:=qQ l;rw[<-l]at z K ⊢;clear l;go_enter func11,ntmps11;go_wp2_with fail;refine N.out.mono ?_;rintro e w'⟨rfl,rfl⟩;go_wp2_with fail;refine z.out.mono ?_;rintro e w2⟨a,c,rfl,I,i⟩;have f:=jY.below J.out i;obtain⟨P,T,U,V⟩:=mJ f;obtain⟨f0,f1,f2,f3⟩:=Cl f;have C:=qQ ((I.manSet (g:=w.heap.size) (by rw[G.out];omega) (.int .i64 q) (.int .i64 s) (.int .u64 (t:Nat)) (.slice a m c)).down (base':=w.heap.size) (by rw[G.out];omega));have y:=qQ (ry (u.out.trans (i.mono u.out.size)) (qK _) (.int .i64 q) (.int .i64 s) (.int .u64 (t:Nat)) (.slice a m c));unfold gw at C y;clear I i f;go_wp2;exact bodyPost_ret (v:=jr q s t (.slice a m c)) (by simp[results,jr,Tryz.results11,go_sem,P,T,U,V]) rfl ⟨a,c,rfl,C.out,y.out⟩
def cS(S:IxS)(x:jJ):IxS:=if mayE x=true then { S with mem:=jt S.mem x } else S
def uR(x:jJ):Nat:=if mayE x=true then 0 else 2
omit api in
theorem jz.zF(api:jM At){gm:Nat}{A B:Option Addr}{cp c2:Nat}{ps Fm Gr Gk i:List Nat}{l:List jJ}(o:DS At w0 gd D (Fm++(Gr++(Gk++E))) w)(d:rr w w0.heap.size gx gd r S Fm Gr Gk gm A cp B c2 ps)
  (f:∀b∈Fm,b ∉ Gr/\b ∉ Gk/\b ∉ E) (u:∀b∈Gr,b ∉ Gk/\b ∉ E) (p:∀b∈Gk,b ∉ E) (s:∀b∈Fm++Gr,w0.heap.size<=b)
  (y:vZ w' w0.heap.size gm i l) (hF:∀x∈i,x∈Fm∨w.heap.size<=x) (z:jG Fm w w'):jz At w0 gd gx r { S with mem:=l } D E w'/\jV E w w':=by
 have n:=o.lt
 have C:∀b∈Gr++(Gk++E),b<w.heap.size/\b ∉ Fm:=fun b a=>⟨n b (qJ _ a),fun g=>by
  rcases qB.1 a with k|k
  ·exact(f b g).1 k
  ·rcases qB.1 k with k|k
   ·exact(f b g).2.1 k
   ·exact(f b g).2.2 k⟩
 have j:jV (Gr++(Gk++E)) w w':=jV.xB z C;have hF2:∀x∈i,w0.heap.size<=x/\x<w'.heap.size:=by obtain⟨v,o,J,f,u,p,s,K⟩:=y;exact p
 have t:∀b∈i,∀G:List Nat,(∀c∈G,c<w.heap.size)->(b∈Fm->b ∉ G)->b ∉ G:=fun b a G H I g=>by
  rcases hF b a with k|k
  ·exact I k g
  ·have:=H b g;omega
 refine⟨⟨i,Gr,Gk,o.xJ api z (fun b a=>⟨qG _ a,s b (qG _ a)⟩) (fun b a=>?_),⟨gm,_,_,ps,j.qa d.qa (qG _ d.own),d.lv.step (j.less (fun b a=>qJ _ (qG _ a))),j.xM d.row (fun b a=>qG _ (d.xI b a)),d.xK.keep j (fun b a=>qJ _ (qG _ a)),y,d.own,d.xI,d.low⟩,fun b a=>?_,u,p,fun b a=>?_⟩,j.less (fun b a=>qJ _ (qJ _ a))⟩
 ·rcases qB.1 a with k|k
  ·rcases hF b k with q|q
   ·exact qX (qG _ q)
   ·exact qY ⟨q,(hF2 b k).2⟩
  ·exact qX (qJ _ k)
 ·exact⟨t b a Gr (fun c m=>n c (qJ _ (qG _ m))) (fun k=>(f b k).1),t b a Gk (fun c m=>n c (qJ _ (qJ _ (qG _ m)))) (fun k=>(f b k).2.1),t b a E (fun c m=>n c (qJ _ (qJ _ (qJ _ m)))) (fun k=>(f b k).2.2)⟩
 ·rcases qB.1 a with k|k
  ·exact(hF2 b k).1
  ·exact s b (qJ _ k)
theorem qKO(h:jz At w0 gd gx r S D E w){x:jJ}(O:kI x)(hn:S.mem.length<=100000):Calls prog 18 #[ptr gx,kS x] w (nV At w0 gd gx r (err (uR x)) (cS S x) D E w):=by
 have d:=(Below.refl w.heap.size w).alloc (qK _) (.cells #[.int .u64 (x.h:Nat),.int .i64 x.v,.int .i64 x.p] 63);have g:=jY.new w 63 #[.int .u64 (x.h:Nat),.int .i64 x.v,.int .i64 x.p];have J:=qQ h.lt;have C:=h.more api d (B:=[w.heap.size]) (fun b f=>by rw[qH.1 f];exact⟨qK _,g.lt⟩);obtain⟨n,al⟩:∃n,w.alloc (.cells #[.int .u64 (x.h:Nat),.int .i64 x.v,.int .i64 x.p] 63)=n:=⟨_,rfl⟩
 rw[al]at d g C;obtain⟨a,aj⟩:∃a,w.heap.size=a:=⟨_,rfl⟩
 rw[aj]at g C
 have ai:n.cell? ⟨gx,0,none⟩=some (ptr gx):=by
  obtain⟨Fm,Gr,Gk,-,N,-⟩:=C;obtain⟨gm,A,cp,o,c2,ps,j⟩:=N.cells;exact j.cs.1
 have ad:=qQ (nY ai);have Y:=qQ (UY x n O);have H1:=qQ C;have af:=qQ g;have I:=qQ d;have HX:=qQ O;obtain⟨P,T,U⟩:n.cell? ⟨a,0,none⟩=some (.int .u64 (x.h:Nat))/\n.cell? ⟨a,1,none⟩=some (.int .i64 x.v)/\n.cell? ⟨a,2,none⟩=some (.int .i64 x.p):=⟨g.cell 0,g.cell 1,g.cell 2⟩
 have V:=qQ fun(W:World) (F:List Nat) (gm:Nat) (k:vZ W w0.heap.size gm F S.mem)=>S1 k O hn
 clear h C d g O;cases f:mayE x with
 | false =>
   have y:cS S x=S:=(by unfold cS;rw[f];rfl);have z:uR x=2:=(by unfold uR;rw[f];rfl);rw[y,z];rw[oQ f]at Y;clear y z f V;obtain⟨q,u,t⟩:=x;go_enter func18,ntmps18;go_wp2_with fail;refine ad.out.mono ?_;rintro e w'⟨rfl,rfl⟩;go_wp2_with fail;refine Y.out.mono ?_;rintro e c⟨rfl,i⟩;have H:=qQ (H1.out.below api i);have X:=qQ ((jV.qn I.out J.out).trans (jV.qn i (fun b d=>qR (J.out b d) I.out.size)));clear i;go_wp2;go_ret;exact⟨rfl,H.out.less (fun b d=>qJ _ d),X.out⟩
 | true =>
   have y:cS S x={ S with mem:=jt S.mem x }:=(by unfold cS;rw[f];rfl);have z:uR x=0:=(by unfold uR;rw[f];rfl);rw[y,z];have ak:=tU f
   have ao:((kP x).toList==[])=false:=by
    rw[qv];intro e;have hz:(kP x).toList.length=0:=(by rw[e];rfl);rw[Lib.toList_data,Array.length_toList]at hz;have:(kP x).size=0:=hz;omega
   clear y z f ak;generalize kP x=s at*;obtain⟨q,u,t⟩:=x;go_enter func18,ntmps18;go_wp2_with fail;refine ad.out.mono ?_;rintro e w'⟨rfl,rfl⟩;go_wp2_with fail;refine Y.out.mono ?_;rintro e c⟨rfl,i⟩;have H:=H1.out.below api i;have X:=qQ ((jV.qn I.out J.out).trans (jV.qn i (fun b d=>qR (J.out b d) I.out.size)));have o:=jY.below af.out i;obtain⟨Fm,Gr,Gk,d1,N,K,d4,d5,d6⟩:=H.drew api;obtain⟨gm,A,cp,Bq,c2,ps,j⟩:=N.cells;have Z:c.drew.cell? ⟨gx,8,none⟩=some (mtp gm):=j.cs.2.2.2.2.2.2.2.2;obtain⟨P,T,U⟩:c.drew.cell? ⟨a,0,none⟩=some (.int .u64 (q:Nat))/\c.drew.cell? ⟨a,1,none⟩=some (.int .i64 u)/\c.drew.cell? ⟨a,2,none⟩=some (.int .i64 t):=⟨o.cell 0,o.cell 1,o.cell 2⟩
   have am:c.drew.cell? ⟨gx,8,none⟩=some (mtp gm)/\c.drew.cell? ⟨a,0,none⟩=some (.int .u64 (q:Nat))/\c.drew.cell? ⟨a,1,none⟩=some (.int .i64 u)/\c.drew.cell? ⟨a,2,none⟩=some (.int .i64 t):=⟨Z,P,T,U⟩
   have ae:=qQ (V.out c.drew Fm gm j.mem);have ab:gx ∉ Fm:=fun f=>(K gx f).1 j.own
   have m:a ∉ Fm/\a<c.drew.heap.size:=⟨fun f=>(K a f).2.2 (qG _ qD),o.lt⟩
   have ac:gx<c.drew.heap.size:=j.qa.lt;have ah:=qQ (fun(W:World) (k:jG Fm c.drew W)=>(show W.cell? ⟨gx,8,none⟩=some (mtp gm)/\W.cell? ⟨a,0,none⟩=some (.int .u64 (q:Nat))/\W.cell? ⟨a,1,none⟩=some (.int .i64 u)/\W.cell? ⟨a,2,none⟩=some (.int .i64 t) from⟨(k.cell (p:=⟨gx,8,none⟩) ac ab).trans Z,(k.cell (p:=⟨a,0,none⟩) m.2 m.1).trans P,(k.cell (p:=⟨a,1,none⟩) m.2 m.1).trans T,(k.cell (p:=⟨a,2,none⟩) m.2 m.1).trans U⟩));have ag:=qQ (fun(W:World) (G:List Nat) (l:List jJ) (k:vZ W w0.heap.size gm G l) (hF:∀x∈G,x∈Fm∨c.drew.heap.size<=x) (ht:jG Fm c.drew W)=>jz.zF api d1 j K d4 d5 d6 k hF ht);clear H d1 N K d4 d5 d6 j o Z P T U i ab m ac V;generalize jt S.mem ⟨q,u,t⟩=R at*;go_wp2_with fail
   go_region_held3 (fun W=>W.cell? ⟨gx,8,none⟩=some (mtp gm)/\W.cell? ⟨a,0,none⟩=some (.int .u64 (q:Nat))/\W.cell? ⟨a,1,none⟩=some (.int .i64 u)/\W.cell? ⟨a,2,none⟩=some (.int .i64 t))
    (first | (with_reducible assumption) | fail)
    (first
    | (go_at_call 71;((with_reducible refine ae.out.mono ?_);rintro e w9⟨G,rfl,h9,k9,t9⟩;have an:=ah.out w9 t9;have aa:=qQ (ag.out w9 G _ h9 k9 t9)))
    | fail)
   go_wp2;go_ret;exact⟨rfl,aa.out.1.less (fun b d=>qJ _ d),X.out.drew.trans (aa.out.2.less (fun b d=>qJ _ d))⟩
end
end
section
open Go.RowKit
section
variable {At:jL}(api:jM At)(nap:jm){w0 w:World}{gd:Nat}{D:jK}{E:List Nat}
include api
theorem qKP(h:DS At w0 gd D E w)(ok:WfP D)(n:Int)(c:D.down=true):Calls prog 155 #[ptr gd,.int .i64 n] w fun e w'=>e = .returned (.tuple #[.pointer none,err 61])/\w=w':=by
 have a:=tR api h ok;rw[qV c]at a;have d:=qQ a;clear a h ok c;go_enter func155,ntmps155;go_wp2_with fail;refine d.out.mono ?_;rintro e w'⟨rfl,rfl⟩;go_wp2;go_ret2;exact⟨rfl,rfl⟩
include nap
theorem Cp(h:DS At w0 gd D E w)(ok:WfP D)(I:D.count<=1000000000)(J:D.cap<=1048576)(n:Int)(z:(Lit.int .i64 n).wf=true)(v:D.down=false)(d:(rdW D (ptT n)).2.1≠0∨vB (rdW D (ptT n)).1=false):
  Calls prog 155 #[ptr gd,.int .i64 n] w (yX At w0 gd (.tuple #[.pointer none,err 90]) (rdW D (ptT n)).2.2 E w):=by
 have t:=tR api h ok;rw[qZ (by rw[v];decide)]at t;have p:=qQ t;have K:=sb ok (ptT n);have l:=qQ fun W=>nap.table n W z
 rw[show nmS 116 n=ptT n from rfl]at l;have m:=qQ fun W (O:Below w.heap.size w W)=>Z6 api (h.below api O) ok (by omega) (ptT n) (oC n)
 have k:=qQ fun W=>U2 (rdW D (ptT n)).1 W (by omega)
 have G:=qQ h.lt;by_cases q:(rdW D (ptT n)).2.1=0
 ·have u:vB (rdW D (ptT n)).1=false:=by rcases d with d | d;exact absurd q d;exact d
  unfold fo at k;rw[(ZE u).2,(ZE u).1]at k;rw[q]at m;generalize (rdW D (ptT n)).2.2=N at*;generalize (rdW D (ptT n)).1=s at*;generalize ptT n=P at*;clear h ok I J z v q d t K u;go_enter func155,ntmps155;go_wp2_with fail;refine p.out.mono ?_;rintro e w'⟨rfl,rfl⟩;go_wp2_with fail;refine(l.out _).mono ?_;rintro e T⟨rfl,a⟩;have i:=qQ (jV.qn a G.out);have g:=qQ (m.out _ a);clear a m l p;go_wp2_with fail;refine g.out.mono ?_;rintro e U⟨rfl,j,o⟩;have f:=qQ (qU j (i.out.trans o));clear j o g i;go_wp2_with fail;refine(k.out _).mono ?_;rintro e X⟨A,c,rfl,R,H⟩;have C:=qQ H;clear R H k;go_wp2;go_ret2;exact⟨rfl,f.out.1.below api C.out,f.out.2.trans (jV.qn C.out f.out.1.lt)⟩
 ·have V:(((rdW D (ptT n)).2.1:Int) != 0)=true:=by simp;omega
  generalize (rdW D (ptT n)).2.2=N at*;generalize (rdW D (ptT n)).2.1=y at*;generalize (rdW D (ptT n)).1=s at*;generalize ptT n=P at*;clear h ok I J z v q d t K k;go_enter func155,ntmps155;go_wp2_with fail;refine p.out.mono ?_;rintro e w'⟨rfl,rfl⟩;go_wp2_with fail;refine(l.out _).mono ?_;rintro e T⟨rfl,a⟩;have i:=qQ (jV.qn a G.out);have g:=qQ (m.out _ a);clear a m l p;go_wp2_with fail;refine g.out.mono ?_;rintro e U⟨rfl,j,o⟩;have f:=qQ (qU j (i.out.trans o));clear j o g i;go_wp2;go_ret2;exact⟨rfl,f.out.1,f.out.2⟩
end
section
variable {At:jL}(api:jM At)(nap:jm){w0 w:World}{gd:Nat}{D:jK}{E:List Nat}
def re(At:jL)(w0:World)(gd:Nat)(n:Int)(D:jK)(E:List Nat)(w:World)(e:Ending)(w':World):Prop :=
 (jo D n=0/\rp At w0 gd n (tgL (rdW D (ptT n)).1) (ldF (rdW D (ptT n)).2.2 n (tgL (rdW D (ptT n)).1)) (ye D n) E w e w') ∨
 (jo D n≠0/\e = .returned (.tuple #[.pointer none,err (jo D n)])/\DS At w0 gd (ye D n) E w'/\jV E w w')
include api nap
theorem Cr(h:DS At w0 gd D E w)(ok:WfP D)(j:D.count<=1000000000)(n:Int)(l:(Lit.int .i64 n).wf=true)(m:jo D n=0->(tgL (rdW D (ptT n)).1).length<=10000):
  Calls prog 155 #[ptr gd,.int .i64 n] w (re At w0 gd n D E w):=by
 have k:=ok.cap;unfold re;cases f:D.down with
 | true =>
   have a:jo D n=61:=(by unfold jo;rw[qV f]);have d:ye D n=D:=(by unfold ye;rw[qV f]);refine(qKP api h ok n f).mono ?_;rintro e w'⟨rfl,rfl⟩;rw[a,d];exact qY ⟨by decide,rfl,h,jV.refl _ _⟩
 | false =>
   have i:¬D.down=true:=(by rw[f];decide);by_cases c:(rdW D (ptT n)).2.1=0
   ·cases g:vB (rdW D (ptT n)).1 with
    | true =>
      have a:jo D n=0:=by
       unfold jo;rw[qZ i,qZ (by simp[c]),qZ (by rw[g];decide)]
      have d:ye D n=(rdW (rdW D (ptT n)).2.2 (ptB n)).2.2:=by
       unfold ye;rw[qZ i,qZ (by simp[c]),qZ (by rw[g];decide)]
      have o:=m a;rw[a,d];exact(qKH api nap h ok j k n l f c g o).mono fun e w' h=>qX ⟨rfl,h⟩
    | false =>
      have a:jo D n=90:=by
       unfold jo;rw[qZ i,qZ (by simp[c]),qV g]
      have d:ye D n=(rdW D (ptT n)).2.2:=by
       unfold ye;rw[qZ i,qZ (by simp[c]),qV g]
      rw[a,d];exact(Cp api nap h ok j k n l f (qY g)).mono fun e w' h=>qY ⟨by decide,h.1,h.2.1,h.2.2⟩
   ·have a:jo D n=90:=by
     unfold jo;rw[qZ i,qV c]
    have d:ye D n=(rdW D (ptT n)).2.2:=by
     unfold ye;rw[qZ i,qV c]
    rw[a,d];exact(Cp api nap h ok j k n l f (qX c)).mono fun e w' h=>qY ⟨by decide,h.1,h.2.1,h.2.2⟩
end
theorem Jf{D:jK}(h:WfP D)(n:Int):WfP (ye D n):=by
 unfold ye;split
 ·exact h
 ·split
  ·exact pM h _
  ·split
   ·exact pM h _
   ·exact pM (pM h _) _
end
section
open Go.RowKit Go.Shelf
def bR(w:World)(base b:Nat)(L Q:List jJ)(M:j5)(F:List Nat):Prop :=
 ∃(a c d:Value) (G:List Nat),jY w b 42 #[a,c,.int .i64 M.next,.int .i64 M.check,.int .u64 (M.seed:Nat),d]/\jE w base a L/\jE w base c Q/\uB w d M.lv G /\
  b ∉ G/\b∈F/\(∀k∈jF a,k∈F)/\(∀k∈jF c,k∈F)/\(∀k∈G,k∈F)/\∀k∈F,base<=k/\k<w.heap.size
theorem Cs: (63:TypeId)≠42:=by decide
section
variable {w w':World}{base b:Nat}{L Q:List jJ}{M:j5}{F:List Nat}
theorem bR.keep(h:bR w base b L Q M F)(k:jV F w w'):bR w' base b L Q M F:=by
 obtain⟨p,s,q,G,j,l,m,n,o,c,d,f,g,a⟩:=h;exact⟨p,s,q,G,k.qa j c,k.row l d,k.row m f,n.step (k.less g),o,c,d,f,g,fun x i=>⟨(a x i).1,qR (a x i).2 k.size⟩⟩
theorem bR.below(h:bR w base b L Q M F)(c:Below w.heap.size w w'):bR w' base b L Q M F:=by
 have d:∀x∈F,x<w.heap.size:=by
  obtain⟨q,t,s,G,g,i,j,k,l,m,n,o,p,a⟩:=h;exact fun x f=>(a x f).2
 exact h.keep (jV.qn c d)
theorem qKR(h:bR w base b L Q M F)(j:L.length<=400000)(k:Nat)(a c:Int):Calls prog 74 #[ptr b,.int .u64 (k:Nat),.int .i64 a,.int .i64 c] w (yd w (kZ L k (max a 0) (kt c))):=by
 obtain⟨U,X,V,G,i,f,t,u,v,y,z,C,H,s⟩:=h;obtain⟨A,cp,rfl,-⟩:=yw f;have c0:=i.cell 0;have O:(if (1073741824:Int)<c then 1073741824 else c)=kt c:=by unfold kt;split<;>omega
 have N:(if a<(0:Int) then 0 else a)=max a 0:=by split<;>omega
 have d:=qQ (Sd (.slice A L.length cp) L k (max a 0) (kt c) w (jE.xQ f) j);unfold yd at d;have P:min c 1073741824=kt c:=rfl;clear i f t u v y z C H s;obtain⟨n,l⟩:∃n,n=L.length:=⟨_,rfl⟩
 rw[<-l]at c0 d;clear l j;generalize kZ L k (max a 0) (kt c)=R at*;generalize K:kt c=J at*;generalize T:max a 0=I at*;go_enter func74,ntmps74;go_wp2_with fail;refine d.out.mono ?_;rintro e w'⟨o,c2,rfl,m,g⟩;have q:=qQ m;have p:=qQ g;clear m g;go_wp2;go_ret;exact⟨o,c2,rfl,q.out,p.out⟩
end
def nU(base b:Nat)(v:Value)(L Q:List jJ)(M:j5)(F:List Nat)(w:World)(e:Ending)(w':World):Prop :=
 ∃a,e = .returned v/\bR w' base b L Q M a/\jG [b] w w'/\∀y∈a,y∈F∨(w.heap.size<=y/\y<w'.heap.size)
section
variable {w w' W:World}{base b:Nat}{L Q:List jJ}{M:j5}{F:List Nat}
theorem nU.same{v:Value}(h:bR w base b L Q M F)(a:Below w.heap.size w w'):nU base b v L Q M F w (.returned v) w' :=
 ⟨F,rfl,h.below a,(jG.qn a).more (fun x c=>by cases c),fun y d=>qX d⟩
structure RxC(w:World)(base b:Nat)(L Q:List jJ)(M:j5)(F:List Nat)(vL vQ vM:Value)(G:List Nat)(W:World):Prop where
 qa:jY W b 42 #[vL,vQ,.int .i64 M.next,.int .i64 M.check,.int .u64 (M.seed:Nat),vM]
 jX:jE W base vL L
 zw:jE W base vQ Q
 lv:uB W vM M.lv G
 xG:Below w.heap.size w W
theorem bR.parts(h:bR w base b L Q M F):∃c d g G,(b ∉ G/\b∈F/\(∀k∈jF c,k∈F)/\(∀k∈jF d,k∈F)/\(∀k∈G,k∈F)/\∀k∈F,base<=k/\k<w.heap.size)/\∀W,Below w.heap.size w W->RxC w base b L Q M F c d g G W:=by
 obtain⟨c,d,g,G,i,j,l,m,f⟩:=h;exact⟨c,d,g,G,f,fun W a=>⟨i.below a,jE.below j a (qK _),jE.below l a (qK _),m.step (jV.qn a (fun x n=>(f.2.2.2.2.2 x (f.2.2.2.2.1 x n)).2)),a⟩⟩
end
def dX(L:List jJ)(x:jJ):List jJ:=if mayE x=true then jt L x else L
section
variable {w w':World}{base b:Nat}{L Q:List jJ}{M:j5}{F:List Nat}
theorem qKS{z H C f g:Value}{G:List Nat}{I J:List jJ}{s i d:World}(h:RxC w base b L Q M F z H C G s)(c:b ∉ G/\b∈F/\(∀k∈jF z,k∈F)/\(∀k∈jF H,k∈F)/\(∀k∈G,k∈F)/\∀k∈F,base<=k/\k<w.heap.size)
  (T:jE i base f I) (n:Below s.heap.size s i) (P:∀k∈jF f,k∈jF z∨(s.heap.size<=k/\k<i.heap.size)) (o:jE d base g J) (j:Below i.heap.size i d) (R:∀k∈jF g,k∈jF H∨(i.heap.size<=k/\k<d.heap.size)) (U:base<=w.heap.size) (e:Value):
  nU base b e I J M F w (.returned e) ((d.setCell ⟨b,0,none⟩ f).setCell ⟨b,1,none⟩ g):=by
 have V:b<w.heap.size:=(c.2.2.2.2.2 b c.2.1).2;have Y:=h.xG.size;have Z:=n.size;have s6:=j.size;have t:=(h.qa.below n).below j;have u:jG [b] d ((d.setCell ⟨b,0,none⟩ f).setCell ⟨b,1,none⟩ g):=((jG.refl [b] d).setCell (p:=⟨b,0,none⟩) (qX (qH.2 rfl)) _).setCell (p:=⟨b,1,none⟩) (qX (qH.2 rfl)) _;have X:=u.size;have m:=jE.below T j (qK _)
 have v:=jV.xB u (E:=G++(jF f++jF g)) (fun x a=>by
  rcases qB.1 a with q|q
  ·have:=c.2.2.2.2.2 x (c.2.2.2.2.1 x q);exact⟨by omega,fun l=>c.1 (by rw[<-qH.1 l];exact q)⟩
  ·rcases qB.1 q with q|q
   ·exact⟨(m.lt x (kG.1 q)).2,fun l=>vR m t Cs (by rw[<-qH.1 l];exact kG.1 q)⟩
   ·exact⟨(o.lt x (kG.1 q)).2,fun l=>vR o t Cs (by rw[<-qH.1 l];exact kG.1 q)⟩)
 have N:=bj h.xG (bj n j);have K:uB d C M.lv G:=h.lv.step (jV.qn (bj n j) (fun x a=>by have:=c.2.2.2.2.2 x (c.2.2.2.2.1 x a);omega));refine⟨jF f++(jF g++F),rfl,⟨f,g,C,G,(t.put 0 _).put 1 _,v.row m (fun x a=>qJ _ (qG _ a)),v.row o (fun x a=>qJ _ (qJ _ a)),K.step (v.less (fun x a=>qG _ a)),c.1,qJ _ (qJ _ c.2.1),fun x a=>qG _ a,fun x a=>qJ _ (qG _ a),fun x a=>qJ _ (qJ _ (c.2.2.2.2.1 x a)),fun x a=>?_⟩,((jG.qn N).more (fun x a=>by cases a)).trans u (fun x a=>qX a),fun y O=>?_⟩
 ·rcases qB.1 a with q|q
  ·have:=m.lt x (kG.1 q);exact⟨this.1,by omega⟩
  ·rcases qB.1 q with q|q
   ·have:=o.lt x (kG.1 q);exact⟨this.1,by omega⟩
   ·have:=c.2.2.2.2.2 x q;exact⟨this.1,by omega⟩
 ·rcases qB.1 O with q|q
  ·rcases P y q with k|k
   ·exact qX (c.2.2.1 y k)
   ·exact qY ⟨by omega,by omega⟩
  ·rcases qB.1 q with q|q
   ·rcases R y q with k|k
    ·exact qX (c.2.2.2.1 y k)
    ·exact qY ⟨by omega,by omega⟩
   ·exact qX q
theorem qKT(h:bR w base b L Q M F){x:jJ}(hx:kI x)(hL:L.length<=10000)(hQ:Q.length<=10000)(ag:base<=w.heap.size):
  Calls prog 17 #[ptr b,kS x] w (nU base b (err (uR x)) (dX L x) (dX Q x) M F w):=by
 have O:=(Below.refl w.heap.size w).alloc (qK _) (.cells #[.int .u64 (x.h:Nat),.int .i64 x.v,.int .i64 x.p] 63);have j:=jY.new w 63 #[.int .u64 (x.h:Nat),.int .i64 x.v,.int .i64 x.p];have h1:=h.below O;obtain⟨l,ah⟩:∃l,w.alloc (.cells #[.int .u64 (x.h:Nat),.int .i64 x.v,.int .i64 x.p] 63)=l:=⟨_,rfl⟩
 rw[ah]at O j h1;have Y:=qQ O;have K:=qQ (PF x l hx);obtain⟨x0,x1,x2⟩:l.cell? ⟨w.heap.size,0,none⟩=some (.int .u64 (x.h:Nat))/\l.cell? ⟨w.heap.size,1,none⟩=some (.int .i64 x.v)/\l.cell? ⟨w.heap.size,2,none⟩=some (.int .i64 x.p):=⟨j.cell 0,j.cell 1,j.cell 2⟩
 have J:=qQ j;have X:=qQ h;have H1:=qQ h1;have ad:=qQ hL;have ae:=qQ hQ;have I:=qQ ag;clear h h1 O j hx hL hQ ag;cases f:mayE x with
 | false =>
   have i:∀L:List jJ,dX L x=L:=fun L=>by unfold dX;rw[f];rfl
   have z:uR x=2:=(by unfold uR;rw[f];rfl);rw[i,i,z];rw[oQ f]at K;clear i z f;obtain⟨xh,xv,xp⟩:=x;go_enter func17,ntmps17;go_wp2_with fail;refine K.out.mono ?_;rintro e a⟨rfl,d⟩;have HF:=qQ (nU.same (v:=.int .i64 2) X.out (bj Y.out d));clear d;go_wp2;go_ret;exact HF.out
 | true =>
   have i:∀L:List jJ,dX L x=jt L x:=fun L=>by unfold dX;rw[f];rfl
   have z:uR x=0:=(by unfold uR;rw[f];rfl);rw[i,i,z];have ak:=tU f
   have al:((kP x).toList==[])=false:=by
    rw[qv];intro e;have hz:(kP x).toList.length=0:=(by rw[e];rfl);rw[Lib.toList_data,Array.length_toList]at hz;have:(kP x).size=0:=hz;omega
   clear i z f ak;generalize kP x=s at*;go_enter func17,ntmps17;go_wp2_with fail;refine K.out.mono ?_;rintro e a⟨rfl,d⟩;obtain⟨vL,vQ,vM,G,hg,hP⟩:=X.out.parts;have P:Below w.heap.size w a.drew:=bj Y.out (bj d (Below.refl a.heap.size a).drew);have C:=hP _ P;have Z:=qQ (fun W (c:Below a.drew.heap.size a.drew W)=>GK (jE.below C.jX c (qK _)) (qO I.out (bj P c).size) x ad.out);have aa:=qQ (fun W (c:Below a.drew.heap.size a.drew W)=>GK (jE.below C.zw c (qK _)) (qO I.out (bj P c).size) x ae.out)
   have ab:Hid (∀g n u m o y,jE g base (.slice n (jt L x).length u) (jt L x)->Below a.drew.heap.size a.drew g->(∀k∈jF (.slice n (jt L x).length u),k∈jF vL∨(a.drew.heap.size<=k/\k<g.heap.size))->jE m base (.slice o (jt Q x).length y) (jt Q x)->Below g.heap.size g m->(∀k∈jF (.slice o (jt Q x).length y),k∈jF vQ∨(g.heap.size<=k/\k<m.heap.size)) ->
     nU base b (.int .i64 0) (jt L x) (jt Q x) M F w (.returned (.int .i64 0)) ((m.setCell ⟨b,0,none⟩ (.slice n (jt L x).length u)).setCell ⟨b,1,none⟩ (.slice o (jt Q x).length y))):=qQ fun g n u m o y U q R V t T=>qKS C hg U q R V t T I.out _
   have H:=C.qa;unfold ta at Z aa
   have N:Hid (∀W,Below a.drew.heap.size a.drew W->W.cell? ⟨b,0,none⟩=some vL/\W.cell? ⟨b,1,none⟩=some vQ/\W.cell? ⟨w.heap.size,0,none⟩=some (.int .u64 (x.h:Nat))/\W.cell? ⟨w.heap.size,1,none⟩=some (.int .i64 x.v)/\W.cell? ⟨w.heap.size,2,none⟩=some (.int .i64 x.p)/\W.frozen? ⟨b,0,none⟩=false/\W.frozen? ⟨b,1,none⟩=false):=qQ fun W c =>
    ⟨(H.below c).cell 0,(H.below c).cell 1,(J.out.below (bj d (bj (Below.refl a.heap.size a).drew c))).cell 0,(J.out.below (bj d (bj (Below.refl a.heap.size a).drew c))).cell 1,(J.out.below (bj d (bj (Below.refl a.heap.size a).drew c))).cell 2,(H.below c).frozen 0,(H.below c).frozen 1⟩
   obtain⟨y0,y1,z0,z1,z2,f0,f1⟩:=N.out _ (Below.refl _ _);clear H C hg hP P x0 x1 x2;generalize ai:jt L x=L2 at*;generalize aj:jt Q x=Q2 at*;generalize w.heap.size=g0 at*;obtain⟨xh,xv,xp⟩:=x;go_upto_region 3 with fail;have af:=qQ (Z.out _ (Below.refl _ _));clear Y K J X H1 ad ae I ai aj Z ah;clear d
   go_region_with
    (first
    | (go_at_call 69;((with_reducible refine af.out.mono ?_);rintro e g⟨n,u,rfl,U,q,R⟩;obtain⟨q0,q1,p0,p1,p2,g1,g2⟩:=N.out _ q))
    | (go_at_call 69;((with_reducible refine(aa.out _ (by assumption)).mono ?_);rintro e m⟨o,y,rfl,V,t,T⟩;obtain⟨q3,q4,p3,p4,p5,g3,g4⟩:=N.out _ (bj (by assumption) t)))
    | fail)
   all_goals
    have ac:=qQ (ab.out _ _ _ _ _ _ U q R V t T);clear U q R V t T aa af N ab;go_wp2
    first
    | (go_ret;exact ac.out)
    | exact bodyPost_ret (v:=.int .i64 0) (by simp[results,Tryz.results17,go_sem]) rfl ac.out
end
end
end Go.Proofs.YtokbfellcadkpaaGreat
