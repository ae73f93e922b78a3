import Derived.Test.YthejglbnkmimjaaGreatQp17
import Derived.Test.YthejglbnkmimjaaGreatQp25
set_option linter.unusedVariables false
set_option maxRecDepth 100000
set_option maxHeartbeats 9000000
namespace Go.Proofs.YthejglbnkmimjaaGreat
open Proofs.Tryz
section
open Go.RowKit Go.Shelf
theorem C4(gb:Nat)(A:Option Addr)(n c:Nat)(p:Value)(y:Int)(q:Bool)(W:World)(g:W.cell? ⟨gb,0,none⟩=some (.slice A n c))
  (b:∀k,Calls prog 121 #[p] (W.drewN k) fun e w'=>e=.returned (.int .i64 y)/\w'=W.drewN k)
  (a:∀k,Calls prog 120 #[.slice A n c,y] (W.drewN k) fun e w'=>e=.returned (.bool q)/\w'=W.drewN k):
  Calls prog 182 #[p,ptr gb] W fun e w'=>e=.returned (.bool (!q))/\∃k,w'=W.drewN k:=by
 have f:=qQ b;have d:=qQ a;clear b a;go_enter func182,ntmps182;go_wp2_with fail;go_quiet (first|(go_at_call 121;exact Calls.quiet_of_same (f.out _))|(go_at_call 120;exact Calls.quiet_of_same (d.out _)));go_wp2;go_ret;exact⟨rfl,_,rfl⟩
theorem qJG(w:World):Calls prog 121 #[.pointer none] w (X0 (.int .i64 0) w):=by
 have a:=qQ (PU w);go_enter func121,ntmps121;go_wp2_with fail;refine X5 a.out ?_;go_wp2;go_ret;exact⟨rfl,rfl⟩
abbrev om(L:List (Nat × TbS)):Type:=Option { x:Nat × TbS // x∈L }
instance (L : List (Nat × TbS)):Inhabited (om L) := ⟨none⟩
def lC{L:List (Nat × TbS)}:om L->Value
 | none=>.pointer none
 | some x=>ptr x.1.1
def dr{L:List (Nat × TbS)}(ns:List Int):om L->Bool
 | none=>!decide ((0:Int)∈ns)
 | some x=>!decide ((x.1.2.n:Int)∈ns)
def cD(L:List (Nat × TbS)):List (om L):=L.attach.map some
theorem qJW{L:List (Nat × TbS)}:OneCell (lC (L:=L)):=fun x=>by cases x<;>rfl
theorem qJA(L:List (Nat × TbS)):(cD L).map lC=L.map fun x=>ptr x.1:=by
 unfold cD;rw[List.map_map];show L.attach.map (fun x=>ptr x.1.1)=_;rw[show(fun x:{ x // x∈L }=>ptr x.1.1)=(fun x:Nat × TbS=>ptr x.1) ∘ Subtype.val from rfl,<-List.map_map,List.attach_map_subtype_val]
theorem C5(L:List (Nat × TbS))(ns:List Int):((cD L).filter fun x=>!dr ns x).map lC=(L.filter fun x=>decide ((x.2.n:Int)∈ns)).map fun x=>ptr x.1:=by
 unfold cD;rw[List.filter_map,List.map_map]
 have e:((fun x:om L=>!dr ns x) ∘ some)=(fun x:Nat × TbS=>decide ((x.2.n:Int)∈ns)) ∘ Subtype.val:=by
  funext x;show(!(!decide _))=_;rw[Bool.not_not];rfl
 rw[e,show(lC (L:=L) ∘ some)=(fun x:Nat × TbS=>ptr x.1) ∘ Subtype.val from rfl,<-List.map_map,<-List.filter_map,List.attach_map_subtype_val]
def cl(ps:List Nat)(T:List TbS)(ns:List Int):List Nat:=((ps.zip T).filter fun x=>decide ((x.2.n:Int)∈ns)).map Prod.fst
section
variable {w:World}{gd gb base cur n c:Nat}{A:Option Addr}{ps:List Nat}{T:List TbS}{ns:List Int}{G:List Nat}{v:Value}
theorem C6(p:uu w gd ps T G)(a:jF w gb 37 #[.slice A n c])(u:kF w (.slice A n c) ns)(s:ns.length<=1000000)(E:List Nat)(o:∀b∈G,b∈E)(q:gb∈E)(z:∀b∈jL (.slice A n c),b∈E)(W:World)(f:jE E w W)(x:om (ps.zip T)):
  FnGives prog 182 #[ptr gb] #[lC x] (.bool (dr ns x)) W:=by
 have m:W.cell? ⟨gb,0,none⟩=some (.slice A n c):=(f.xW a q).cell 0;have j:∀(y:Int) (k:Nat),Calls prog 120 #[.slice A n c,.int .i64 y] (W.drewN k) fun e K=>e=.returned (.bool (decide (y∈ns)))/\K=W.drewN k:=fun y k=>QI _ ns y (W.drewN k) ((f.ints u z).below (uK (qU _ _) k) (qK _)) s
 cases x with
 | none=>exact C4 gb A n c (.pointer none) 0 (decide ((0:Int)∈ns)) W m (fun k=>(qJG (W.drewN k)).mono fun _ _ h=>⟨h.1,h.2.symm⟩) (j 0)
 | some x =>
   obtain⟨⟨g,t⟩,C⟩:=x;obtain⟨i,d⟩:=qd C;rw[List.getElem?_zip_eq_some]at d;obtain⟨H,F,I⟩:=p.2 i g t d.1 d.2;have J:=F.keep f (fun b a=>o b (I b a));exact C4 gb A n c (ptr g) (t.n:Nat) (decide ((t.n:Int)∈ns)) W m (fun k=>(UD (J.below (uK (qU _ _) k))).mono fun _ _ h=>⟨h.1,h.2.symm⟩) (j _)
theorem qJB{α:Type}[Inhabited α](enc:α->Value)(w:World)(a off k:Nat)(dk:Array α)(d:Array Obj){E:List Nat}(j:∀b∈E,b≠a/\b<w.1.size):jE E w (sortWorld enc w a off k dk d):=by
 have f:(Sort.putRow enc (Sort.ahead w k) a off dk).1.size=w.1.size:=by simp[Sort.putRow,Sort.mapBlock,Sort.ahead]
 refine⟨?_,fun b m=>?_⟩
 ·show w.1.size<=((Sort.putRow enc (Sort.ahead w k) a off dk).heap++d).size;rw[Array.size_append,f];omega
 ·obtain⟨g,i⟩:=j b m;show((Sort.putRow enc (Sort.ahead w k) a off dk).heap++d)[b]? = _;rw[Array.getElem?_append_left (by rw[f];exact i)];simp[Sort.putRow,Sort.mapBlock,Sort.ahead,Array.getElem?_modify,Ne.symm g]
theorem qJC(f:uu w gd ps T G)(i:vt w base v ps)(a:jF w gb 37 #[.slice A n c])(s:kF w (.slice A n c) ns)(J:ns.length<=1000000)(af:ps.length<=1000)(E:List Nat)(j:∀b∈G,b∈E)(m:gb∈E)(y:∀b∈jL (.slice A n c),b∈E)(d:∀b∈E,b ∉ jL v/\b<w.1.size):
  Calls prog 181 #[v,.func (.func 182) #[] #[ptr gb]] w fun e w'=>∃u,e=.returned u/\vt w' base u (cl ps T ns)/\jL u=jL v/\jH (jL v) w w':=by
 have hl:=f.1;by_cases o:v=.slice none 0 0
 ·subst o
  have X:ps=[]:=by
   rcases i.2 with⟨-,e⟩|⟨g,F,cur,e,-⟩
   ·exact xK.1 e
   ·cases e
  subst X
  have M:Hid (∀W,Calls prog 237 #[.slice none 0 0,.func (.func 182) #[] #[ptr gb]] W (X0 (.int .i64 (-1)) W)):=qQ fun W=>by
   clear f i a s d y j m;go_enter func237,ntmps237;go_wp2;refine wp_loop_rounds 1 ?_;rw[rounds_succ];go_wp2;go_ret;exact⟨rfl,rfl⟩
  have HR:=qQ i;clear f i a s d y j m;go_enter func181,ntmps181;go_wp2_with fail;refine X5 (M.out _) ?_;go_wp2;go_ret;exact⟨_,rfl,vt.nil _ _,rfl,jH.refl _ _⟩
 ·have K:(cD (ps.zip T)).length=ps.length:=by
   unfold cD;rw[qz,List.length_attach,List.length_zip];omega
  have ab:ps.map ptr=(cD (ps.zip T)).map lC:=by
   rw[qJA,show(fun x:Nat × TbS=>ptr x.1)=ptr ∘ Prod.fst from rfl,<-List.map_map,List.map_fst_zip (by omega)]
  have p:=i;unfold vt at p;rw[ab]at p;obtain⟨g,F,rfl,hg,ad,ae,ac,-,P⟩:=Lib.holds_of_ownsRow p o;have Y:∀b∈E,b≠g/\b<w.1.size:=fun b a=>⟨fun e=>(d b a).1 (jt.2 (by rw[e];rfl)),(d b a).2⟩
  have Z:PredAt prog 182 #[ptr gb] (lC (L:=ps.zip T)) (dr ns) w:=fun W x Q=>C6 f a s J E j m y W (jE.xA Q (fun b a=>(d b a).2)) x
  have aa:PredOver prog 182 #[ptr gb] (lC (L:=ps.zip T)) (dr ns) g 0 (cD (ps.zip T)).toArray.size w:=fun k os dk x _=>C6 f a s J E j m y _ (qJB _ _ _ _ _ _ _ Y) x
  have O:∀C w,(callFunc 182 C).run prog w=.ok (.enter 182 C) w:=enters_of func182 (by kernel_rfl) rfl;have h:=AnyE.slices_DeleteFunc Tryz.del lC qJW (dr ns) 182 #[ptr gb] O none (fun w=>Tryz.zeroValue160 w) g 0 F (cD (ps.zip T)).toArray w Z aa P (by rw[List.size_toArray];omega) (by rw[List.size_toArray];omega);rw[List.size_toArray,K]at h;refine h.mono ?_;rintro e w'⟨rfl,q,rfl⟩;have V:((cD (ps.zip T)).filter fun x=>!dr ns x).length<=ps.length:=by rw[<-K];exact List.length_filter_le _ _
  have z:=Lib.ownsRow_putRow (q:=q) (k:=((cD (ps.zip T)).filter fun x=>!dr ns x).length) (ys:=((cD (ps.zip T)).filter fun x=>!dr ns x)++List.replicate (ps.length-((cD (ps.zip T)).filter fun x=>!dr ns x).length) none) p (by rw[qN,List.length_replicate];omega) V;rw[List.take_left,C5]at z
  have I:((cD (ps.zip T)).filter fun x=>!dr ns x).length=(cl ps T ns).length:=by
   have:=congrArg List.length (C5 (ps.zip T) ns);rw[qz,qz]at this;unfold cl;rw[qz];exact this
  rw[I];refine⟨_,rfl, ?_,rfl, ?_⟩
  ·have e:(cl ps T ns).map ptr=((ps.zip T).filter fun x=>decide ((x.2.n:Int)∈ns)).map fun x=>ptr x.1:=by unfold cl;rw[List.map_map];rfl
   unfold vt;rw[e];rw[I]at z;exact z
  ·refine⟨rfl,rfl,rfl,by simp[Sort.putRow,Sort.mapBlock,Sort.ahead],fun b a o=>?_⟩;have U:g≠b:=fun e=>o (jt.2 (by rw[e];rfl))
   simp[Sort.putRow,Sort.mapBlock,Sort.ahead,Array.getElem?_modify,U]
end
theorem qJD: (prog.info? 160).map (fun i=>(i.zero,i.size,i.bytes))=some (some (.pointer none),1,8):=by kernel_rfl
theorem qJE(w:World)(g:Nat):gI (w.alloc (.cells #[ptr g] 160)) 1 (.slice (some ⟨w.1.size,0,none⟩) 1 1) 1 [ptr g] :=
 ⟨rfl,qY ⟨_,1,rfl,fun j u a=>by
  match j,a with
  | 0,a =>
    obtain rfl:ptr g=u:=(by simpa using a);exact(jF.new w 160 #[ptr g]).cell 0⟩⟩
theorem C7{w:World}{base n:Nat}{v:Value}{ps:List Nat}(g:Nat)(ty:TypeId)(C:vt w base v ps)(z:n=ps.length)(Q:ps.length<=10000)(O:base<=w.1.size):
  ∃A c w',(Builtin.append_ #[108,108] ty #[v,.slice (some ⟨w.1.size,0,none⟩) 1 1]).run prog (w.alloc (.cells #[ptr g] 160))=.ok (.slice A (n+1) c) w'/\vt w' base (.slice A (n+1) c) (ps++[g])/\jH (jL v) w w'/\∀b∈jL (.slice A (n+1) c),b∈jL v∨(w.1.size<=b/\b<w'.1.size):=by
 subst z;obtain⟨M,p,J,K,L⟩:=info_parts qJD;have f:=(qU w.1.size w).alloc (qK _) (.cells #[ptr g] 160);have o:=vt.below C f (qK _);obtain⟨U,w',i,a,j,m⟩:=cr (P:=prog) _ base 108 160 M _ 1 8 ty Tryz.underlying108 p J K L rfl (by decide) v ps.length (ps.map ptr) o _ 1 [ptr g] (qJE w g) (fun u F=>by rw[qH.1 F];rfl) (by unfold maxLen;omega) (by omega) (by simp;omega);obtain⟨A,c,rfl,-,-,-⟩:=v8 a;refine⟨A,c,w',i,by unfold vt;rw[qN,List.map_append];exact a,((jH.xA f).more (fun x I=>by cases I)).grown j (fun k q=>qX (jt.2 q)),fun b y=>?_⟩;have d:=jt.1 y;rcases m with e|e
 ·exact qX (jt.2 (by rw[<-e];exact d))
 ·have s:=(a.lt b d).2;rw[d]at e;obtain rfl:=qb e;exact qY ⟨by simp,s⟩
def jo(S:IxS)(R:LvL)(check:Int):kJ:=⟨S.m.next+1,check,S.m.seed,R⟩
section
variable {At:jR}{w0 w w5 w9:World}{gd gx r gm cp c2 gt n cp5 n9 c9 k5:Nat}{S:IxS}{D D':jD}{E N Fm Gr Gk ps G2 H:List Nat}{A B A5 A9:Option Addr}{R:LvL}{l:List jC}{t:Tw}{check:Int}
theorem qJF(api:jS At)(f:rr w w0.1.size gx gd r S Fm Gr Gk gm A cp B c2 ps)(J:DS At w0 gd D (Fm++(Gr++(Gk++E))) w)(s:∀b∈Fm,b ∉ Gr/\b ∉ Gk/\b ∉ E)(u:∀b∈Gr,b ∉ Gk/\b ∉ E)(U:∀b∈Gk,b ∉ E)(F:∀b∈Fm++Gr,w0.1.size<=b)
  (M:DS At w0 gd D' (N++(Fm++(Gr++(Gk++E)))) w5) (C:jE (Fm++(Gr++(Gk++E))) w w5) (y:∀b∈N,w.1.size<=b)
  (Y:bE w5 (.slice A5 k5 cp5) R G2) (K:∀b∈G2,b∈N) (hp:yE w5 gt gd (n:Nat) l t H) (L:∀b∈H,b∈N) (hn:S.m.next=(n:Nat))
  (P:jH (gx::jL (.slice B ps.length c2)) w5 w9)
  (V:jF w9 gx 111 #[ptr gx,ptr gd,.int .i64 (S.m.next+1),check,.int .u64 (S.m.seed:Nat),.slice A5 k5 cp5,.slice A9 n9 c9,.float .f64 r,mtp gm])
  (aa:vt w9 w0.1.size (.slice A9 n9 c9) (cl ps S.T R.flatten++[gt])) (Z:∀b∈jL (.slice A9 n9 c9),b∈jL (.slice B ps.length c2)∨(w5.1.size<=b/\b<w9.1.size)):
  jf At w0 gd gx r (fI S R check ⟨n,l,t⟩ S.mem) D' E w9/\jE E w w9:=by
 have g:=J.lt;have O:=M.lt
 have I:∀b∈gx::jL (.slice B ps.length c2),b∈Gr:=fun b a=>by
  rcases qL.1 a with e|k
  ·rw[e];exact f.own
  ·exact f.xq b k
 have Q:∀b∈Gr,b<w.1.size:=fun b a=>g b (qJ _ (qW _ a))
 have X:∀b∈N++(Fm++(Gk++E)),b<w5.1.size/\b ∉ gx::jL (.slice B ps.length c2):=fun b a=>by
  refine⟨O b ?_,fun d=>?_⟩
  ·rcases qE.1 a with k|k
   ·exact qW _ k
   ·rcases qE.1 k with k|k
    ·exact qJ _ (qW _ k)
    ·exact qJ _ (qJ _ (qJ _ k))
  ·have z:=I b d;rcases qE.1 a with k|k
   ·have:=y b k;have:=Q b z;omega
   ·rcases qE.1 k with k|k
    ·exact(s b k).1 z
    ·rcases qE.1 k with k|k
     ·exact(u b z).1 k
     ·exact(u b z).2 k
 have i:jE (N++(Fm++(Gk++E))) w5 w9:=jE.xP P X;have ag:=C.size
 have o:∀b∈gx::jL (.slice A9 n9 c9),b∈Gr∨(w5.1.size<=b/\b<w9.1.size):=fun b a=>by
  rcases qL.1 a with e|k
  ·rw[e];exact qX f.own
  ·rcases Z b k with q|q
   ·exact qX (f.xq b q)
   ·exact qY q
 have j:∀b∈H++(G2++Gk),b∈N∨b∈Gk:=fun b a=>by
  rcases qE.1 a with k|k
  ·exact qX (L b k)
  ·rcases qE.1 k with k|k
   ·exact qX (K b k)
   ·exact qY k
 have W:DS At w0 gd D' (Fm++((gx::jL (.slice A9 n9 c9))++((H++(G2++Gk))++E))) w9:=M.xL api P (fun b a=>⟨qJ _ (qJ _ (qW _ (I b a))),F b (qJ _ (I b a))⟩) (fun b a=>by
  rcases qE.1 a with k|k
  ·exact qX (qJ _ (qW _ k))
  ·rcases qE.1 k with k|k
   ·rcases o b k with q|q
    ·exact qX (qJ _ (qJ _ (qW _ q)))
    ·exact qY q
   ·rcases qE.1 k with k|k
    ·rcases j b k with q|q
     ·exact qX (qW _ q)
     ·exact qX (qJ _ (qJ _ (qJ _ (qW _ q))))
    ·exact qX (qJ _ (qJ _ (qJ _ (qJ _ k)))))
 have ae:jE G2 w5 w9:=i.less (fun b a=>qW _ (K b a));have kH:jE H w5 w9:=i.less (fun b a=>qW _ (L b a));have af:jE Gk w w9:=(C.less (fun b a=>qJ _ (qJ _ (qW _ a)))).trans (i.less (fun b a=>qJ _ (qJ _ (qW _ a))));have ad:jE Fm w w9:=(C.less (fun b a=>qW _ a)).trans (i.less (fun b a=>qJ _ (qW _ a)));have ab:=(f.xO.keep af (fun b a=>a)).filter (fun t=>decide ((t.n:Int)∈R.flatten));have ac:=ab.snoc (t:=⟨n,l,t⟩) (hp.keep kH (fun b a=>a));refine⟨⟨Fm,gx::jL (.slice A9 n9 c9),H++(G2++Gk),W,⟨gm,_,_,cl ps S.T R.flatten++[gt],V,(Y.step ae).more (fun b a=>qJ _ (qW _ a)),aa,ac.more (fun b a=>?_),f.mem.keep ad (fun b a=>a),qC,fun b a=>qF _ a,f.low⟩,fun b a=>⟨fun d=>?_,fun d=>?_,(s b a).2.2⟩,fun b a=>⟨fun d=>?_,fun d=>?_⟩,fun b a d=>?_,fun b a=>?_⟩,(C.less (fun b a=>qJ _ (qJ _ (qJ _ a)))).trans (i.less (fun b a=>qJ _ (qJ _ (qJ _ a))))⟩
 ·rcases qE.1 a with k|k
  ·exact qW _ k
  ·exact qJ _ (qJ _ k)
 ·have:=g b (qW _ a);rcases o b d with q|q
  ·exact(s b a).1 q
  ·omega
 ·have:=g b (qW _ a);rcases j b d with q|q
  ·have:=y b q;omega
  ·exact(s b a).2.1 q
 ·rcases o b a with q|q
  ·have:=Q b q;rcases j b d with p|p
   ·have:=y b p;omega
   ·exact(u b q).1 p
  ·rcases j b d with p|p
   ·have:=O b (qW _ p);omega
   ·have:=g b (qJ _ (qJ _ (qW _ p)));omega
 ·rcases o b a with q|q
  ·exact(u b q).2 d
  ·have:=g b (qJ _ (qJ _ (qJ _ d)));omega
 ·rcases j b a with p|p
  ·have:=y b p;have:=g b (qJ _ (qJ _ (qJ _ d)));omega
  ·exact U b p d
 ·rcases qE.1 a with k|k
  ·exact F b (qW _ k)
  ·rcases o b k with q|q
   ·exact F b (qJ _ q)
   ·have:=J.kept.size;omega
end
end
end Go.Proofs.YthejglbnkmimjaaGreat
