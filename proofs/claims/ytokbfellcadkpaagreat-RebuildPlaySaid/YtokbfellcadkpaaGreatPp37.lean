import Derived.Test.YtokbfellcadkpaaGreatPp21
import Derived.Test.YtokbfellcadkpaaGreatPp35
set_option linter.unusedVariables false
set_option maxRecDepth 100000
set_option maxHeartbeats 9000000
namespace Go.Proofs.YtokbfellcadkpaaGreat
open Tryz
section
open Go.RowKit Go.Shelf
theorem DQ(gb:Nat)(A:Option Addr)(n c:Nat)(p:Value)(y:Int)(q:Bool)(W:World)(g:W.cell? ⟨gb,0,none⟩=some (.slice A n c))
  (b:∀k,Calls prog 107 #[p] (W.drewN k) fun e w'=>e = .returned (.int .i64 y)/\w'=W.drewN k)
  (a:∀k,Calls prog 106 #[.slice A n c,.int .i64 y] (W.drewN k) fun e w'=>e = .returned (.bool q)/\w'=W.drewN k):
  Calls prog 166 #[p,ptr gb] W fun e w'=>e = .returned (.bool (!q))/\∃k,w'=W.drewN k:=by
 have f:=qQ b;have d:=qQ a;clear b a;go_enter func166,ntmps166;go_wp2_with fail;go_quiet (first | (go_at_call 107;exact Calls.quiet_of_same (f.out _)) | (go_at_call 106;exact Calls.quiet_of_same (d.out _)));go_wp2;go_ret;exact⟨rfl,_,rfl⟩
theorem qK4(w:World):Calls prog 107 #[.pointer none] w fun e w'=>e = .returned (.int .i64 0)/\w=w':=by
 have a:=qQ (Pu w);go_enter func107,ntmps107;go_wp2_with fail;refine a.out.mono ?_;rintro e w'⟨rfl,rfl⟩;go_wp2;go_ret;exact⟨rfl,rfl⟩
abbrev oo(L:List (Nat × TbS)):Type:=Option { x:Nat × TbS // x∈L }
instance (L : List (Nat × TbS)):Inhabited (oo L) := ⟨none⟩
def lA{L:List (Nat × TbS)}:oo L->Value
 | none=>.pointer none
 | some x=>ptr x.1.1
def dT{L:List (Nat × TbS)}(ns:List Int):oo L->Bool
 | none=>!decide ((0:Int)∈ns)
 | some x=>!decide ((x.1.2.n:Int)∈ns)
def cX(L:List (Nat × TbS)):List (oo L):=L.attach.map some
theorem qK5{L:List (Nat × TbS)}:OneCell (lA (L:=L)):=fun x=>by cases x<;>rfl
theorem qK6(L:List (Nat × TbS)):(cX L).map lA=L.map fun x=>ptr x.1:=by
 unfold cX;rw[List.map_map];show L.attach.map (fun x=>ptr x.1.1)=_;rw[show(fun x:{ x // x∈L }=>ptr x.1.1)=(fun x:Nat × TbS=>ptr x.1) ∘ Subtype.val from rfl,<-List.map_map,List.attach_map_subtype_val]
theorem DX(L:List (Nat × TbS))(ns:List Int):((cX L).filter fun x=>!dT ns x).map lA=(L.filter fun x=>decide ((x.2.n:Int)∈ns)).map fun x=>ptr x.1:=by
 unfold cX;rw[List.filter_map,List.map_map]
 have e:((fun x:oo L=>!dT ns x) ∘ some)=(fun x:Nat × TbS=>decide ((x.2.n:Int)∈ns)) ∘ Subtype.val:=by
  funext x;show(!(!decide _))=_;rw[Bool.not_not];rfl
 rw[e,show(lA (L:=L) ∘ some)=(fun x:Nat × TbS=>ptr x.1) ∘ Subtype.val from rfl,<-List.map_map,<-List.filter_map,List.attach_map_subtype_val]
def cT(ps:List Nat)(T:List TbS)(ns:List Int):List Nat:=((ps.zip T).filter fun x=>decide ((x.2.n:Int)∈ns)).map Prod.fst
section
variable {w:World}{gd gb base cur n c:Nat}{A:Option Addr}{ps:List Nat}{T:List TbS}{ns:List Int}{G:List Nat}{v:Value}
theorem DZ(p:uC w gd ps T G)(a:jY w gb 96 #[.slice A n c])(u:kX w (.slice A n c) ns)(s:ns.length<=1000000)(E:List Nat)(o:∀b∈G,b∈E)(q:gb∈E)(z:∀b∈jF (.slice A n c),b∈E)(W:World)(f:jV E w W)(x:oo (ps.zip T)):
  FnGives prog 166 #[ptr gb] #[lA x] (.bool (dT ns x)) W:=by
 have m:W.cell? ⟨gb,0,none⟩=some (.slice A n c):=(f.qa a q).cell 0;have j:∀(y:Int) (k:Nat),Calls prog 106 #[.slice A n c,.int .i64 y] (W.drewN k) fun e K=>e = .returned (.bool (decide (y∈ns)))/\K=W.drewN k:=fun y k=>QA _ ns y (W.drewN k) ((f.ints u z).below (vo (Below.refl _ _) k) (qK _)) s
 cases x with
 | none=>exact DQ gb A n c (.pointer none) 0 (decide ((0:Int)∈ns)) W m (fun k=>(qK4 (W.drewN k)).mono fun _ _ h=>⟨h.1,h.2.symm⟩) (j 0)
 | some x =>
   obtain⟨⟨g,t⟩,C⟩:=x;obtain⟨i,d⟩:=List.getElem?_of_mem C;rw[List.getElem?_zip_eq_some]at d;obtain⟨H,F,I⟩:=p.2 i g t d.1 d.2;have J:=F.keep f (fun b a=>o b (I b a));exact DQ gb A n c (ptr g) (t.n:Nat) (decide ((t.n:Int)∈ns)) W m (fun k=>(UO (J.below (vo (Below.refl _ _) k))).mono fun _ _ h=>⟨h.1,h.2.symm⟩) (j _)
theorem qK7{α:Type}[Inhabited α](enc:α->Value)(w:World)(a off k:Nat)(dk:Array α)(d:Array Obj){E:List Nat}(j:∀b∈E,b≠a/\b<w.heap.size):jV E w (sortWorld enc w a off k dk d):=by
 have f:(Sort.putRow enc (Sort.ahead w k) a off dk).heap.size=w.heap.size:=by simp[Sort.putRow,Sort.mapBlock,Sort.ahead]
 refine⟨?_,fun b m=>?_⟩
 ·show w.heap.size<=((Sort.putRow enc (Sort.ahead w k) a off dk).heap++d).size;rw[Array.size_append,f];omega
 ·obtain⟨g,i⟩:=j b m;show((Sort.putRow enc (Sort.ahead w k) a off dk).heap++d)[b]? = _;rw[Array.getElem?_append_left (by rw[f];exact i)];simp[Sort.putRow,Sort.mapBlock,Sort.ahead,Array.getElem?_modify,Ne.symm g]
theorem qK8(f:uC w gd ps T G)(i:vm w base v ps)(a:jY w gb 96 #[.slice A n c])(s:kX w (.slice A n c) ns)(J:ns.length<=1000000)(af:ps.length<=1000)(E:List Nat)(j:∀b∈G,b∈E)(m:gb∈E)(y:∀b∈jF (.slice A n c),b∈E)(d:∀b∈E,b ∉ jF v/\b<w.heap.size):
  Calls prog 165 #[v,.func (.func 166) #[] #[ptr gb]] w fun e w'=>∃u,e = .returned u/\vm w' base u (cT ps T ns)/\jF u=jF v/\jG (jF v) w w':=by
 have hl:=f.1;by_cases o:v = .slice none 0 0
 ·subst o
  have X:ps=[]:=by
   rcases i.2 with⟨-,e⟩|⟨g,F,cur,e,-⟩
   ·exact List.length_eq_zero_iff.1 e
   ·cases e
  subst X
  have M:Hid (∀W,Calls prog 207 #[.slice none 0 0,.func (.func 166) #[] #[ptr gb]] W fun e w'=>e = .returned (.int .i64 (-1))/\W=w'):=qQ fun W=>by
   clear f i a s d y j m;go_enter func207,ntmps207;go_wp2;refine wp_loop_rounds 1 ?_;rw[rounds_succ];go_wp2;go_ret;exact⟨rfl,rfl⟩
  have HR:=qQ i;clear f i a s d y j m;go_enter func165,ntmps165;go_wp2_with fail;refine(M.out _).mono ?_;rintro e w'⟨rfl,rfl⟩;go_wp2;go_ret;exact⟨_,rfl,vm.nil _ _,rfl,jG.refl _ _⟩
 ·have K:(cX (ps.zip T)).length=ps.length:=by
   unfold cX;rw[qj,List.length_attach,List.length_zip];omega
  have ab:ps.map ptr=(cX (ps.zip T)).map lA:=by
   rw[qK6,show(fun x:Nat × TbS=>ptr x.1)=ptr ∘ Prod.fst from rfl,<-List.map_map,List.map_fst_zip (by omega)]
  have p:=i;unfold vm at p;rw[ab]at p;obtain⟨g,F,rfl,hg,ad,ae,ac,-,P⟩:=Lib.holds_of_ownsRow p o;have Y:∀b∈E,b≠g/\b<w.heap.size:=fun b a=>⟨fun e=>(d b a).1 (kG.2 (by rw[e];rfl)),(d b a).2⟩
  have Z:PredAt prog 166 #[ptr gb] (lA (L:=ps.zip T)) (dT ns) w:=fun W x Q=>DZ f a s J E j m y W (jV.qn Q (fun b a=>(d b a).2)) x
  have aa:PredOver prog 166 #[ptr gb] (lA (L:=ps.zip T)) (dT ns) g 0 (cX (ps.zip T)).toArray.size w:=fun k os dk x _=>DZ f a s J E j m y _ (qK7 _ _ _ _ _ _ _ Y) x
  have O:∀C w,(callFunc 166 C).run prog w = .ok (.enter 166 C) w:=enters_of func166 (by kernel_rfl) rfl;have h:=AnyE.slices_DeleteFunc Tryz.del lA qK5 (dT ns) 166 #[ptr gb] O none (fun w=>Tryz.zeroValue164 w) g 0 F (cX (ps.zip T)).toArray w Z aa P (by rw[List.size_toArray];omega) (by rw[List.size_toArray];omega);rw[List.size_toArray,K]at h;refine h.mono ?_;rintro e w'⟨rfl,q,rfl⟩;have V:((cX (ps.zip T)).filter fun x=>!dT ns x).length<=ps.length:=by rw[<-K];exact List.length_filter_le _ _
  have z:=Lib.ownsRow_putRow (q:=q) (k:=((cX (ps.zip T)).filter fun x=>!dT ns x).length) (ys:=((cX (ps.zip T)).filter fun x=>!dT ns x)++List.replicate (ps.length-((cX (ps.zip T)).filter fun x=>!dT ns x).length) none) p (by rw[qI,List.length_replicate];omega) V;rw[List.take_left,DX]at z
  have I:((cX (ps.zip T)).filter fun x=>!dT ns x).length=(cT ps T ns).length:=by
   have:=congrArg List.length (DX (ps.zip T) ns);rw[qj,qj]at this;unfold cT;rw[qj];exact this
  rw[I];refine⟨_,rfl, ?_,rfl, ?_⟩
  ·have e:(cT ps T ns).map ptr=((ps.zip T).filter fun x=>decide ((x.2.n:Int)∈ns)).map fun x=>ptr x.1:=by unfold cT;rw[List.map_map];rfl
   unfold vm;rw[e];rw[I]at z;exact z
  ·refine⟨rfl,rfl,rfl,by simp[Sort.putRow,Sort.mapBlock,Sort.ahead],fun b a o=>?_⟩;have U:g≠b:=fun e=>o (kG.2 (by rw[e];rfl))
   simp[Sort.putRow,Sort.mapBlock,Sort.ahead,Array.getElem?_modify,U]
end
theorem qK9: (prog.info? 164).map (fun i=>(i.zero,i.size,i.bytes))=some (some (.pointer none),1,8):=by kernel_rfl
theorem qKq(w:World)(g:Nat):dg (w.alloc (.cells #[ptr g] 164)) 1 (.slice (some ⟨w.heap.size,0,none⟩) 1 1) 1 [ptr g] :=
 ⟨rfl,qY ⟨_,1,rfl,fun j u a=>by
  match j,a with
  | 0,a =>
    obtain rfl:ptr g=u:=(by simpa using a);exact(jY.new w 164 #[ptr g]).cell 0⟩⟩
theorem DJ{w:World}{base n:Nat}{v:Value}{ps:List Nat}(g:Nat)(i:TypeId)(F:vm w base v ps)(C:n=ps.length)(U:ps.length<=10000)(Q:base<=w.heap.size):
  ∃A c w',(Builtin.append_ #[86,86] i #[v,.slice (some ⟨w.heap.size,0,none⟩) 1 1]).run prog (w.alloc (.cells #[ptr g] 164)) = .ok (.slice A (n+1) c) w'/\vm w' base (.slice A (n+1) c) (ps++[g])/\jG (jF v) w w'/\∀b∈jF (.slice A (n+1) c),b∈jF v∨(w.heap.size<=b/\b<w'.heap.size):=by
 subst C;obtain⟨O,q,K,L,M⟩:=info_parts qK9;have f:=(Below.refl w.heap.size w).alloc (qK _) (.cells #[ptr g] 164);have p:=vm.below F f (qK _);obtain⟨V,w',j,a,m,o⟩:=fE (P:=prog) _ base 86 164 O _ 1 8 i Tryz.underlying86 q K L M rfl (by decide) v ps.length (ps.map ptr) p _ 1 [ptr g] (qKq w g) (fun u I=>by rw[qH.1 I];rfl) (by unfold maxLen;omega) (by omega) (by simp;omega);obtain⟨A,c,rfl,-,-,-⟩:=yw a;refine⟨A,c,w',j,by unfold vm;rw[qI,List.map_append];exact a,((jG.qn f).more (fun x J=>by cases J)).grown m (fun k s=>qX (kG.2 s)),fun b z=>?_⟩;have d:=kG.1 z;rcases o with e|e
 ·exact qX (kG.2 (by rw[<-e];exact d))
 ·have y:=(a.lt b d).2;rw[d]at e;obtain rfl:=qg e;exact qY ⟨by simp,y⟩
def jv(S:IxS)(R:LvL)(check:Int):j5:=⟨S.m.next+1,check,S.m.seed,R⟩
section
variable {At:jL}{w0 w w5 w9:World}{gd gx r gm cp c2 gt n cp5 n9 c9 k5:Nat}{S:IxS}{D D':jK}{E N Fm Gr Gk ps G2 H:List Nat}{A B A5 A9:Option Addr}{R:LvL}{l:List jJ}{t:Tw}{check:Int}
theorem qKx(api:jM At)(f:rr w w0.heap.size gx gd r S Fm Gr Gk gm A cp B c2 ps)(J:DS At w0 gd D (Fm++(Gr++(Gk++E))) w)(s:∀b∈Fm,b ∉ Gr/\b ∉ Gk/\b ∉ E)(u:∀b∈Gr,b ∉ Gk/\b ∉ E)(U:∀b∈Gk,b ∉ E)(F:∀b∈Fm++Gr,w0.heap.size<=b)
  (M:DS At w0 gd D' (N++(Fm++(Gr++(Gk++E)))) w5) (C:jV (Fm++(Gr++(Gk++E))) w w5) (y:∀b∈N,w.heap.size<=b)
  (Y:uB w5 (.slice A5 k5 cp5) R G2) (K:∀b∈G2,b∈N) (hp:yC w5 gt gd (n:Nat) l t H) (L:∀b∈H,b∈N) (hn:S.m.next=(n:Nat))
  (P:jG (gx::jF (.slice B ps.length c2)) w5 w9)
  (V:jY w9 gx 89 #[ptr gx,ptr gd,.int .i64 (S.m.next+1),.int .i64 check,.int .u64 (S.m.seed:Nat),.slice A5 k5 cp5,.slice A9 n9 c9,.float .f64 r,mtp gm])
  (aa:vm w9 w0.heap.size (.slice A9 n9 c9) (cT ps S.T R.flatten++[gt])) (Z:∀b∈jF (.slice A9 n9 c9),b∈jF (.slice B ps.length c2)∨(w5.heap.size<=b/\b<w9.heap.size)):
  jz At w0 gd gx r (fA S R check ⟨n,l,t⟩ S.mem) D' E w9/\jV E w w9:=by
 have g:=J.lt;have O:=M.lt
 have I:∀b∈gx::jF (.slice B ps.length c2),b∈Gr:=fun b a=>by
  rcases qL.1 a with e|k
  ·rw[e];exact f.own
  ·exact f.xI b k
 have Q:∀b∈Gr,b<w.heap.size:=fun b a=>g b (qJ _ (qG _ a))
 have X:∀b∈N++(Fm++(Gk++E)),b<w5.heap.size/\b ∉ gx::jF (.slice B ps.length c2):=fun b a=>by
  refine⟨O b ?_,fun d=>?_⟩
  ·rcases qB.1 a with k|k
   ·exact qG _ k
   ·rcases qB.1 k with k|k
    ·exact qJ _ (qG _ k)
    ·exact qJ _ (qJ _ (qJ _ k))
  ·have z:=I b d;rcases qB.1 a with k|k
   ·have:=y b k;have:=Q b z;omega
   ·rcases qB.1 k with k|k
    ·exact(s b k).1 z
    ·rcases qB.1 k with k|k
     ·exact(u b z).1 k
     ·exact(u b z).2 k
 have i:jV (N++(Fm++(Gk++E))) w5 w9:=jV.xB P X;have ag:=C.size
 have o:∀b∈gx::jF (.slice A9 n9 c9),b∈Gr∨(w5.heap.size<=b/\b<w9.heap.size):=fun b a=>by
  rcases qL.1 a with e|k
  ·rw[e];exact qX f.own
  ·rcases Z b k with q|q
   ·exact qX (f.xI b q)
   ·exact qY q
 have j:∀b∈H++(G2++Gk),b∈N∨b∈Gk:=fun b a=>by
  rcases qB.1 a with k|k
  ·exact qX (L b k)
  ·rcases qB.1 k with k|k
   ·exact qX (K b k)
   ·exact qY k
 have W:DS At w0 gd D' (Fm++((gx::jF (.slice A9 n9 c9))++((H++(G2++Gk))++E))) w9:=M.xJ api P (fun b a=>⟨qJ _ (qJ _ (qG _ (I b a))),F b (qJ _ (I b a))⟩) (fun b a=>by
  rcases qB.1 a with k|k
  ·exact qX (qJ _ (qG _ k))
  ·rcases qB.1 k with k|k
   ·rcases o b k with q|q
    ·exact qX (qJ _ (qJ _ (qG _ q)))
    ·exact qY q
   ·rcases qB.1 k with k|k
    ·rcases j b k with q|q
     ·exact qX (qG _ q)
     ·exact qX (qJ _ (qJ _ (qJ _ (qG _ q))))
    ·exact qX (qJ _ (qJ _ (qJ _ (qJ _ k)))))
 have ae:jV G2 w5 w9:=i.less (fun b a=>qG _ (K b a));have kH:jV H w5 w9:=i.less (fun b a=>qG _ (L b a));have af:jV Gk w w9:=(C.less (fun b a=>qJ _ (qJ _ (qG _ a)))).trans (i.less (fun b a=>qJ _ (qJ _ (qG _ a))));have ad:jV Fm w w9:=(C.less (fun b a=>qG _ a)).trans (i.less (fun b a=>qJ _ (qG _ a)));have ab:=(f.xK.keep af (fun b a=>a)).filter (fun t=>decide ((t.n:Int)∈R.flatten));have ac:=ab.snoc (t:=⟨n,l,t⟩) (hp.keep kH (fun b a=>a));refine⟨⟨Fm,gx::jF (.slice A9 n9 c9),H++(G2++Gk),W,⟨gm,_,_,cT ps S.T R.flatten++[gt],V,(Y.step ae).more (fun b a=>qJ _ (qG _ a)),aa,ac.more (fun b a=>?_),f.mem.keep ad (fun b a=>a),qD,fun b a=>qE _ a,f.low⟩,fun b a=>⟨fun d=>?_,fun d=>?_,(s b a).2.2⟩,fun b a=>⟨fun d=>?_,fun d=>?_⟩,fun b a d=>?_,fun b a=>?_⟩,(C.less (fun b a=>qJ _ (qJ _ (qJ _ a)))).trans (i.less (fun b a=>qJ _ (qJ _ (qJ _ a))))⟩
 ·rcases qB.1 a with k|k
  ·exact qG _ k
  ·exact qJ _ (qJ _ k)
 ·have:=g b (qG _ a);rcases o b d with q|q
  ·exact(s b a).1 q
  ·omega
 ·have:=g b (qG _ a);rcases j b d with q|q
  ·have:=y b q;omega
  ·exact(s b a).2.1 q
 ·rcases o b a with q|q
  ·have:=Q b q;rcases j b d with p|p
   ·have:=y b p;omega
   ·exact(u b q).1 p
  ·rcases j b d with p|p
   ·have:=O b (qG _ p);omega
   ·have:=g b (qJ _ (qJ _ (qG _ p)));omega
 ·rcases o b a with q|q
  ·exact(u b q).2 d
  ·have:=g b (qJ _ (qJ _ (qJ _ d)));omega
 ·rcases j b a with p|p
  ·have:=y b p;have:=g b (qJ _ (qJ _ (qJ _ d)));omega
  ·exact U b p d
 ·rcases qB.1 a with k|k
  ·exact F b (qG _ k)
  ·rcases o b k with q|q
   ·exact F b (qJ _ q)
   ·have:=J.kept.size;omega
end
end
end Go.Proofs.YtokbfellcadkpaaGreat
