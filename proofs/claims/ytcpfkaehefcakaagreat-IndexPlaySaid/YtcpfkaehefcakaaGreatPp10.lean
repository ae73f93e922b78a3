/- ZpMtMem, ZpMtAddAsk, ZpMtAsk, ZpLists, ZpMgTold, ZpMgMerge, ZpEntAskRef, ZpTbSame -/
import Derived.Test.YtcpfkaehefcakaaGreatPp08
import Derived.Test.YtcpfkaehefcakaaGreatPp07
import Derived.OpenShut
import Derived.BigQuiet
import Derived.Deep.LoopGhost
import Derived.WalkMore
import Derived.Deep.RegionHeld3
namespace Go.Proofs.YtcpfkaehefcakaaGreat
open Go.RowKit Go.Shelf
set_option linter.unusedVariables false
set_option maxRecDepth 100000
abbrev mtp (g:Nat) : Value:=.pointer (some ⟨g,0,none⟩)
def TabAt (w:World)(base g:Nat)(F:List Nat)(l:List EntS) : Prop :=
 ∃ v,Blok w g 133 #[mtp g,v]∧EntRow w base v l∧(∀ k,v.ownBlock=some k→k∈F)∧g∈F∧(∀ x∈F,base≤x∧x<w.heap.size)∧RiseE l∧∀ x∈l,EntOk x
def TabEnd (base g:Nat)(F:List Nat)(w:World)(r:Value)(l:List EntS)(e:Ending)(w':World) : Prop :=
 ∃ F',e = .returned r∧TabAt w' base g F' l∧(∀ x∈F',x∈F∨w.heap.size≤x)∧Touch F w w'
section
variable {w w' : World} {base g : Nat} {F G : List Nat} {l : List EntS}
theorem TabAt.touch (h:TabAt w base g F l)(ht:Touch G w w')(hG:∀ x∈F,x ∉ G) : TabAt w' base g F l:=by
 obtain⟨v,h1,h2,h3,h4,h5,h6,h7⟩:=h
 exact⟨v,h1.touch ht (hG g h4),own_touch h2 ht (fun b hb=>hG b (h3 b hb)),h3,h4,fun x hx=>⟨(h5 x hx).1,Nat.lt_of_lt_of_le (h5 x hx).2 ht.size⟩,h6,h7⟩
theorem TabAt.below (h:TabAt w base g F l)(hb:Below w.heap.size w w') : TabAt w' base g F l:=h.touch (Touch.of_below hb) (fun _ _=>by simp)
theorem TabAt.drewN (h:TabAt w base g F l)(n:Nat) : TabAt (w.drewN n) base g F l:=h.touch ((Touch.refl [] w).drewN n) (fun _ _=>by simp)
theorem TabAt.shape (h:TabAt w base g F l) : ∃ A c,w.cell? ⟨g,0,none⟩=some (mtp g)∧w.cell? ⟨g,1,none⟩=some (.slice A l.length c)∧w.frozen? ⟨g,1,none⟩=false∧EntRow w base (.slice A l.length c) l∧g<w.heap.size:=by
 obtain⟨v,h1,h2,h3,h4,h5,h6,h7⟩:=h
 obtain⟨A,c,rfl,-⟩:=own_form h2
 exact⟨A,c,h1.cell 0,h1.cell 1,h1.frozen 1,h2,h1.lt⟩
end
theorem info_tab : (Tryz.prog.info? 133).map (·.size)=some 2:=by kernel_rfl
theorem tsame_in (d:Nat)(p:Addr)(w:World) : (Op.equalIn (d+1) 65 (.pointer (some p)) (.pointer (some p))).run Tryz.prog w = .ok true w:=by
 cases hq:Tryz.prog.info? 133 with
 | none=>have:=info_tab;rw[hq] at this;cases this
 | some i =>
   have hi:i.size=2:=by have:=info_tab;rw[hq] at this;simpa using this
   simp[Op.equalIn,run_underlying Tryz.underlying65,sizeOf,typeInfo,hq,sameAddr]
theorem tsame_ptr (p:Addr)(w:World) : (binOp .neq 65 (.pointer (some p)) (.pointer (some p))).run Tryz.prog w = .ok (.bool false) w:=by
 have he:(Op.equal 65 (.pointer (some p)) (.pointer (some p))).run Tryz.prog w = .ok true w:=tsame_in 9999 p w
 simp only[binOp]
 simp[he]
set_option maxRecDepth 100000 in
theorem tnone_run {w:World}{g:Nat}(h:w.cell? ⟨g,0,none⟩=some (mtp g)) : Calls Tryz.prog 98 #[mtp g] w fun e w'=>e = .returned (.bool false)∧w=w':=by
 have hsp:=tsame_ptr ⟨g,0,none⟩
 go_enter Tryz.func98,Tryz.ntmps98
 go_wp2
 go_ret
 exact⟨rfl,rfl⟩
set_option maxRecDepth 100000 in
theorem laid_run {w:World}{g n c:Nat}{A:Option Addr}(h:w.cell? ⟨g,0,none⟩=some (mtp g))(h1:w.cell? ⟨g,1,none⟩=some (.slice A n c)) : Calls Tryz.prog 91 #[mtp g] w fun e w'=>e = .returned (.slice A n c)∧w=w':=by
 have hn:=Lib.hid (tnone_run h)
 go_enter Tryz.func91,Tryz.ntmps91
 go_wp2_with fail
 refine hn.out.mono ?_
 rintro e w' ⟨rfl,rfl⟩
 go_wp2
 go_ret
 exact⟨rfl,rfl⟩
set_option maxRecDepth 100000 in
theorem tlen_run {w:World}{g base:Nat}{F:List Nat}{l:List EntS}(h:TabAt w base g F l) : Calls Tryz.prog 41 #[mtp g] w fun e w'=>e = .returned (.int .i64 (l.length:Nat))∧w=w':=by
 obtain⟨A,c,c0,c1,-,-,-⟩:=h.shape
 have hn:=Lib.hid (laid_run c0 c1)
 clear h c0 c1
 generalize l.length=n at *
 go_enter Tryz.func41,Tryz.ntmps41
 go_wp2_with fail
 refine hn.out.mono ?_
 rintro e w' ⟨rfl,rfl⟩
 go_wp2
 go_ret
 exact⟨rfl,rfl⟩
def NewEnd (w:World)(e:Ending)(w':World) : Prop:=e = .returned (mtp w.heap.size)∧TabAt w' w.heap.size w.heap.size [w.heap.size] []∧Below w.heap.size w w'∧w.heap.size<w'.heap.size
set_option maxRecDepth 100000 in
theorem tnew_any (w:World) : Calls Tryz.prog 36 #[] w (NewEnd w):=by
 go_enter Tryz.func36,Tryz.ntmps36
 go_wp2
 go_ret
 have B1:Blok (w.alloc (.cells #[mtp w.heap.size,.slice none 0 0] 133)) w.heap.size 133 #[mtp w.heap.size,.slice none 0 0]:=Blok.new _ _ _
 have hb:=(Below.refl w.heap.size w).alloc (Nat.le_refl _) (.cells #[mtp w.heap.size,.slice none 0 0] 133)
 exact⟨rfl,⟨.slice none 0 0,B1,EntRow.nil _ _,fun k hk=>(by cases hk),by simp,fun x hx=>by obtain rfl:=List.mem_singleton.1 hx;exact⟨Nat.le_refl _,B1.lt⟩,List.Pairwise.nil,fun x hx=>by cases hx⟩,hb,B1.lt⟩
set_option maxRecDepth 100000 in
theorem tclear_run {w:World}{g base:Nat}{F:List Nat}{l:List EntS}(h:TabAt w base g F l) : Calls Tryz.prog 46 #[mtp g] w (TabEnd base g F w (.tuple #[]) []):=by
 have HH:=Lib.hid h
 obtain⟨A,c,c0,c1,f1,-,-⟩:=h.shape
 have hn:=Lib.hid (tnone_run c0)
 clear h
 go_enter Tryz.func46,Tryz.ntmps46
 go_wp2_with fail
 refine hn.out.mono ?_
 rintro e w' ⟨rfl,rfl⟩
 go_wp2
 go_end0
 obtain⟨v,h1,h2,h3,h4,h5,h6,h7⟩:=HH.out
 have B1:=h1.put 1 (.slice none 0 0)
 exact⟨F,rfl,⟨.slice none 0 0,B1,EntRow.nil _ _,fun k hk=>(by cases hk),h4,fun x hx=>⟨(h5 x hx).1,by simpa[World.setCell] using (h5 x hx).2⟩,List.Pairwise.nil,fun x hx=>by cases hx⟩,fun x hx=>Or.inl hx,(Touch.refl F w).setCell (p:=⟨g,1,none⟩) (Or.inl h4) _⟩
end Go.Proofs.YtcpfkaehefcakaaGreat
namespace Go.Proofs.YtcpfkaehefcakaaGreat
set_option maxRecDepth 100000
set_option linter.unusedVariables false
section
open Go.RowKit Go.Shelf
theorem aq_enters : Enters Tryz.prog 111:=enters_of Tryz.func111 (by kernel_rfl) rfl
def AskAt (W:World)(B1 B2 g b p:Nat)(v:Value)(x y:EntS) : Prop:=W.cell? ⟨B1,0,none⟩=some (mtp g)∧W.cell? ⟨g,1,none⟩=some v ∧
 W.cell? ⟨B2,0,none⟩=some (.int .u64 (x.h:Nat))∧W.cell? ⟨B2,1,none⟩=some (.int .i64 x.v)∧W.cell? ⟨B2,2,none⟩=some (.int .i64 x.p) ∧
 W.cell? ⟨b,p,none⟩=some (.int .u64 (y.h:Nat))∧W.cell? ⟨b,p+1,none⟩=some (.int .i64 y.v)∧W.cell? ⟨b,p+2,none⟩=some (.int .i64 y.p)
theorem AskAt.below {W W':World}{B1 B2 g b p:Nat}{v:Value}{x y:EntS}(h:AskAt W B1 B2 g b p v x y)(hb:Below W.heap.size W W') : AskAt W' B1 B2 g b p v x y:=by
 have q:∀ {p:Addr} {u:Value},W.cell? p=some u→W'.cell? p=some u:=fun {p u} k=>(hb.cell (p:=p) (World.block_lt_of_cell? W _ k)).trans k
 obtain⟨h1,h2,h3,h4,h5,h6,h7,h8⟩:=h
 exact⟨q h1,q h2,q h3,q h4,q h5,q h6,q h7,q h8⟩
set_option maxHeartbeats 1000000 in
set_option maxRecDepth 100000 in
theorem addq_any (B1 B2 g b off n c i:Nat)(x y:EntS)(w:World)(hi:i<n)(hn:n≤1000000)(hA:AskAt w B1 B2 g b (off+i*3) (.slice (some ⟨b,off,none⟩) n c) x y) :
  Calls Tryz.prog 111 #[.int .i64 (i:Nat),mtp B1,mtp B2] w fun e w'=>e = .returned (.bool (!lessE y x))∧Below w.heap.size w w':=by
 have HS:Hid (∀ W,Below w.heap.size w W→Below w.heap.size w W∧AskAt W B1 B2 g b (off+i*3) (.slice (some ⟨b,off,none⟩) n c) x y):=Lib.hid fun W hW=>⟨hW,hA.below hW⟩
 have HL:=fun W=>eless_any y x W
 have s0:=HS.out w (Below.refl _ _)
 have s1:(i:Int)<(n:Int):=by omega
 have s2:(n:Int)≤1000000:=by omega
 clear hA
 generalize lessE y x=r at *
 have HLL:=Lib.hid HL
 clear HL
 obtain⟨xh,xv,xp⟩:=x
 obtain⟨yh,yv,yp⟩:=y
 unfold AskAt at HS s0
 simp only at HS s0
 obtain⟨-,c0,c1,c2,c3,c4,c5,c6,c7⟩:=s0
 go_enter Tryz.func111,Tryz.ntmps111
 go_wp2_with fail
 go_region_held3 (fun W=>Below w.heap.size w W∧W.cell? ⟨B1,0,none⟩=some (mtp g)∧W.cell? ⟨g,1,none⟩=some (.slice (some ⟨b,off,none⟩) n c) ∧
  W.cell? ⟨B2,0,none⟩=some (.int .u64 (xh:Nat))∧W.cell? ⟨B2,1,none⟩=some (.int .i64 xv)∧W.cell? ⟨B2,2,none⟩=some (.int .i64 xp) ∧
  W.cell? ⟨b,off+i*3,none⟩=some (.int .u64 (yh:Nat))∧W.cell? ⟨b,off+i*3+1,none⟩=some (.int .i64 yv)∧W.cell? ⟨b,off+i*3+2,none⟩=some (.int .i64 yp))
  (first | (with_reducible assumption) | ((with_reducible refine HS.out _ ?_);(first | (with_reducible assumption) | (with_reducible exact Below.refl _ _) | (with_reducible exact(Below.refl _ _).drew) | exact(bj (And.left (by with_reducible assumption)) ‹Below _ _ _›));done) | fail)
  (first
  | (go_at_call 112;((with_reducible refine(HLL.out _).mono ?_);rintro e w3 ⟨rfl,hb3⟩;have hB3:Below w.heap.size w w3:=bj (And.left (by with_reducible assumption)) hb3))
  | fail)
 all_goals
  go_wp2
  go_ret
  exact⟨rfl,hB3⟩
structure Has (w:World)(p:Value)(l:List EntS) : Prop where
 laid:∃ v,EntsIn w v l∧∀ W,Below w.heap.size w W→Calls Tryz.prog 91 #[p] W fun e w'=>e = .returned v∧W=w'
 rise:RiseE l
 ok:∀ x∈l,EntOk x
theorem TabAt.has {w:World}{base g:Nat}{F:List Nat}{l:List EntS}(h:TabAt w base g F l) : Has w (mtp g) l:=by
 obtain⟨A,c,c0,c1,-,hrow,-⟩:=h.shape
 obtain⟨v,h1,h2,h3,h4,h5,h6,h7⟩:=h
 have q:∀ {p:Addr} {u:Value} {W:World},w.cell? p=some u→Below w.heap.size w W→W.cell? p=some u:=fun {p u W} k hW=>(hW.cell (p:=p) (World.block_lt_of_cell? w _ k)).trans k
 exact⟨⟨_,EntRow.in_ hrow,fun W hW=>laid_run (q c0 hW) (q c1 hW)⟩,h6,h7⟩
set_option maxRecDepth 100000 in
theorem trange_run {w:World}{p:Value}{l:List EntS}(h:Has w p l)(hn:l.length≤500000)(k:Nat)(a b:Int) :
  Calls Tryz.prog 57 #[p,.int .u64 (k:Nat),.int .i64 a,.int .i64 b] w (EntsOut w (rangeE l k a b)):=by
 obtain⟨⟨v,hv,hl⟩,hr,hok⟩:=h
 have H1:=Lib.hid (hl w (Below.refl _ _))
 have H2:=Lib.hid (range_any v l k a b w hv hn hok hr)
 clear hl hv hr hok
 generalize rangeE l k a b=R at *
 go_enter Tryz.func57,Tryz.ntmps57
 go_wp2_with fail
 refine H1.out.mono ?_
 rintro e w' ⟨rfl,rfl⟩
 go_wp2_with fail
 refine H2.out.mono ?_
 rintro e w' ⟨A,c,rfl,hrow,hb⟩
 have HR:=Lib.hid hrow
 clear hrow
 go_wp2
 go_ret
 exact⟨A,c,rfl,HR.out,hb⟩
set_option maxRecDepth 100000 in
theorem tdump_run {w:World}{p:Value}{l:List EntS}(h:Has w p l)(hn:l.length≤500000) :
  Calls Tryz.prog 43 #[p] w (EntsOut w l):=by
 obtain⟨⟨v,hv,hl⟩,hr,hok⟩:=h
 have H1:=Lib.hid (hl w (Below.refl _ _))
 have H2:=Lib.hid (eclone_any v l w hv hn)
 obtain⟨n,hnn⟩:∃ n,n=l.length:=⟨_,rfl⟩
 have HN:=Lib.hid hnn
 unfold EntsOut at H2
 rw[← hnn] at H2
 clear hl hv hr hok hn hnn
 go_enter Tryz.func43,Tryz.ntmps43
 go_wp2_with fail
 refine H1.out.mono ?_
 rintro e w' ⟨rfl,rfl⟩
 go_wp2_with fail
 refine H2.out.mono ?_
 rintro e w' ⟨A,c,rfl,hrow,hb⟩
 have HR:=Lib.hid hrow
 clear hrow
 go_wp2
 go_ret
 exact⟨A,c,by rw[← HN.out];rfl,by rw[← HN.out];exact HR.out,hb⟩
def LastEnd (w:World)(x:EntS)(b:Bool)(e:Ending)(w':World) : Prop:=e = .returned (.tuple #[entB x,.bool b])∧Below w.heap.size w w'
set_option maxRecDepth 100000 in
theorem tlast_run {w:World}{p:Value}{l:List EntS}(h:Has w p l)(hn:l.length≤500000)(k:Nat)(n:Int) :
  Calls Tryz.prog 60 #[p,.int .u64 (k:Nat),.int .i64 n] w (LastEnd w (lastE l k n) (lastOk l k n)):=by
 obtain⟨⟨v,hv,hl⟩,hr,hok⟩:=h
 have E0:EnAt (w.alloc (.cells #[.int .u64 ((0:Nat):Int),.int .i64 0,.int .i64 0] 44)) w.heap.size 0 0 0:=Blok.new _ _ _
 have hb:=(Below.refl w.heap.size w).alloc (Nat.le_refl _) (.cells #[.int .u64 ((0:Nat):Int),.int .i64 0,.int .i64 0] 44)
 obtain⟨w1,hw1⟩:∃ w1,w.alloc (.cells #[.int .u64 ((0:Nat):Int),.int .i64 0,.int .i64 0] 44)=w1:=⟨_,rfl⟩
 rw[hw1] at E0 hb
 have hw1':w.alloc (.cells #[.int .u64 0,.int .i64 0,.int .i64 0] 44)=w1:=hw1
 clear hw1
 have H1:=Lib.hid (hl w1 hb)
 have H2:=Lib.hid (last_any v l k n w1 (hv.below hb (Nat.le_refl _)) (by omega) hok hr)
 clear hl hv hr hok hn
 generalize lastE l k n=x at *
 generalize lastOk l k n=o at *
 obtain⟨xh,xv,xp⟩:=x
 go_enter Tryz.func60,Tryz.ntmps60
 go_wp2_with fail
 refine H1.out.mono ?_
 rintro e w' ⟨rfl,rfl⟩
 go_wp2_with fail
 refine H2.out.mono ?_
 rintro e w2 ⟨rfl,hb2⟩
 have E2:EnAt w2 w.heap.size 0 0 0:=Blok.below E0 hb2
 have hb3:=bj hb hb2
 clear E0 hb hb2 H2 H1
 obtain⟨k0,k1,k2,f0,f1,f2⟩:=E2.facts
 go_wp2
 exact bodyPost_ret (v:=.tuple #[entB ⟨xh,xv,xp⟩,.bool o]) (by simp[results,Tryz.results60,go_sem,k0,k1,k2]) rfl ⟨rfl,low3 hb3 (Nat.le_refl _) _ _ _⟩
end
section
open Go.ChangeShapes Go.WideShapes Go.ChangeAt Go.RowKit Go.Deep
structure LstS where
 v:Value
 l:List EntS
abbrev els (L:List LstS) : List (List EntS):=L.map LstS.l
abbrev vals (L:List LstS) : List Value:=L.map LstS.v
def Each (w:World)(L:List LstS) : Prop:=∀ x∈L,EntsIn w x.v x.l
def ListsAt (w:World)(v:Value)(L:List LstS) : Prop :=
 (L=[]∧∃ a c,v = .slice a 0 c)∨∃ b off cap,v = .slice (some ⟨b,off,none⟩) L.length cap∧L.length≤cap∧cap≤maxLen∧b<w.heap.size∧∀ i x,L[i]? = some x→w.cell? ⟨b,off+i,none⟩=some x.v
def ListsIn (w:World)(v:Value)(L:List LstS) : Prop:=ListsAt w v L∧Each w L
theorem ListsAt.below {w w':World}{v:Value}{L:List LstS}{B:Nat}(h:ListsAt w v L)(hb:Below B w w')(hB:w.heap.size≤B) : ListsAt w' v L:=by
 rcases h with h | ⟨b,off,cap,hv,hl,hm,hlt,hc⟩
 ·exact Or.inl h
 ·exact Or.inr ⟨b,off,cap,hv,hl,hm,Nat.lt_of_lt_of_le hlt hb.size,fun i x hx=>(hb.cell (p:=⟨b,off+i,none⟩) (Nat.lt_of_lt_of_le hlt hB)).trans (hc i x hx)⟩
theorem ListsAt.form {w:World}{v:Value}{L:List LstS}(h:ListsAt w v L) : ∃ A off cap,v = .slice A L.length cap∧L.length≤maxLen ∧
  ∀ i x,L[i]? = some x→∃ b,A=some ⟨b,off,none⟩∧b<w.heap.size∧w.cell? ⟨b,off+i,none⟩=some x.v:=by
 rcases h with⟨rfl,a,c,rfl⟩ | ⟨b,off,cap,rfl,h2,h3,h4,h5⟩
 ·exact⟨a,0,c,rfl,Nat.zero_le _,fun i x h=>by simp at h⟩
 ·exact⟨some ⟨b,off,none⟩,off,cap,rfl,by omega,fun i x hx=>⟨b,rfl,h4,h5 i x hx⟩⟩
theorem Each.one {w:World}{L:List LstS}(h:Each w L) : ∀ u∈vals L,u.oneCell'=true:=by
 intro u hu
 obtain⟨x,hx,rfl⟩:=List.mem_map.1 hu
 obtain⟨A,off,cap,e,-,-⟩:=(h x hx).form
 rw[e]
 rfl
abbrev LRow (w:World)(base:Nat)(v:Value)(L:List LstS) : Prop:=w.ownsRow base 40 1 v L.length (vals L)
theorem LRow.nil (w:World)(base:Nat) : LRow w base (.slice none 0 0) []:=World.ownsRow_nil _ _ _ _
theorem LRow.at_ {w:World}{base:Nat}{v:Value}{L:List LstS}(h:LRow w base v L) : ListsAt w v L:=by
 have h':=h
 rcases h.2 with⟨hv,h0⟩ | ⟨g,cap,cur,hv,hg,hh,hn,hm,hsz,ht⟩
 ·exact Or.inl ⟨List.length_eq_zero_iff.1 h0,none,0,hv⟩
 ·refine Or.inr ⟨g,0,cap,hv,hn,hm,(Array.getElem?_eq_some_iff.1 hh).1,fun i x hx=>?_⟩
  have hi:i<L.length:=(List.getElem?_eq_some_iff.1 hx).1
  rw[hv] at h'
  rw[Nat.zero_add]
  refine(h'.cellAt i (by omega)).trans ?_
  show(L.map LstS.v)[i]? = _
  rw[List.getElem?_map,hx]
  rfl
theorem LRow.in_ {w:World}{base:Nat}{v:Value}{L:List LstS}(h:LRow w base v L)(he:Each w L) : ListsIn w v L:=⟨h.at_,he⟩
theorem LRow.below {w w':World}{base B:Nat}{v:Value}{L:List LstS}(h:LRow w base v L)(hb:Below B w w')(hB:w.heap.size≤B) : LRow w' base v L:=by
 refine⟨h.1, ?_⟩
 rcases h.2 with h0 | ⟨g,cap,cur,hv,hg,hh,r⟩
 ·exact Or.inl h0
 ·obtain⟨hlt,_⟩:=Array.getElem?_eq_some_iff.1 hh
  exact Or.inr ⟨g,cap,cur,hv,hg,(hb.block g (Nat.lt_of_lt_of_le hlt hB)).trans hh,r⟩
theorem LRow.some_ {w:World}{base n c:Nat}{A:Option Addr}{L:List LstS}(h:LRow w base (.slice A n c) L)(hn:0<L.length) : ∃ g,A=some ⟨g,0,none⟩∧base≤g∧g<w.heap.size∧n=L.length:=by
 rcases h.2 with⟨hv,h0⟩ | ⟨g,cap,cur,hv,hg,hh,_⟩
 ·omega
 ·obtain⟨rfl,rfl,-⟩:=Value.slice.inj hv
  exact⟨g,rfl,hg,(Array.getElem?_eq_some_iff.1 hh).1,rfl⟩
theorem LRow.cell {w:World}{base g n c i:Nat}{L:List LstS}{x:LstS}(h:LRow w base (.slice (some ⟨g,0,none⟩) n c) L)(hn:n=L.length)(hx:L[i]? = some x) : w.cell? ⟨g,i,none⟩=some x.v∧w.frozen? ⟨g,i,none⟩=false:=by
 subst hn
 have hi:i<L.length:=(List.getElem?_eq_some_iff.1 hx).1
 refine⟨(h.cellAt i (by omega)).trans ?_,h.frozenAt i⟩
 show(L.map LstS.v)[i]? = _
 rw[List.getElem?_map,hx]
 rfl
theorem LRow.put {w:World}{base g n c i:Nat}{L:List LstS}(h:LRow w base (.slice (some ⟨g,0,none⟩) n c) L)(hn:n=L.length)(x:LstS) : LRow (w.setCell ⟨g,i,none⟩ x.v) base (.slice (some ⟨g,0,none⟩) n c) (L.set i x):=by
 subst hn
 have h1:=(h.stored i x.v).1
 unfold LRow vals
 rw[List.length_set,List.map_set]
 exact h1
theorem info_lst : (Tryz.prog.info? 40).map (fun i=>(i.zero,i.size,i.bytes))=some (some (.slice none 0 0),1,24):=by kernel_rfl
theorem ListsAt.src {w:World}{v:Value}{L:List LstS}(h:ListsAt w v L) : SrcAt w 1 v L.length (vals L):=by
 refine⟨by unfold vals;rw[List.length_map,Nat.mul_one], ?_⟩
 rcases h with⟨rfl,a,c,rfl⟩ | ⟨b,off,cap,rfl,h2,h3,h4,h5⟩
 ·cases a with
  | none=>exact Or.inl ⟨c,rfl,rfl⟩
  | some a=>exact Or.inr ⟨a,c,rfl,fun j u hu=>by cases hu⟩
 ·refine Or.inr ⟨⟨b,off,none⟩,cap,rfl,fun j u hu=>?_⟩
  unfold vals at hu
  rw[List.getElem?_map] at hu
  obtain⟨x,hx,rfl⟩:=Option.map_eq_some_iff.1 hu
  have ea:(⟨b,off,none⟩:Addr).add j=⟨b,off+j,none⟩:=by unfold Addr.add;split<;>simp_all
  rw[ea]
  exact h5 j x hx
theorem lst_one (w:World)(x:LstS) : ListsAt (w.alloc (.cells #[x.v] 40)) (.slice (some ⟨w.heap.size,0,none⟩) 1 1) [x]:=by
 refine Or.inr ⟨w.heap.size,0,1,rfl,Nat.le_refl _,by unfold maxLen;omega,by simp,fun i y hy=>?_⟩
 match i,hy with
 | 0,hy =>
   obtain rfl:x=y:=by simpa using hy
   simp
theorem lists_append {w:World}{base:Nat}{vs vx:Value}{L M:List LstS}(hown:LRow w base vs L)(hsrc:ListsAt w vx M)(h1:∀ u∈vals M,u.oneCell'=true)(hl:L.length+M.length≤1000000)(hb:base≤w.heap.size)(ty:TypeId) :
  ∃ A c w',(Builtin.append_ #[101,101] ty #[vs,vx]).run Tryz.prog w = .ok (.slice A (L.length+M.length) c) w'∧LRow w' base (.slice A (L.length+M.length) c) (L++M)∧w.grownBy w' vs.ownBlock∧((Value.slice A (L.length+M.length) c).ownBlock=vs.ownBlock∨(Value.slice A (L.length+M.length) c).ownBlock=some w.heap.size):=by
 obtain⟨i0,hi,hz0,hz1,hz2⟩:=info_parts info_lst
 obtain⟨v',w',e1,e2,e3,e4⟩:=run_append_src (P:=Tryz.prog) w base 101 40 i0 _ 1 24 ty Tryz.underlying101 hi hz0 hz1 hz2 rfl (by decide) vs L.length (vals L) hown vx M.length (vals M) hsrc.src h1 (by unfold maxLen;omega) (by omega) hb
 obtain⟨A,c,rfl,-,-,-⟩:=own_form e2
 refine⟨A,c,w',e1, ?_,e3,e4⟩
 unfold LRow vals
 rw[List.map_append,List.length_append]
 exact e2
theorem lst_ne : (40:TypeId)≠44:=by decide
theorem LRow.grown {w w':World}{base base':Nat}{u v:Value}{L:List LstS}{l:List EntS}(h:LRow w base v L)(hr:EntRow w base' u l)(hg:w.grownBy w' u.ownBlock) : LRow w' base v L :=
 own_touch h (F:=u.ownBlock.toList) (Touch.grown (Touch.refl _ w) hg (fun k hk=>Or.inl (by rw[hk];simp))) (fun b hb hm=>own_own_ne hr h lst_ne.symm b hb (by simpa using hm))
theorem EntRow.grown_l {w w':World}{base base':Nat}{u v:Value}{L:List LstS}{l:List EntS}(h:EntRow w base v l)(hr:LRow w base' u L)(hg:w.grownBy w' u.ownBlock) : EntRow w' base v l :=
 own_touch h (F:=u.ownBlock.toList) (Touch.grown (Touch.refl _ w) hg (fun k hk=>Or.inl (by rw[hk];simp))) (fun b hb hm=>own_own_ne hr h lst_ne b hb (by simpa using hm))
theorem EntRow.far_l {w:World}{base base' g n c i:Nat}{v x:Value}{L:List LstS}{l:List EntS}(h:EntRow w base v l)(hr:LRow w base' (.slice (some ⟨g,0,none⟩) n c) L) : EntRow (w.setCell ⟨g,i,none⟩ x) base v l :=
 own_far h (fun hb=>own_own_ne hr h lst_ne g hb rfl) x
theorem LRow.alloc {w:World}{base:Nat}{v:Value}{L:List LstS}(h:LRow w base v L)(o:Obj) : LRow (w.alloc o) base v L:=LRow.below h ((Below.refl w.heap.size w).alloc (Nat.le_refl _) o) (Nat.le_refl _)
def ListsOut (w:World)(L:List LstS)(e:Ending)(w':World) : Prop:=∃ A c,e = .returned (.slice A L.length c)∧LRow w' w.heap.size (.slice A L.length c) L∧Below w.heap.size w w'
theorem lists_isnil (A:Option Addr)(n c:Nat)(w:World) : (binOp .eql 101 (.slice A n c) (.slice none 0 0)).run Tryz.prog w = .ok (.bool A.isNone) w:=by
 have he:=run_equal_slice_nil (P:=Tryz.prog) w 101 40 A n c Tryz.underlying101
 simp only[binOp]
 simp[he]
theorem lclone_any (v:Value)(L:List LstS)(w:World)(h:ListsIn w v L)(hl:L.length≤500000) : Calls Tryz.prog 119 #[v] w (ListsOut w L):=by
 obtain⟨A,off,cap,rfl,-,-⟩:=h.1.form
 cases A with
 | none =>
   have hn:L=[]:=by
    rcases h.1 with⟨e,_⟩ | ⟨b,off',cap',e,_⟩
    ·exact e
    ·cases e
   subst hn
   have hq:=fun W=>lists_isnil none 0 cap W
   clear h hl
   go_enter Tryz.func119,Tryz.ntmps119
   go_wp2
   go_ret
   exact⟨none,0,rfl,LRow.nil _ _,Below.refl _ _⟩
 | some a =>
   have hb:=(Below.refl w.heap.size w).alloc (Nat.le_refl _) (.cells #[] 40)
   have hown:LRow (w.alloc (.cells #[] 40)) w.heap.size (.slice (some ⟨w.heap.size,0,none⟩) 0 0) []:=World.ownsRow_made w #[] 0 (Nat.le_refl _) (Nat.zero_le _) rfl
   have h1:=h.1.below hb (Nat.le_refl _)
   obtain⟨A',c',w',e1,e2,e3,e4⟩:=lists_append hown h1 h.2.one (by simp;omega) (by simp) 101
   have hT:=hb.trans (grown_below e3 (B:=w.heap.size) (by simp) (fun k hk=>by simp[Value.ownBlock] at hk;omega))
   have HT:=Lib.hid hT
   rw[List.nil_append] at e2
   have hz:([]:List LstS).length+L.length=L.length:=by simp
   rw[hz] at e1 e2
   have HK:=Lib.hid e2
   clear h hl hb hown h1 e2 e3 e4 hT hz
   unfold ListsOut
   obtain⟨m,hm⟩:∃ m,m=L.length:=⟨_,rfl⟩
   have HM:=Lib.hid hm
   rw[← hm] at e1 HK ⊢
   clear hm
   have HE:=Lib.hid e1
   have hq:=fun W=>lists_isnil (some a) m cap W
   clear e1
   go_enter Tryz.func119,Tryz.ntmps119
   go_wp2_with (first | (at_builtin;refine wpList_append_two rfl _ _ rfl rfl rfl HE.out ?_) | fail)
   go_ret
   exact⟨A',c',rfl,HK.out,HT.out⟩
end
section
open Go.RowKit Go.Shelf
theorem glast_at {l:List EntS}{n:Nat}(h:l.length=n+1) : l.getLast? = l[n]? := by rw[List.getLast?_eq_getElem?,h,Nat.add_sub_cancel]
set_option maxHeartbeats 1000000 in
theorem told_any (v:Value)(l:List EntS)(x:EntS)(w:World)(h:EntsIn w v l)(hn:l.length≤1000000) :
  Calls Tryz.prog 120 #[v,entB x] w fun e w'=>e = .returned (.bool (decide (l.getLast? = some x)))∧Below w.heap.size w w':=by
 obtain⟨A,off,cap,rfl,-,hcell⟩:=h.form
 obtain⟨xh,xv,xp⟩:=x
 have hb:=(Below.refl w.heap.size w).alloc (Nat.le_refl _) (.cells #[.int .u64 (xh:Nat),.int .i64 xv,.int .i64 xp] 44)
 have k0:(w.alloc (.cells #[.int .u64 (xh:Nat),.int .i64 xv,.int .i64 xp] 44)).cell? ⟨w.heap.size,0,none⟩=some (.int .u64 (xh:Nat)):=World.cell?_alloc_at _ _ _ _ rfl
 have k1:(w.alloc (.cells #[.int .u64 (xh:Nat),.int .i64 xv,.int .i64 xp] 44)).cell? ⟨w.heap.size,1,none⟩=some (.int .i64 xv):=World.cell?_alloc_at _ _ _ _ rfl
 have k2:(w.alloc (.cells #[.int .u64 (xh:Nat),.int .i64 xv,.int .i64 xp] 44)).cell? ⟨w.heap.size,2,none⟩=some (.int .i64 xp):=World.cell?_alloc_at _ _ _ _ rfl
 by_cases h0:l=[]
 ·subst h0
  have e:decide (([]:List EntS).getLast? = some ⟨xh,xv,xp⟩)=false:=decide_eq_false (by simp)
  rw[e]
  clear h hcell hn e
  simp only[List.length_nil]
  go_enter Tryz.func120,Tryz.ntmps120
  obtain⟨w1,hw1⟩:∃ w1,w.alloc (.cells #[.int .u64 (xh:Nat),.int .i64 xv,.int .i64 xp] 44)=w1:=⟨_,rfl⟩
  rw[hw1] at hb k0 k1 k2
  go_wp2
  go_quiet (fail)
  go_wp2
  go_ret
  exact⟨rfl,below_drewN hb _⟩
 ·obtain⟨m,hm⟩:∃ m,l.length=m+1:=⟨l.length-1,by have:=List.length_pos_iff.2 h0;omega⟩
  obtain⟨y,hy⟩:∃ y,l[m]? = some y:=⟨_,List.getElem?_eq_getElem (by omega)⟩
  have e:decide (l.getLast? = some ⟨xh,xv,xp⟩)=decide (y=⟨xh,xv,xp⟩):=by rw[glast_at hm,hy];exact decide_eq_decide.2 ⟨Option.some.inj,congrArg some⟩
  rw[e]
  obtain⟨b,rfl,hbk,d0,d1,d2⟩:=hcell m y hy
  have c0:=(hb.cell (p:=⟨b,off+m*3,none⟩) hbk).trans d0
  have c1:=(hb.cell (p:=⟨b,off+m*3+1,none⟩) hbk).trans d1
  have c2:=(hb.cell (p:=⟨b,off+m*3+2,none⟩) hbk).trans d2
  have heq:=fun W=>ent_eql y ⟨xh,xv,xp⟩ W
  obtain⟨k,hk⟩:∃ k,k=l.length:=⟨_,rfl⟩
  have hkm:k=m+1:=hk.trans hm
  rw[← hk]
  have q1:(k:Int)-1=(m:Int):=by omega
  have q2:decide ((0:Int)<(k:Int))=true:=decide_eq_true (by omega)
  have q5:decide (0<k)=true:=decide_eq_true (by omega)
  have q6:(0:Int)<(k:Int):=by omega
  have q7:0<k:=by omega
  have q3:IntKind.i64.wrap ((m:Nat):Int)=(m:Nat):=IntWalk.i64_in _ ⟨by omega,by omega⟩
  have q4:(m:Int)<(k:Int):=by omega
  clear h hcell hn e hm hy hbk d0 d1 d2 hkm hk h0
  generalize decide (y=(⟨xh,xv,xp⟩:EntS))=q at *
  obtain⟨yh,yv,yp⟩:=y
  simp only at c0 c1 c2 heq
  go_enter Tryz.func120,Tryz.ntmps120
  obtain⟨w1,hw1⟩:∃ w1,w.alloc (.cells #[.int .u64 (xh:Nat),.int .i64 xv,.int .i64 xp] 44)=w1:=⟨_,rfl⟩
  rw[hw1] at hb k0 k1 k2 c0 c1 c2
  go_wp2
  go_quiet (fail)
  go_wp2
  go_ret
  exact⟨rfl,below_drewN hb _⟩
def MinAt (L:List (List EntS))(k:Nat)(d:Int) : Prop:=(d<0∧-1≤d∧minL (L.take k)=none)∨∃ (j:Nat) (x:EntS) (t:List EntS),d=(j:Nat)∧j<k∧L[j]? = some (x::t)∧minL (L.take k)=some x
theorem minAt_zero (L:List (List EntS)) : MinAt L 0 (-1):=Or.inl ⟨by omega,by omega,rfl⟩
theorem minAt_empty {L:List (List EntS)}{k:Nat}{d:Int}(h:L[k]? = some [])(hm:MinAt L k d) : MinAt L (k+1) d:=by
 unfold MinAt at *
 rw[minL_take h]
 rcases hm with⟨h1,h2,h3⟩ | ⟨j,x,t,h1,h2,h3,h4⟩
 ·exact Or.inl ⟨h1,h2,by rw[h3];rfl⟩
 ·exact Or.inr ⟨j,x,t,h1,by omega,h3,by rw[h4];rfl⟩
theorem minAt_first {L:List (List EntS)}{k:Nat}{d:Int}{x:EntS}{t:List EntS}(h:L[k]? = some (x::t))(hm:MinAt L k d)(hd:d<0) : MinAt L (k+1) (k:Nat):=by
 unfold MinAt at *
 rw[minL_take h]
 rcases hm with⟨h1,h2,h3⟩ | ⟨j,y,u,h1,h2,h3,h4⟩
 ·exact Or.inr ⟨k,x,t,rfl,Nat.lt_succ_self _,h,by rw[h3];rfl⟩
 ·omega
theorem minAt_other {L:List (List EntS)}{k j:Nat}{x y:EntS}{t u:List EntS}(h:L[k]? = some (x::t))(hm:MinAt L k (j:Nat))(hj:L[j]? = some (y::u)) : MinAt L (k+1) (if lessE x y=true then(k:Nat) else(j:Nat)):=by
 unfold MinAt at *
 rw[minL_take h]
 rcases hm with⟨h1,h2,h3⟩ | ⟨i,z,v,h1,h2,h3,h4⟩
 ·omega
 ·obtain rfl:j=i:=by omega
  rw[hj] at h3
  obtain⟨rfl,rfl⟩:=List.cons.inj (Option.some.inj h3)
  rw[h4]
  split
  ·rename_i hl
   exact Or.inr ⟨k,x,t,rfl,Nat.lt_succ_self _,h,if_pos hl⟩
  ·rename_i hl
   exact Or.inr ⟨j,y,u,rfl,by omega,hj,if_neg hl⟩
def NoLast (T:List EntS)(L:List (List EntS))(k:Nat) : Prop:=∀ (i:Nat) (x:EntS) (t:List EntS),i<k→L[i]? = some (x::t)→T.getLast?≠some x
theorem noLast_zero (T:List EntS)(L:List (List EntS)) : NoLast T L 0:=fun i x t h=>absurd h (Nat.not_lt_zero _)
theorem noLast_empty {T:List EntS}{L:List (List EntS)}{k:Nat}(h:L[k]? = some [])(hn:NoLast T L k) : NoLast T L (k+1):=fun i x t hi hx=>by
 rcases Nat.lt_or_ge i k with c | c
 ·exact hn i x t c hx
 ·obtain rfl:i=k:=by omega
  rw[h] at hx
  cases hx
theorem noLast_more {T:List EntS}{L:List (List EntS)}{k:Nat}{x:EntS}{t:List EntS}(h:L[k]? = some (x::t))(hx:T.getLast?≠some x)(hn:NoLast T L k) : NoLast T L (k+1):=fun i y u hi hy=>by
 rcases Nat.lt_or_ge i k with c | c
 ·exact hn i y u c hy
 ·obtain rfl:i=k:=by omega
  rw[h] at hy
  obtain⟨rfl,rfl⟩:=List.cons.inj (Option.some.inj hy)
  exact hx
theorem noLast_all {T:List EntS}{L:List (List EntS)}(hn:NoLast T L L.length) : ∀ l∈L,∀ x t,l=x::t→T.getLast?≠some x:=fun l hl x t ht=>by
 obtain⟨i,hi⟩:=List.getElem?_of_mem hl
 have:=(List.getElem?_eq_some_iff.1 hi).1
 subst ht
 exact hn i x t this hi
theorem minAt_all {L:List (List EntS)}{d:Int}(h:MinAt L L.length d) : (d<0∧-1≤d∧minL L=none)∨∃ (j:Nat) (x:EntS) (t:List EntS),d=(j:Nat)∧j<L.length∧L[j]? = some (x::t)∧minL L=some x:=by
 unfold MinAt at h
 rw[List.take_length] at h
 exact h
theorem els_at {L:List LstS}{k:Nat}{y:LstS}(h:L[k]? = some y) : (els L)[k]? = some y.l:=by unfold els;rw[List.getElem?_map,h];rfl
theorem els_length (L:List LstS) : (els L).length=L.length:=List.length_map _
theorem els_set (L:List LstS)(i:Nat)(x:LstS) : els (L.set i x)=(els L).set i x.l:=List.map_set
theorem Each.set {w:World}{L:List LstS}(h:Each w L){i:Nat}{x:LstS}(hx:EntsIn w x.v x.l) : Each w (L.set i x):=fun y hy=>by
 rcases List.mem_or_eq_of_mem_set hy with hy | rfl
 ·exact h y hy
 ·exact hx
def MgAt (w:World)(A1:Option Addr)(n c1:Nat)(R:List EntS)(g:Nat)(u:Value)(wr:World) : Prop:=∃ (T:List EntS) (Lc:List LstS) (A:Option Addr) (c:Nat),u = .slice A T.length c ∧
 EntRow wr w.heap.size (.slice A T.length c) T∧LRow wr w.heap.size (.slice A1 n c1) Lc∧Lc.length=n∧Each w Lc∧Goes g T (els Lc)∧finL T (els Lc)=R∧Below w.heap.size w wr
theorem MgAt.start {w w1:World}{A1:Option Addr}{c1:Nat}{L:List LstS}(h:LRow w1 w.heap.size (.slice A1 L.length c1) L)(he:Each w L)(hb:Below w.heap.size w w1) : MgAt w A1 L.length c1 (mergeE (els L)) (2*totL (els L)+1) (.slice none 0 0) w1 :=
 ⟨[],L,none,0,rfl,EntRow.nil _ _,h,rfl,he,goes_start _,rfl,hb⟩
theorem MgAt.drop {w w2:World}{n c1 c2 g go k tl c':Nat}{A2 B':Option Addr}{R T:List EntS}{Lc:List LstS}{x:EntS}{t:List EntS}
  (hT:EntRow w2 w.heap.size (.slice A2 T.length c2) T) (hr:LRow w2 w.heap.size (.slice (some ⟨g,0,none⟩) n c1) Lc) (hlen:Lc.length=n) (he:Each w Lc) (hgo:Goes go T (els Lc)) (hfin:finL T (els Lc)=R) (hb:Below w.heap.size w w2)
  (htl:tl=T.length) (hg:w.heap.size≤g) (hx:(els Lc)[k]? = some (x::t)) (hq:T.getLast? = some x) (hp:EntsIn w (.slice B' t.length c') t) :
  0<go∧MgAt w (some ⟨g,0,none⟩) n c1 R (go-1) (.slice A2 tl c2) (w2.setCell ⟨g,k,none⟩ (.slice B' t.length c')):=by
 have h1:=goes_drop hgo hx
 subst htl
 refine⟨h1.1,T,Lc.set k ⟨.slice B' t.length c',t⟩,A2,c2,rfl,EntRow.far_l hT hr,LRow.put hr hlen.symm ⟨.slice B' t.length c',t⟩,by rw[List.length_set,hlen],he.set hp, ?_, ?_,hb.setCell hg _⟩
 ·rw[els_set]
  exact h1.2
 ·rw[els_set,fin_drop hq hx]
  exact hfin
theorem MgAt.add {w w2:World}{n c1 c2 go tl:Nat}{A1 A2:Option Addr}{R T:List EntS}{Lc:List LstS}{x:EntS}
  (hT:EntRow w2 w.heap.size (.slice A2 T.length c2) T) (hr:LRow w2 w.heap.size (.slice A1 n c1) Lc) (hlen:Lc.length=n) (he:Each w Lc) (hgo:Goes go T (els Lc)) (hfin:finL T (els Lc)=R) (hb:Below w.heap.size w w2)
  (htl:tl=T.length) (hm:minL (els Lc)=some x) (hno:∀ l∈els Lc,∀ x t,l=x::t→T.getLast?≠some x) (ht:T.length+1≤1000000) :
  0<go∧∃ u w',(Builtin.append_ #[40,40] 40 #[.slice A2 tl c2,.slice (some ⟨w2.heap.size,0,none⟩) 1 1]).run Tryz.prog (w2.alloc (.cells #[.int .u64 (x.h:Nat),.int .i64 x.v,.int .i64 x.p] 44)) = .ok u w'∧MgAt w A1 n c1 R (go-1) u w':=by
 subst htl
 have h1:=goes_add hgo hm hno
 have hr1:LRow (w2.alloc (.cells #[.int .u64 (x.h:Nat),.int .i64 x.v,.int .i64 x.p] 44)) w.heap.size (.slice A1 n c1) Lc:=LRow.alloc hr _
 have hT1:EntRow (w2.alloc (.cells #[.int .u64 (x.h:Nat),.int .i64 x.v,.int .i64 x.p] 44)) w.heap.size (.slice A2 T.length c2) T:=EntRow.below hT ((Below.refl w2.heap.size w2).alloc (Nat.le_refl _) _) (Nat.le_refl _)
 obtain⟨A,c,w',e1,e2,e3,-⟩:=ents_append hT1 (ent_one w2 x) (by simpa using ht) (by have:=hb.size;simp;omega) 40
 refine⟨h1.1,_,w',e1,T++[x],Lc,A,c, ?_, ?_,LRow.grown hr1 hT1 e3,hlen,he,h1.2,by rw[fin_add hm hno];exact hfin, ?_⟩
 ·rw[List.length_append]
 ·rw[List.length_append]
  exact e2
 ·exact(hb.alloc hb.size _).trans (grown_below e3 (by have:=hb.size;simp;omega) (EntRow.block hT1))
set_option maxHeartbeats 2000000 in
theorem merge_any (v:Value)(L:List LstS)(w:World)(hL:ListsIn w v L)(hn:L.length≤500000)(ht:totL (els L)≤500000) :
  Calls Tryz.prog 59 #[v] w (EntsOut w (mergeE (els L))):=by
 have HCL:=Lib.hid (lclone_any v L w hL hn)
 have HST:=Lib.hid (fun w1 A1 c1 h1 h2=>MgAt.start (w:=w) (w1:=w1) (A1:=A1) (c1:=c1) (L:=L) h1 hL.2 h2)
 have HRL:=Lib.hid (Nat.le_trans (merge_length (els L)) ht)
 unfold ListsOut at HCL
 generalize mergeE (els L)=R at *
 generalize 2*totL (els L)+1=G at *
 obtain⟨n,hnn⟩:∃ n,n=L.length:=⟨_,rfl⟩
 rw[← hnn] at hn HST HCL
 clear hL ht hnn
 go_enter Tryz.func59,Tryz.ntmps59
 go_wp2_with fail
 go_step3
 go_wp2_with fail
 refine HCL.out.mono ?_
 rintro e w1 ⟨A1,c1,rfl,r1,b1⟩
 have HS:=Lib.hid (HST.out w1 A1 c1 r1 b1)
 clear HST HCL r1 b1
 go_wp2
 go_step3
 go_wp2
 go_loopg [4] G (fun g u wr=>MgAt w A1 n c1 R g u wr)
 case atStart=>exact HS.out
 case round =>
  obtain⟨wo,rfl⟩:∃ wo,wo=wr:=⟨_,rfl⟩
  obtain⟨go,rfl⟩:∃ go,go=gk:=⟨_,rfl⟩
  obtain⟨T,Lc,A2,c2,rfl,hT,hrow,hlen,heach,hgo,hfin,hbel⟩:=hrel
  have HT:=Lib.hid hT
  have HROW:=Lib.hid hrow
  have HEA:=Lib.hid heach
  have HGO:=Lib.hid hgo
  have HFIN:=Lib.hid hfin
  have HBEL:=Lib.hid hbel
  have HLEN:=Lib.hid hlen
  have HTR:=Lib.hid (show T.length≤500000 by have:=fin_length T (els Lc);rw[hfin] at this;have:=HRL.out;omega)
  obtain⟨tl,htl⟩:∃ tl,tl=T.length:=⟨_,rfl⟩
  have HTL:=Lib.hid htl
  rw[← htl]
  clear hT hrow heach hgo hfin hbel hlen htl
  go_wp2
  go_loopg [5,12] n (fun g2 s5 s12 wx=>∃ (k:Nat) (d:Int),k+g2=n∧s12 = .int .i64 k∧s5 = .int .i64 d∧MinAt (els Lc) k d∧NoLast T (els Lc) k∧Below wo.heap.size wo wx)
  case atStart=>exact⟨0,-1,by omega,rfl,rfl,minAt_zero _,noLast_zero _ _,Below.refl _ _⟩
  case round =>
   obtain⟨k,d,hkg,rfl,rfl,hmin,hnl,hbx⟩:=hrel
   have HMIN:=Lib.hid hmin
   have HNL:=Lib.hid hnl
   have HBX:=Lib.hid hbx
   have HRX:=Lib.hid (LRow.below HROW.out hbx (Nat.le_refl _))
   have HTX:=Lib.hid (EntRow.below HT.out hbx (Nat.le_refl _))
   have HBW:=Lib.hid (show Below w.heap.size w wr from HBEL.out.trans (hbx.mono HBEL.out.size))
   clear hmin hnl hbx
   cases gk with
   | zero =>
     obtain rfl:k=n:=by omega
     have s1:¬ (k:Int)<(k:Int):=by omega
     have hma:=minAt_all (L:=els Lc) (d:=d) (by rw[els_length,HLEN.out];exact HMIN.out)
     have HNO:=Lib.hid (noLast_all (T:=T) (L:=els Lc) (by rw[els_length,HLEN.out];exact HNL.out))
     rcases hma with⟨d0,d1,hmn⟩ | ⟨j,x,t,rfl,hj,hx,hmn⟩
     ·have HEND:=Lib.hid (show EntsOut w R (.returned (.slice A2 tl c2)) wr by
       rw[← HFIN.out,fin_end hmn,HTL.out]
       exact⟨A2,c2,rfl,HTX.out,HBW.out⟩)
      clear hmn
      go_wp2
      (try rw[Exit.noGoto_ret])
      go_ret
      exact HEND.out
     ·obtain⟨hpos,u,w3,e1,e2⟩:=MgAt.add HTX.out HRX.out HLEN.out HEA.out HGO.out HFIN.out HBW.out HTL.out hmn HNO.out (by have:=HTR.out;omega)
      have HE1:=Lib.hid e1
      have HE2:=Lib.hid e2
      have hjn:j<k:=by rw[els_length,HLEN.out] at hj;exact hj
      obtain⟨y,hy⟩:∃ y,Lc[j]? = some y:=⟨_,List.getElem?_eq_getElem (by rw[HLEN.out];exact hjn)⟩
      obtain⟨g,rfl,hg1,hg2,-⟩:=HROW.out.some_ (by rw[HLEN.out];omega)
      obtain⟨cy,-⟩:=LRow.cell HRX.out HLEN.out.symm hy
      have hin:=HEA.out y (List.mem_of_getElem? hy)
      have hyl:=els_at hy
      rw[hx] at hyl
      obtain⟨yv,yl⟩:=y
      obtain rfl:x::t=yl:=Option.some.inj hyl
      simp only at cy hin
      obtain⟨B,off,cap,rfl,hml,hc⟩:=hin.form
      obtain⟨b,rfl,hbk,d0,d1,d2⟩:=hc 0 x rfl
      simp only[Nat.zero_mul,Nat.add_zero] at d0 d1 d2
      have f0:=(HBW.out.cell (p:=⟨b,off,none⟩) hbk).trans d0
      have f1:=(HBW.out.cell (p:=⟨b,off+1,none⟩) hbk).trans d1
      have f2:=(HBW.out.cell (p:=⟨b,off+2,none⟩) hbk).trans d2
      have s2:(j:Int)<(k:Int):=by omega
      have s3:(0:Int)<(((t.length:Nat):Int)+1):=by omega
      clear e1 e2 hj hjn hx hmn hy hyl hin hml hc d0 d1 d2 hbk
      obtain⟨xh,xv,xp⟩:=x
      simp only at f0 f1 f2 HE1
      simp only[List.length_cons] at cy
      go_wp2_with (first | (at_builtin;refine wpList_append_two rfl _ _ rfl rfl rfl HE1.out ?_) | fail)
      go_roundg (go-1)
      case measure=>omega
      case rel=>exact HE2.out
   | succ gi =>
     have hkn:k<n:=by omega
     have s1:(k:Int)<(n:Int):=by omega
     obtain⟨y,hy⟩:∃ y,Lc[k]? = some y:=⟨_,List.getElem?_eq_getElem (by rw[HLEN.out];exact hkn)⟩
     obtain⟨g,rfl,hg1,hg2,-⟩:=HROW.out.some_ (by rw[HLEN.out];omega)
     obtain⟨cy,fy⟩:=LRow.cell HRX.out HLEN.out.symm hy
     have HY:=Lib.hid (els_at hy)
     have hin:=HEA.out y (List.mem_of_getElem? hy)
     have HLY:=Lib.hid hy
     clear hy
     obtain⟨yv,yl⟩:=y
     simp only at cy hin HY
     have HIN:=Lib.hid hin
     obtain⟨B,off,cap,rfl,hml,hc⟩:=hin.form
     cases yl with
     | nil =>
       simp only[List.length_nil] at cy
       clear hc hml hin
       go_wp2
       go_roundg gi
       case measure=>omega
       case rel=>exact⟨k+1,d,by omega,by go_num,rfl,minAt_empty HY.out HMIN.out,noLast_empty HY.out HNL.out,HBX.out⟩
     | cons x t =>
       simp only[List.length_cons] at cy
       obtain⟨b,rfl,hbk,d0,d1,d2⟩:=hc 0 x rfl
       simp only[Nat.zero_mul,Nat.add_zero] at d0 d1 d2
       have f0:=(HBW.out.cell (p:=⟨b,off,none⟩) hbk).trans d0
       have f1:=(HBW.out.cell (p:=⟨b,off+1,none⟩) hbk).trans d1
       have f2:=(HBW.out.cell (p:=⟨b,off+2,none⟩) hbk).trans d2
       have s3:(0:Int)<(((t.length:Nat):Int)+1):=by omega
       have s4:(((t.length:Nat):Int)+1==0)=false:=beq_eq_false_iff_ne.2 (by omega)
       have htold:=told_any (.slice A2 tl c2) T x wr (by rw[HTL.out];exact EntRow.in_ HTX.out) (by have:=HTR.out;omega)
       have hbl:b<wr.heap.size:=Nat.lt_of_lt_of_le hbk HBW.out.size
       have hgl:g<wr.heap.size:=Nat.lt_of_lt_of_le hg2 HBX.out.size
       by_cases hq:T.getLast? = some x
       ·rw[decide_eq_true hq] at htold
        have HTOLD:=Lib.hid htold
        obtain⟨B',c',hs,hp⟩:=ents_from (k:=1) HIN.out (by simp)
        have hs1:∀ W,(Instr.slice 40 (.slice (some ⟨b,off,none⟩) (t.length+1) cap) (some (.int .i64 1)) none none).run Tryz.prog W = .ok (.slice B' t.length c') W:=fun W=>hs W
        have HP:=Lib.hid (show EntsIn w (.slice B' t.length c') t from hp w.heap.size w (Nat.le_refl _) (Below.refl _ _))
        have HDROP:=Lib.hid (fun w2 h1 h2 h3=>MgAt.drop (w:=w) (w2:=w2) (c1:=c1) (c2:=c2) (A2:=A2) h1 h2 HLEN.out HEA.out HGO.out HFIN.out h3 HTL.out hg1 HY.out hq HP.out)
        have HG:=Lib.hid hg1
        clear hq hs hp d0 d1 d2 hc hml hin htold hg1 hg2 hbk
        obtain⟨xh,xv,xp⟩:=x
        simp only at f0 f1 f2
        go_wp2_with fail
        refine HTOLD.out.mono ?_
        rintro e w2 ⟨rfl,hb2⟩
        have cy2:=(hb2.cell (p:=⟨g,k,none⟩) hgl).trans cy
        have fy2:=(LRow.cell (LRow.below HRX.out hb2 (Nat.le_refl _)) HLEN.out.symm HLY.out).2
        have HD:=Lib.hid (HDROP.out w2 (EntRow.below HTX.out hb2 (Nat.le_refl _)) (LRow.below HRX.out hb2 (Nat.le_refl _)) (HBW.out.trans (hb2.mono HBW.out.size)))
        clear f0 f1 f2 cy fy hb2
        go_wp2
        go_roundg (go-1)
        case measure=>have:=HD.out.1;omega
        case rel=>exact HD.out.2
       ·rw[decide_eq_false hq] at htold
        have HTOLD:=Lib.hid htold
        have HNM:=Lib.hid (noLast_more HY.out hq HNL.out)
        clear hq htold hin hml hc d0 d1 d2
        by_cases hd:d<0
        ·have HMF:=Lib.hid (minAt_first HY.out HMIN.out hd)
         obtain⟨xh,xv,xp⟩:=x
         simp only at f0 f1 f2
         go_wp2_with fail
         refine HTOLD.out.mono ?_
         rintro e w2 ⟨rfl,hb2⟩
         have HB2:=Lib.hid (bj HBX.out hb2)
         clear f0 f1 f2 cy fy hb2
         go_wp2_with fail
         go_quiet (fail)
         go_wp2
         go_roundg gi
         case measure=>omega
         case rel=>exact⟨k+1,(k:Nat),by omega,by go_num,rfl,HMF.out,HNM.out,below_drewN HB2.out _⟩
        ·obtain⟨j,z,u,rfl,hj,hz,-⟩:∃ (j:Nat) (z:EntS) (u:List EntS),d=(j:Nat)∧j<k∧(els Lc)[j]? = some (z::u)∧minL ((els Lc).take k)=some z:=by
          rcases HMIN.out with⟨h,_⟩ | h
          ·exact absurd h hd
          ·exact h
         have HMO:=Lib.hid (minAt_other HY.out HMIN.out hz)
         obtain⟨y2,hy2⟩:∃ y,Lc[j]? = some y:=⟨_,List.getElem?_eq_getElem (by rw[HLEN.out];omega)⟩
         obtain⟨gy,-⟩:=LRow.cell HRX.out HLEN.out.symm hy2
         have hin2:=HEA.out y2 (List.mem_of_getElem? hy2)
         have hyl:=els_at hy2
         rw[hz] at hyl
         obtain⟨yv2,yl2⟩:=y2
         obtain rfl:z::u=yl2:=Option.some.inj hyl
         simp only at gy hin2
         obtain⟨B2,off2,cap2,rfl,hml2,hc2⟩:=hin2.form
         obtain⟨b2,rfl,hbk2,d0,d1,d2⟩:=hc2 0 z rfl
         simp only[Nat.zero_mul,Nat.add_zero] at d0 d1 d2
         simp only[List.length_cons] at gy
         have g0:=(HBW.out.cell (p:=⟨b2,off2,none⟩) hbk2).trans d0
         have g1:=(HBW.out.cell (p:=⟨b2,off2+1,none⟩) hbk2).trans d1
         have g2:=(HBW.out.cell (p:=⟨b2,off2+2,none⟩) hbk2).trans d2
         have hbl2:b2<wr.heap.size:=Nat.lt_of_lt_of_le hbk2 HBW.out.size
         have s5:(0:Int)<(((u.length:Nat):Int)+1):=by omega
         have s6:(j:Int)<(n:Int):=by omega
         have s7:decide ((j:Int)<0)=false:=decide_eq_false (by omega)
         have HL:=fun W=>eless_any x z W
         clear d0 d1 d2 hj hz hy2 hyl hin2 hml2 hc2 hbk2 hd hbk
         cases o:lessE x z
         all_goals
          rw[o] at HL HMO
          have HLL:=Lib.hid HL
          clear HL o
          obtain⟨xh,xv,xp⟩:=x
          obtain⟨zh,zv,zp⟩:=z
          simp only at f0 f1 f2 g0 g1 g2
          go_wp2_with fail
          refine HTOLD.out.mono ?_
          rintro e w2 ⟨rfl,hb2⟩
          have HB2:=Lib.hid (bj HBX.out hb2)
          have HS:Hid (∀ W,Below w2.heap.size w2 W→Below w2.heap.size w2 W∧W.cell? ⟨g,j,none⟩=some (.slice (some ⟨b2,off2,none⟩) (u.length+1) cap2)∧W.cell? ⟨b,off,none⟩=some (.int .u64 (xh:Nat))∧W.cell? ⟨b,off+1,none⟩=some (.int .i64 xv)∧W.cell? ⟨b,off+2,none⟩=some (.int .i64 xp) ∧
           W.cell? ⟨b2,off2,none⟩=some (.int .u64 (zh:Nat))∧W.cell? ⟨b2,off2+1,none⟩=some (.int .i64 zv)∧W.cell? ⟨b2,off2+2,none⟩=some (.int .i64 zp)):=Lib.hid fun W hW=>by
           have hB:=bj hb2 hW
           exact⟨hW,(hB.cell (p:=⟨g,j,none⟩) hgl).trans gy,(hB.cell (p:=⟨b,off,none⟩) hbl).trans f0,(hB.cell (p:=⟨b,off+1,none⟩) hbl).trans f1,(hB.cell (p:=⟨b,off+2,none⟩) hbl).trans f2,(hB.cell (p:=⟨b2,off2,none⟩) hbl2).trans g0,(hB.cell (p:=⟨b2,off2+1,none⟩) hbl2).trans g1,(hB.cell (p:=⟨b2,off2+2,none⟩) hbl2).trans g2⟩
          obtain⟨-,t0,t1,t2,t3,t4,t5,t6⟩:=HS.out w2 (Below.refl _ _)
          clear f0 f1 f2 g0 g1 g2 cy fy hb2 gy HTOLD
          go_wp2_with fail
          go_region_held3 (fun W=>Below w2.heap.size w2 W∧W.cell? ⟨g,j,none⟩=some (.slice (some ⟨b2,off2,none⟩) (u.length+1) cap2)∧W.cell? ⟨b,off,none⟩=some (.int .u64 (xh:Nat))∧W.cell? ⟨b,off+1,none⟩=some (.int .i64 xv)∧W.cell? ⟨b,off+2,none⟩=some (.int .i64 xp) ∧
           W.cell? ⟨b2,off2,none⟩=some (.int .u64 (zh:Nat))∧W.cell? ⟨b2,off2+1,none⟩=some (.int .i64 zv)∧W.cell? ⟨b2,off2+2,none⟩=some (.int .i64 zp))
           (first | (with_reducible assumption) | ((with_reducible refine HS.out _ ?_);(first | (with_reducible assumption) | (with_reducible exact Below.refl _ _) | (with_reducible exact(Below.refl _ _).drew) | exact(bj (And.left (by with_reducible assumption)) ‹Below _ _ _›));done) | fail)
           (first
           | (go_at_call 112;((with_reducible refine(HLL.out _).mono ?_);rintro e w3 ⟨rfl,hb3⟩;have hB3:Below w2.heap.size w2 w3:=bj (And.left (by with_reducible assumption)) hb3))
           | fail)
          all_goals
           go_wp2
           go_roundg gi
           case measure=>omega
           case rel=>exact⟨k+1,_,by omega,by go_num,rfl,HMO.out,HNM.out,bj HB2.out hB3⟩
theorem filter_take (q:EntS→Bool)(l:List EntS)(k:Nat)(x:EntS)(h:l[k]? = some x) : (l.take (k+1)).filter q=(l.take k).filter q++(if q x=true then [x] else []):=by
 rw[ent_take l k x h,List.filter_append]
 cases hq:q x
 ·rw[List.filter_cons,hq];rfl
 ·rw[List.filter_cons,hq];rfl
set_option maxHeartbeats 1600000 in
set_option maxRecDepth 100000 in
theorem ranger_any (v:Value)(l:List EntS)(h:Nat)(a b:Int)(w:World)(hl:EntsIn w v l)(hn:l.length≤400000) :
  Calls Tryz.prog 62 #[v,.int .u64 (h:Nat),.int .i64 a,.int .i64 b] w (EntsOut w (rangeE l h a b)):=by
 obtain⟨A,off,cap,rfl,-,hcell⟩:=hl.form
 have HC:=Lib.hid hcell
 obtain⟨n,hnn⟩:∃ n,n=l.length:=⟨_,rfl⟩
 have HN:=Lib.hid hnn
 have HE:=Lib.hid (show rangeE l h a b=(l.take n).filter (inQ h a b) by rw[hnn,List.take_length];rfl)
 rw[← hnn] at hn ⊢
 clear hl hcell hnn
 generalize rangeE l h a b=r at *
 go_enter Tryz.func62,Tryz.ntmps62
 go_wp2
 go_loopw [9,10] (fun u i wr=>∃ k:Nat,k≤n∧i = .int .i64 k∧(∃ A c,u = .slice A ((l.take k).filter (inQ h a b)).length c∧EntRow wr w.heap.size (.slice A ((l.take k).filter (inQ h a b)).length c) ((l.take k).filter (inQ h a b)))∧Below w.heap.size w wr) (fun _ i _=>n-(intOf i).toNat)
 case atStart=>exact⟨0,Nat.zero_le _,rfl,⟨none,0,rfl,EntRow.nil _ _⟩,Below.refl _ _⟩
 case round =>
  obtain⟨k,hk,rfl,⟨A1,c1,rfl,hrow⟩,hbel⟩:=hrel
  have HR:=Lib.hid hrow
  clear hrow
  by_cases hlt:k<n
  ·have s1:(k:Int)<(n:Int):=by omega
   obtain⟨x,hx⟩:∃ x,l[k]? = some x:=⟨_,List.getElem?_eq_getElem (by rw[← HN.out];omega)⟩
   obtain⟨bk,rfl,hbk,d0,d1,d2⟩:=HC.out k x hx
   have e0:=(hbel.cell (p:=⟨bk,off+k*3,none⟩) hbk).trans d0
   have e1:=(hbel.cell (p:=⟨bk,off+k*3+1,none⟩) hbk).trans d1
   have e2:=(hbel.cell (p:=⟨bk,off+k*3+2,none⟩) hbk).trans d2
   have HT:=Lib.hid (filter_take (inQ h a b) l k x hx)
   have HQ:=Lib.hid (show inQ h a b x=decide (x.h=h∧a≤x.v∧x.v≤b) from rfl)
   have hlen:((l.take k).filter (inQ h a b)).length≤n:=by
    have h1:=List.length_filter_le (inQ h a b) (l.take k)
    rw[List.length_take] at h1
    omega
   generalize (l.take k).filter (inQ h a b)=L at *
   clear hx d0 d1 d2
   by_cases hin:x.h=h∧a≤x.v∧x.v≤b
   ·have hv:inQ h a b x=true:=by rw[HQ.out];exact decide_eq_true hin
    have ht:=HT.out
    rw[hv,if_pos rfl] at ht
    have hb1:=(Below.refl wr.heap.size wr).alloc (Nat.le_refl _) (.cells #[.int .u64 (x.h:Nat),.int .i64 x.v,.int .i64 x.p] 44)
    obtain⟨A2,c2,w2,r1,r2,r3,r4⟩:=ents_append (EntRow.below HR.out hb1 (Nat.le_refl _)) (ent_one wr x) (by show L.length+1≤_;omega) (by have:=hbel.size;simp;omega) 40
    have hbel2:=(hbel.alloc hbel.size (.cells #[.int .u64 (x.h:Nat),.int .i64 x.v,.int .i64 x.p] 44)).trans (grown_below r3 (by have:=hbel.size;simp;omega) (EntRow.block HR.out))
    have R2:=Lib.hid (show ∃ A c,Value.slice A2 (L.length+1) c2 = .slice A ((l.take (k+1)).filter (inQ h a b)).length c∧EntRow w2 w.heap.size (.slice A ((l.take (k+1)).filter (inQ h a b)).length c) ((l.take (k+1)).filter (inQ h a b)) from⟨A2,c2,by rw[ht,List.length_append];rfl,by rw[ht,List.length_append];exact r2⟩)
    have r1':(Builtin.append_ #[40,40] 40 #[.slice A1 L.length c1,.slice (some ⟨wr.heap.size,0,none⟩) 1 1]).run Tryz.prog (wr.alloc (.cells #[.int .u64 (x.h:Nat),.int .i64 x.v,.int .i64 x.p] 44)) = .ok (.slice A2 (L.length+1) c2) w2:=r1
    have HA:=Lib.hid r1'
    obtain⟨hi1,hi2,hi3⟩:=hin
    clear r1 r2 r3 r4 r1' hb1 ht hv hlen HQ HT hbel
    obtain⟨xh,xv,xp⟩:=x
    simp only at e0 e1 e2 hi1 hi2 hi3
    subst hi1
    go_wp2_with (first | (at_builtin;refine wpList_append_two rfl _ _ rfl rfl rfl HA.out ?_) | fail)
    go_wp2
    go_roundw
    case rel=>exact⟨k+1,by omega,by go_num,R2.out,hbel2⟩
    case measure=>simp[intOf];omega
   ·have hv:inQ h a b x=false:=by rw[HQ.out];exact decide_eq_false hin
    have ht:=HT.out
    rw[hv,if_neg (by decide),List.append_nil] at ht
    have R2:=Lib.hid (show ∃ A c,Value.slice A1 L.length c1 = .slice A ((l.take (k+1)).filter (inQ h a b)).length c∧EntRow wr w.heap.size (.slice A ((l.take (k+1)).filter (inQ h a b)).length c) ((l.take (k+1)).filter (inQ h a b)) from⟨A1,c1,by rw[ht],by rw[ht];exact HR.out⟩)
    clear hv ht hlen HQ HT HR
    obtain⟨xh,xv,xp⟩:=x
    simp only at e0 e1 e2 hin
    by_cases i1:xh=h
    ·subst i1
     by_cases i2:a≤xv
     ·have i3:¬ xv≤b:=fun t=>hin ⟨rfl,i2,t⟩
      clear hin
      go_wp2
      go_roundw
      case rel=>exact⟨k+1,by omega,by go_num,R2.out,hbel⟩
      case measure=>simp[intOf];omega
     ·clear hin
      go_wp2
      go_roundw
      case rel=>exact⟨k+1,by omega,by go_num,R2.out,hbel⟩
      case measure=>simp[intOf];omega
    ·have t2:((xh:Int)==(h:Int))=false:=beq_eq_false_iff_ne.2 (by omega)
     clear hin
     go_wp2
     go_roundw
     case rel=>exact⟨k+1,by omega,by go_num,R2.out,hbel⟩
     case measure=>simp[intOf];omega
  ·obtain rfl:k=n:=by omega
   have s1:¬ (k:Int)<(k:Int):=by omega
   have HE2:=Lib.hid (show EntsOut w r (.returned (.slice A1 ((l.take k).filter (inQ h a b)).length c1)) wr by rw[HE.out];exact⟨A1,c1,rfl,HR.out,hbel⟩)
   clear hlt HR
   generalize (l.take k).filter (inQ h a b)=L at *
   go_wp2
   go_ret
   exact HE2.out
set_option maxHeartbeats 1000000 in
set_option maxRecDepth 100000 in
theorem tsame_any (va vb:Value)(a b:List EntS)(w:World)(ha:EntsIn w va a)(hb:EntsIn w vb b)(hm:a.length≤1000000)(hk:b.length≤1000000) :
  Calls Tryz.prog 19 #[va,vb] w (SameEnd (decide (a=b)) w):=by
 obtain⟨A,oa,ca,rfl,-,fa⟩:=ha.form
 obtain⟨B,ob,cb,rfl,-,fb⟩:=hb.form
 have FA:=Lib.hid fa
 have FB:=Lib.hid fb
 clear ha hb fa fb
 by_cases hl:a.length=b.length
 case neg =>
  have e:decide (a=b)=false:=decide_eq_false (fun h=>hl (by rw[h]))
  rw[e]
  have t:((a.length:Int) != (b.length:Int))=true:=by simp;omega
  have t2:(a.length != b.length)=true:=by simp;omega
  clear e hl
  go_enter Tryz.func19,Tryz.ntmps19
  go_wp2
  go_ret
  exact⟨rfl,0,rfl⟩
 obtain⟨n,hn⟩:∃ n,n=a.length:=⟨_,rfl⟩
 have HNA:=Lib.hid hn
 have HNB:=Lib.hid (hn.trans hl)
 rw[← hn] at hm ⊢
 rw[← hl,← hn] at hk ⊢
 clear hl hn hk
 go_enter Tryz.func19,Tryz.ntmps19
 go_wp2
 go_loopw [5] (fun i wr=>∃ k m:Nat,k≤n∧i = .int .i64 k∧(∀ j x y,j<k→a[j]? = some x→b[j]? = some y→x=y)∧wr=w.drewN m) (fun i _=>n-(intOf i).toNat)
 case atStart=>exact⟨0,0,Nat.zero_le _,rfl,fun j x y hj=>by omega,rfl⟩
 case round =>
  obtain⟨k,m,hk,rfl,hall,rfl⟩:=hrel
  have HA:=Lib.hid hall
  clear hall
  by_cases hlt:k<n
  ·have l1:(k:Int)<(n:Int):=by omega
   obtain⟨x,hxa⟩:∃ x,a[k]? = some x:=⟨_,List.getElem?_eq_getElem (by rw[← HNA.out];exact hlt)⟩
   obtain⟨y,hxb⟩:∃ y,b[k]? = some y:=⟨_,List.getElem?_eq_getElem (by rw[← HNB.out];exact hlt)⟩
   obtain⟨ba,rfl,-,d0,d1,d2⟩:=FA.out k _ hxa
   obtain⟨bb,rfl,-,g0,g1,g2⟩:=FB.out k _ hxb
   have HXA:=Lib.hid hxa
   have HXB:=Lib.hid hxb
   clear hxa hxb
   have hne:=fun w=>ent_neq x y w
   by_cases hxy:x=y
   ·rw[decide_eq_true hxy] at hne
    have HXY:=Lib.hid hxy
    clear hxy
    obtain⟨xh,xv,xp⟩:=x
    obtain⟨yh,yv,yp⟩:=y
    simp only at d0 d1 d2 g0 g1 g2
    go_wp2
    go_quiet (fail)
    go_wp2
    refine⟨⟨k+1,_,by omega,by go_num,fun j u v hj hu hv=>?_,rfl⟩,by simp[intOf];omega⟩
    rcases Nat.lt_or_ge j k with c | c
    ·exact HA.out j u v c hu hv
    ·obtain rfl:j=k:=by omega
     rw[HXA.out] at hu
     rw[HXB.out] at hv
     rw[← Option.some.inj hu,← Option.some.inj hv]
     exact HXY.out
   ·have e:decide (a=b)=false:=decide_eq_false (fun h=>hxy (by have h1:=HXA.out;rw[h,HXB.out] at h1;exact(Option.some.inj h1).symm))
    rw[decide_eq_false hxy] at hne
    have E:=Lib.hid e
    clear e hxy
    obtain⟨xh,xv,xp⟩:=x
    obtain⟨yh,yv,yp⟩:=y
    simp only at d0 d1 d2 g0 g1 g2
    go_wp2
    go_quiet (fail)
    go_wp2
    go_ret
    exact⟨by rw[E.out];rfl,_,World.drewN_drewN _ _ _⟩
  ·have e:decide (a=b)=true:=decide_eq_true (ents_eq (by rw[← HNA.out,← HNB.out]) (fun j x y hx hy=>HA.out j x y (by have:=(List.getElem?_eq_some_iff.1 hx).1;rw[← HNA.out] at this;omega) hx hy))
   have l1:decide ((k:Int)<(n:Int))=false:=decide_eq_false (by omega)
   have l2:decide (k<n)=false:=decide_eq_false (by omega)
   have E:=Lib.hid e
   clear e hlt
   go_wp2
   go_ret
   exact⟨by rw[E.out];rfl,_,rfl⟩
end
end Go.Proofs.YtcpfkaehefcakaaGreat
