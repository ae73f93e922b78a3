/- ZfIxSmall, ZfIxAdd -/
import Derived.Test.YtokbfellcadkpaaGreatPf44
import Derived.Test.YtokbfellcadkpaaGreatPf15
import Derived.Test.YtokbfellcadkpaaGreatPf14
import Derived.Test.YtokbfellcadkpaaGreatPf18
import Derived.Test.YtokbfellcadkpaaGreatPf36
import Derived.Test.YtokbfellcadkpaaGreatPf17
namespace Go.Proofs.YtokbfellcadkpaaGreat
set_option maxRecDepth 100000
set_option linter.unusedVariables false
section
open Go.RowKit Go.Shelf
theorem info_index : (Tryz.prog.info? 89).map (·.size)=some 9:=by kernel_rfl
theorem xsame_in (d:Nat)(p:Addr)(w:World) : (Op.equalIn (d+1) 33 (.pointer (some p)) (.pointer (some p))).run Tryz.prog w = .ok true w:=by
 cases hq:Tryz.prog.info? 89 with
 | none=>have:=info_index;rw[hq] at this;cases this
 | some i =>
   have hi:i.size=9:=by have:=info_index;rw[hq] at this;simpa using this
   simp[Op.equalIn,run_underlying Tryz.underlying33,sizeOf,typeInfo,hq,sameAddr]
theorem xnil_in (d:Nat)(p:Addr)(w:World) : (Op.equalIn (d+1) 33 (.pointer none) (.pointer (some p))).run Tryz.prog w = .ok false w:=by
 simp[Op.equalIn,run_underlying Tryz.underlying33]
theorem xsame_ptr (p:Addr)(w:World) : (binOp .neq 33 (.pointer (some p)) (.pointer (some p))).run Tryz.prog w = .ok (.bool false) w:=by
 have he:(Op.equal 33 (.pointer (some p)) (.pointer (some p))).run Tryz.prog w = .ok true w:=xsame_in 9999 p w;simp only[binOp];simp[he]
theorem xnil_ptr (p:Addr)(w:World) : (binOp .neq 33 (.pointer none) (.pointer (some p))).run Tryz.prog w = .ok (.bool true) w:=by
 have he:(Op.equal 33 (.pointer none) (.pointer (some p))).run Tryz.prog w = .ok false w:=xnil_in 9999 p w;simp only[binOp];simp[he]
theorem xnone_run {w:World}{g:Nat}(h:w.cell? ⟨g,0,none⟩=some (ptr g)) : Calls Tryz.prog 33 #[ptr g] w fun e w'=>e = .returned (.bool false)∧w=w':=by
 have hsp:=xsame_ptr ⟨g,0,none⟩;go_enter Tryz.func33,Tryz.ntmps33;go_wp2;go_ret;exact⟨rfl,rfl⟩
theorem xnone_nil (w:World) : Calls Tryz.prog 33 #[.pointer none] w fun e w'=>e = .returned (.bool true)∧w=w':=by
 go_enter Tryz.func33,Tryz.ntmps33;go_wp2;go_ret;exact⟨rfl,rfl⟩
theorem xnone_bare {w:World}{g:Nat}(h:w.cell? ⟨g,0,none⟩=some (.pointer none)) : Calls Tryz.prog 33 #[ptr g] w fun e w'=>e = .returned (.bool true)∧w=w':=by
 have hsp:=xnil_ptr ⟨g,0,none⟩;go_enter Tryz.func33,Tryz.ntmps33;go_wp2;go_ret;exact⟨rfl,rfl⟩
def IxNone (w:World)(p:Value) : Prop:=p = .pointer none∨∃ g,p=ptr g∧w.cell? ⟨g,0,none⟩=some (.pointer none)
theorem IxNone.below {w w':World}{p:Value}(h:IxNone w p)(hb:Below w.heap.size w w') : IxNone w' p:=by
 rcases h with h | ⟨g,h1,h2⟩
 ·exact Or.inl h
 ·exact Or.inr ⟨g,h1,(hb.cell (p:=⟨g,0,none⟩) (World.block_lt_of_cell? w _ h2)).trans h2⟩
theorem xnone_any {w:World}{p:Value}(h:IxNone w p) : Calls Tryz.prog 33 #[p] w fun e w'=>e = .returned (.bool true)∧w=w':=by
 rcases h with rfl | ⟨g,rfl,h2⟩
 ·exact xnone_nil w
 ·exact xnone_bare h2
theorem lvs_isnil (A:Option Addr)(n c:Nat)(w:World) : (binOp .eql 38 (.slice A n c) (.slice none 0 0)).run Tryz.prog w = .ok (.bool A.isNone) w:=by
 have he:=run_equal_slice_nil (P:=Tryz.prog) w 38 96 A n c Tryz.underlying38;simp only[binOp];simp[he]
def LvsRowOut (w:World)(L:List LvS)(e:Ending)(w':World) : Prop:=∃ A c,e = .returned (.slice A L.length c)∧LvRow w' w.heap.size (.slice A L.length c) L∧Below w.heap.size w w'
theorem lvclone_any (v:Value)(L:List LvS)(w:World)(h:LvsIn w v L)(hl:L.length≤500000) : Calls Tryz.prog 104 #[v] w (LvsRowOut w L):=by
 obtain⟨A,off,cap,rfl,-,-⟩:=h.1.form;cases A with
 | none =>
   have hn:L=[]:=by
    rcases h.1 with⟨e,_⟩ | ⟨b,off',cap',e,_⟩
    ·exact e
    ·cases e
   subst hn;have hq:=fun W=>lvs_isnil none 0 cap W
   clear h hl;go_enter Tryz.func104,Tryz.ntmps104;go_wp2;go_ret;exact⟨none,0,rfl,LvRow.nil _ _,Below.refl _ _⟩
 | some a =>
   have hb:=(Below.refl w.heap.size w).alloc (Nat.le_refl _) (.cells #[] 96);have hown:LvRow (w.alloc (.cells #[] 96)) w.heap.size (.slice (some ⟨w.heap.size,0,none⟩) 0 0) []:=World.ownsRow_made w #[] 0 (Nat.le_refl _) (Nat.zero_le _) rfl;have h1:=h.1.below hb (Nat.le_refl _);obtain⟨A',c',w',e1,e2,e3,e4⟩:=lvs_append hown h1 h.2.one (by simp;omega) (by simp) 38;have hT:=hb.trans (igrown_below e3 (B:=w.heap.size) (by simp) (fun k hk=>by simp[Value.ownBlock] at hk;omega));have HT:=Lib.hid hT;rw[List.nil_append] at e2;have hz:([]:List LvS).length+L.length=L.length:=by simp
   rw[hz] at e1 e2;have HK:=Lib.hid e2;clear h hl hb hown h1 e2 e3 e4 hT hz;unfold LvsRowOut;obtain⟨m,hm⟩:∃ m,m=L.length:=⟨_,rfl⟩
   have HM:=Lib.hid hm;rw[← hm] at e1 HK ⊢;clear hm;have HE:=Lib.hid e1;have hq:=fun W=>lvs_isnil (some a) m cap W
   clear e1;go_enter Tryz.func104,Tryz.ntmps104;go_wp2_with (first | (at_builtin;refine wpList_append_two rfl _ _ rfl rfl rfl HE.out ?_) | fail);go_ret;exact⟨A',c',rfl,HK.out,HT.out⟩
def CpAt (w:World)(A:Option Addr)(n c:Nat)(R:LvL)(k:Nat)(wr:World) : Prop :=
 ∃ M,LvRow wr w.heap.size (.slice A n c) M∧lvl M=R∧(∀ i x,k≤i→M[i]? = some x→IntsIn w x.v x.l)∧(∀ i x,i<k→M[i]? = some x→IRow wr w.heap.size x.v x.l)∧Below w.heap.size w wr
theorem CpAt.at_ {w wr:World}{A:Option Addr}{n c k:Nat}{R:LvL}(h:CpAt w A n c R k wr)(hn:n=R.length)(hk:k<n) : ∃ g u x,A=some ⟨g,0,none⟩∧w.heap.size≤g∧g<wr.heap.size∧R[k]? = some x∧wr.cell? ⟨g,k,none⟩=some u∧wr.frozen? ⟨g,k,none⟩=false∧IntsIn wr u x:=by
 obtain⟨M,h1,h2,h3,h4,h5⟩:=h;have hl:M.length=n:=by rw[← lvl_length,h2,hn]
 obtain⟨y,hy⟩:∃ y,M[k]? = some y:=⟨_,List.getElem?_eq_getElem (by omega)⟩
 obtain⟨g,rfl,e1,e2,-⟩:=LvRow.some_ h1 (by omega);obtain⟨c1,c2⟩:=LvRow.cell h1 hl.symm hy;exact⟨g,y.v,y.l,rfl,e1,e2,by rw[← h2];exact lvl_at hy,c1,c2,(h3 k y (Nat.le_refl _) hy).below h5 (Nat.le_refl _)⟩
theorem CpAt.next {w wr w2:World}{g n c k m c2:Nat}{A:Option Addr}{R:LvL}{x:List Int}(h:CpAt w (some ⟨g,0,none⟩) n c R k wr)(hn:n=R.length)(hx:R[k]? = some x)(hnew:IRow w2 wr.heap.size (.slice A m c2) x)(hb2:Below wr.heap.size wr w2) :
  CpAt w (some ⟨g,0,none⟩) n c R (k+1) (w2.setCell ⟨g,k,none⟩ (.slice A m c2)):=by
 have hk:k<R.length:=(List.getElem?_eq_some_iff.1 hx).1;obtain⟨M,h1,h2,h3,h4,h5⟩:=h;have hl:M.length=n:=by rw[← lvl_length,h2,hn]
 obtain⟨g',e,hg1,hg2,-⟩:=LvRow.some_ h1 (by omega);obtain rfl:g=g':=by cases e;rfl
 have r1:=LvRow.below h1 hb2 (Nat.le_refl _);have r3:=LvRow.put r1 hl.symm (i:=k) ⟨.slice A m c2,x⟩
 have hset:R.set k x=R:=List.ext_getElem? fun j=>by
  rw[List.getElem?_set];split
  ·rename_i e;subst e;rw[hx]
  ·rfl
 refine⟨M.set k ⟨.slice A m c2,x⟩,r3,by rw[lvl_set,h2];exact hset,fun i y hi hy=>?_,fun i y hi hy=>?_,(h5.trans (hb2.mono h5.size)).setCell hg1 _⟩
 ·rw[List.getElem?_set,if_neg (by omega)] at hy;exact h3 i y (by omega) hy
 ·rw[List.getElem?_set] at hy;split at hy
  ·split at hy
   ·obtain rfl:=Option.some.inj hy;exact IRow.far_l (IRow.down hnew h5.size) r1
   ·cases hy
  ·rename_i hne;exact IRow.far_l (IRow.below (h4 i y (by omega) hy) hb2 (Nat.le_refl _)) r1
theorem CpAt.done {w wr:World}{A:Option Addr}{n c k:Nat}{R:LvL}(h:CpAt w A n c R k wr)(hk:R.length≤k) : LvsNew wr w.heap.size (.slice A n c) R:=by
 obtain⟨M,h1,h2,h3,h4,h5⟩:=h;refine⟨M,h1,fun x hx=>?_,h2⟩;obtain⟨i,hi⟩:=List.getElem?_of_mem hx;have hlt:=(List.getElem?_eq_some_iff.1 hi).1;have hl:M.length=R.length:=by rw[← lvl_length,h2]
 exact h4 i x (by omega) hi
theorem CpAt.drew {w wr:World}{A:Option Addr}{n c k:Nat}{R:LvL}(h:CpAt w A n c R k wr) : CpAt w A n c R k wr.drew:=by
 obtain⟨M,h1,h2,h3,h4,h5⟩:=h;exact⟨M,LvRow.below h1 (Below.refl _ _).drew (Nat.le_refl _),h2,h3,fun i x hi hx=>IRow.below (h4 i x hi hx) (Below.refl _ _).drew (Nat.le_refl _),h5.drew⟩
theorem lvman_ne : (96:TypeId)≠40∧(3:TypeId)≠40:=by decide
theorem LvsNew.off {w:World}{base g i:Nat}{v u:Value}{R:LvL}{cs:Array Value}(h:LvsNew w base v R)(hb:Blok w g 40 cs) : LvsNew (w.setCell ⟨g,i,none⟩ u) base v R:=by
 obtain⟨M,h1,h2,h3⟩:=h;exact⟨M,own_far h1 (own_ne h1 hb lvman_ne.1) u,fun x hx=>own_far (h2 x hx) (own_ne (h2 x hx) hb lvman_ne.2) u,h3⟩
theorem CpAt.off {w wr:World}{A:Option Addr}{n c k g i:Nat}{R:LvL}{u:Value}{cs:Array Value}(h:CpAt w A n c R k wr)(hb:Blok wr g 40 cs)(hg:w.heap.size≤g) : CpAt w A n c R k (wr.setCell ⟨g,i,none⟩ u):=by
 obtain⟨M,h1,h2,h3,h4,h5⟩:=h;exact⟨M,own_far h1 (own_ne h1 hb lvman_ne.1) u,h2,h3,fun i x hi hx=>own_far (h4 i x hi hx) (own_ne (h4 i x hi hx) hb lvman_ne.2) u,h5.setCell hg u⟩
def ManEnd (w:World)(n c:Int)(d:Nat)(R:LvL)(e:Ending)(w':World) : Prop:=∃ A cp,e = .returned (manV n c d (.slice A R.length cp))∧LvsNew w' w.heap.size (.slice A R.length cp) R∧Below w.heap.size w w'
theorem four_cells {w:World}{g:Nat}{t:TypeId}{a b c d:Value}(h:Blok w g t #[a,b,c,d]) : w.cell? ⟨g,0,none⟩=some a∧w.cell? ⟨g,1,none⟩=some b∧w.cell? ⟨g,2,none⟩=some c∧w.cell? ⟨g,3,none⟩=some d:=⟨h.cell 0,h.cell 1,h.cell 2,h.cell 3⟩
theorem four_frozen {w:World}{g:Nat}{t:TypeId}{cs:Array Value}(h:Blok w g t cs) : w.frozen? ⟨g,0,none⟩=false∧w.frozen? ⟨g,1,none⟩=false∧w.frozen? ⟨g,2,none⟩=false∧w.frozen? ⟨g,3,none⟩=false:=⟨h.frozen 0,h.frozen 1,h.frozen 2,h.frozen 3⟩
set_option maxHeartbeats 4000000 in
theorem xcopied_any (n c:Int)(d:Nat)(A:Option Addr)(cp:Nat)(R:LvL)(w:World)(h:LvsHas w (.slice A R.length cp) R)(hl:R.flatten.length≤100000)(hL:R.length≤100000) :
  Calls Tryz.prog 42 #[manV n c d (.slice A R.length cp)] w (ManEnd w n c d R):=by
 obtain⟨M0,hin,hM0⟩:=h;have hm0:M0.length=R.length:=by rw[← hM0,lvl_length]
 obtain⟨w1,hw1⟩:∃ w1,(w.alloc (.cells #[.int .i64 n,.int .i64 c,.int .u64 (d:Nat),.slice A R.length cp] 40)).alloc (.cells #[.int .i64 0,.int .i64 0,.int .u64 0,.slice none 0 0] 40)=w1:=⟨_,rfl⟩
 have b2:Below w.heap.size w w1:=by
  rw[← hw1];exact((Below.refl w.heap.size w).alloc (Nat.le_refl _) _).alloc (by simp) _
 have B1:Blok w1 w.heap.size 40 #[.int .i64 n,.int .i64 c,.int .u64 (d:Nat),.slice A R.length cp]:=by
  rw[← hw1];exact(Blok.new w _ _).alloc _
 have B2:Blok w1 (w.heap.size+1) 40 #[.int .i64 0,.int .i64 0,.int .u64 0,.slice none 0 0]:=by
  have:=Blok.new (w.alloc (.cells #[.int .i64 n,.int .i64 c,.int .u64 (d:Nat),.slice A R.length cp] 40)) 40 #[.int .i64 0,.int .i64 0,.int .u64 0,.slice none 0 0];rw[World.size_alloc,hw1] at this;exact this
 have hsz:w1.heap.size=w.heap.size+2:=by rw[← hw1];simp
 unfold manV ManEnd;have hw1':=hw1;have HCL:=lvclone_any _ M0 w1 (hin.below b2 (Nat.le_refl _)) (by omega);have HIN:=Lib.hid hin;have HM0:=Lib.hid hM0;have HB1:=Lib.hid B1;have HB2:=Lib.hid B2;have HBEL:=Lib.hid b2;have HSZ:=Lib.hid hsz;have HF1:=Lib.hid (fun k x (hx:R[k]? = some x)=>flat_one hx);have HL:=Lib.hid hl;obtain⟨k0,k1,k2,k3⟩:=four_cells B1;unfold LvsRowOut at HCL;obtain⟨m,hm⟩:∃ m,m=R.length:=⟨_,rfl⟩
 have HMM:=Lib.hid hm;rw[hm0,← hm] at HCL;have HC:=Lib.hid HCL;rw[← hm] at k3 ⊢;rw[← hm] at HB1 hw1';have HLm:Hid (m≤100000):=Lib.hid (by omega);clear hin hM0 hm0 b2 B1 B2 hl hL hw1 hsz HCL hm;go_enter Tryz.func42,Tryz.ntmps42;go_wp2_with fail;refine HC.out.mono ?_;rintro e w2 ⟨A2,c2,rfl,hrow,hb2⟩;have B1:Blok w2 w.heap.size 40 #[.int .i64 n,.int .i64 c,.int .u64 (d:Nat),.slice A m cp]:=Blok.below HB1.out hb2;have B2:Blok w2 (w.heap.size+1) 40 #[.int .i64 0,.int .i64 0,.int .u64 0,.slice none 0 0]:=Blok.below HB2.out hb2;have hbw:Below w.heap.size w w2:=HBEL.out.trans (hb2.mono HBEL.out.size);have hrd:=LvRow.down hrow (show w.heap.size≤w1.heap.size from HBEL.out.size);have hcp:CpAt w A2 m c2 R 0 w2:=⟨M0,hrd,HM0.out,fun i x _ hx=>HIN.out.2 x (List.mem_of_getElem? hx),fun i x hi=>absurd hi (Nat.not_lt_zero _),hbw⟩
 have H2:=Lib.hid (hcp.off (i:=3) (u:=.slice A2 m c2) B1 (Nat.le_refl _));have P1:=Lib.hid (B1.put 3 (.slice A2 m c2));have P2:=Lib.hid (B2.far (p:=⟨w.heap.size,3,none⟩) (by simp) (.slice A2 m c2));have q3:=B1.cell 3;have f3:=B1.frozen 3;clear hrow hb2 B1 B2 hbw hrd hcp k0 k1 k2 k3 hw1' HC;obtain⟨w3,hw3⟩:∃ w3,w2.setCell ⟨w.heap.size,3,none⟩ (.slice A2 m c2)=w3:=⟨_,rfl⟩
 rw[hw3] at H2 P1 P2;have z3:w3.cell? ⟨w.heap.size,3,none⟩=some (.slice A2 m c2):=P1.out.cell 3;go_wp2;go_loopg [12] m (fun g i wr=>∃ (k:Nat),k+g=m∧i = .int .i64 k∧CpAt w A2 m c2 R k wr∧Blok wr w.heap.size 40 #[.int .i64 n,.int .i64 c,.int .u64 (d:Nat),.slice A2 m c2]∧Blok wr (w.heap.size+1) 40 #[.int .i64 0,.int .i64 0,.int .u64 0,.slice none 0 0])
 case atStart=>exact⟨0,by omega,rfl,H2.out,P1.out,P2.out⟩
 case round =>
  obtain⟨k,hkg,rfl,hf,p1,p2⟩:=hrel;have HF:=Lib.hid hf;have HP1:=Lib.hid p1;have HP2:=Lib.hid p2;obtain⟨k0,k1,k2,k3⟩:=four_cells p1;obtain⟨r0,r1,r2,r3⟩:=four_cells p2;obtain⟨t0,t1,t2,t3⟩:=four_frozen p2;clear hf p1 p2 H2 P1 P2 z3;cases gk with
  | zero =>
    obtain rfl:k=m:=by omega
    have s1:¬ (k:Int)<(k:Int):=by omega
    have HFIN:=Lib.hid (show LvsNew (manSet wr (w.heap.size+1) (.int .i64 n) (.int .i64 c) (.int .u64 (d:Nat)) (.slice A2 k c2)) w.heap.size (.slice A2 k c2) R from(((((HF.out.done (by rw[← HMM.out];exact Nat.le_refl _)).off HP2.out).off (HP2.out.put 0 (.int .i64 n))).off ((HP2.out.put 0 (.int .i64 n)).put 1 (.int .i64 c))).off (((HP2.out.put 0 (.int .i64 n)).put 1 (.int .i64 c)).put 2 (.int .u64 (d:Nat)))))
    have HBF:=Lib.hid (show Below w.heap.size w (manSet wr (w.heap.size+1) (.int .i64 n) (.int .i64 c) (.int .u64 (d:Nat)) (.slice A2 k c2)) from by
     obtain⟨M,-,-,-,-,hb⟩:=HF.out;exact manSet_below hb (Nat.le_succ _) _ _ _ _)
    unfold manSet at HFIN HBF;go_wp2;exact bodyPost_ret (v:=manV n c d (.slice A2 k c2)) (by simp[results,manV,Tryz.results42,go_sem,r0,r1,r2,r3]) rfl ⟨A2,c2,rfl,HFIN.out,HBF.out⟩
  | succ gi =>
    have hkm:k<m:=by omega
    have s1:(k:Int)<(m:Int):=by omega
    obtain⟨g,u,x,rfl,hg1,hg2,hx,hc1,hfz,hix⟩:=HF.out.at_ HMM.out hkm;obtain⟨A5,o5,c5,rfl,-,-⟩:=hix.form;have hxs:=HF1.out k x hx;have hxl:=HL.out;have HCL:=Lib.hid (iclone_any _ x wr.drew (hix.below (Below.refl _ _).drew (Nat.le_refl _)) (by omega));have HX:=Lib.hid hx
    have hne:w.heap.size≠g:=by
     obtain⟨M,q,-⟩:=HF.out;exact fun e=>own_ne q HP1.out lvman_ne.1 (by rw[e];rfl)
    have hne2:w.heap.size+1≠g:=by
     obtain⟨M,q,-⟩:=HF.out;exact fun e=>own_ne q HP2.out lvman_ne.1 (by rw[e];rfl)
    have hmm:=HLm.out;have hsz0:w.heap.size<wr.heap.size:=HP1.out.lt;have hs0:w.heap.size<wr.drew.heap.size∧wr.drew.cell? ⟨w.heap.size,3,none⟩=some (.slice (some ⟨g,0,none⟩) m c2):=⟨hsz0,k3⟩
    have HSS:=Lib.hid (fun(W:World) (i:Nat) (y v:Value) (h:w.heap.size<W.heap.size∧W.cell? ⟨w.heap.size,3,none⟩=some v)=>(show w.heap.size<(W.setCell ⟨g,i,none⟩ y).heap.size∧(W.setCell ⟨g,i,none⟩ y).cell? ⟨w.heap.size,3,none⟩=some v from⟨by simpa[World.setCell] using h.1,(World.cell?_of_block (w:=W) (Below.heap_setCell _ _ _ _ (by simpa using hne))).trans h.2⟩));unfold IntsOut at HCL;clear hx hxs hxl hix r0 r1 r2 r3 t0 t1 t2 t3 k0 k1 k2;obtain⟨y,hy⟩:∃ y,y=x.length:=⟨_,rfl⟩
    rw[← hy] at HCL hc1;have HY:=Lib.hid hy;clear hy;go_wp2_with fail
    go_region_held3 (fun W=>w.heap.size<W.heap.size∧W.cell? ⟨w.heap.size,3,none⟩=some (.slice (some ⟨g,0,none⟩) m c2))
     (first | (with_reducible assumption) | (with_reducible exact HSS.out _ _ _ _ (by with_reducible assumption)) | fail)
     (first
     | (go_at_call 105;((with_reducible refine HCL.out.mono ?_);rintro e w9 ⟨A9,c9,rfl,h9,b9⟩;have hS9:w.heap.size<w9.heap.size∧w9.cell? ⟨w.heap.size,3,none⟩=some (.slice (some ⟨g,0,none⟩) m c2):=⟨Nat.lt_of_lt_of_le hsz0 b9.size,(b9.cell (p:=⟨w.heap.size,3,none⟩) hsz0).trans k3⟩;have d3:=(b9.cell (p:=⟨g,k,none⟩) hg2).trans hc1;have d4:w9.frozen? ⟨g,k,none⟩=false:=by rw[World.frozen?_of_block (w:=wr.drew) (b9.block _ hg2)];exact hfz))
     | fail)
    have HNX:=Lib.hid (HF.out.drew.next HMM.out HX.out h9 b9);have HQ1:=Lib.hid ((Blok.below HP1.out.drew b9).far (p:=⟨g,k,none⟩) hne (.slice A9 y c9));have HQ2:=Lib.hid ((Blok.below HP2.out.drew b9).far (p:=⟨g,k,none⟩) hne2 (.slice A9 y c9));clear h9 b9 hS9 d3 d4;go_wp2;go_roundg gi
    case measure=>omega
    case rel=>exact⟨k+1,by omega,by go_num,HNX.out,HQ1.out,HQ2.out⟩
end
end Go.Proofs.YtokbfellcadkpaaGreat
namespace Go.Proofs.YtokbfellcadkpaaGreat
open Go.RowKit Go.Shelf
set_option linter.unusedVariables false
set_option maxRecDepth 100000
structure IxCells (w:World)(base gx gd r:Nat)(S:IxS)(Fm Gr Gk:List Nat)(gm:Nat)(A:Option Addr)(cp:Nat)(B:Option Addr)(c2:Nat)(ps:List Nat) : Prop where
 blok:Blok w gx 89 #[ptr gx,ptr gd,.int .i64 S.m.next,.int .i64 S.m.check,.int .u64 (S.m.seed:Nat),.slice A S.m.lv.length cp,.slice B ps.length c2,.float .f64 r,mtp gm]
 lv:LvKeep w (.slice A S.m.lv.length cp) S.m.lv Gk
 row:PRow w base (.slice B ps.length c2) ps
 tabs:TabsAt w gd ps S.T Gk
 mem:TabAt w base gm Fm S.mem
 own:gx∈Gr
 rowOwn:∀ b∈ownL (.slice B ps.length c2),b∈Gr
 low:base≤gx
section
variable {w w' : World} {base gx gd r gm cp c2 : Nat} {S : IxS} {Fm Gr Gk ps : List Nat} {A B : Option Addr}
theorem IxM.cells (h:IxM w base gx gd r S Fm Gr Gk) : ∃ gm A cp B c2 ps,IxCells w base gx gd r S Fm Gr Gk gm A cp B c2 ps:=by
 obtain⟨gm,lv,tv,ps,h1,h2,h3,h4,h5,h6,h7,h8⟩:=h;obtain⟨A,off,cp,rfl,-,-⟩:=h2.now.form;obtain⟨B,c2,rfl,-,-,-⟩:=h3.form;exact⟨gm,A,cp,B,c2,ps,h1,h2,h3,h4,h5,h6,h7,h8⟩
theorem IxCells.cs (h:IxCells w base gx gd r S Fm Gr Gk gm A cp B c2 ps) : w.cell? ⟨gx,0,none⟩=some (ptr gx)∧w.cell? ⟨gx,1,none⟩=some (ptr gd)∧w.cell? ⟨gx,2,none⟩=some (.int .i64 S.m.next)∧w.cell? ⟨gx,3,none⟩=some (.int .i64 S.m.check) ∧
  w.cell? ⟨gx,4,none⟩=some (.int .u64 (S.m.seed:Nat))∧w.cell? ⟨gx,5,none⟩=some (.slice A S.m.lv.length cp)∧w.cell? ⟨gx,6,none⟩=some (.slice B ps.length c2)∧w.cell? ⟨gx,7,none⟩=some (.float .f64 r)∧w.cell? ⟨gx,8,none⟩=some (mtp gm) :=
 ⟨h.blok.cell 0,h.blok.cell 1,h.blok.cell 2,h.blok.cell 3,h.blok.cell 4,h.blok.cell 5,h.blok.cell 6,h.blok.cell 7,h.blok.cell 8⟩
end
section
variable {At : Lies} (api : DiskApi At) {w0 w w' : World} {gd gx r : Nat} {S : IxS} {D : DiskS} {E : List Nat}
theorem xwaiting_run (h:IxAt At w0 gd gx r S D E w) : Calls Tryz.prog 22 #[ptr gx] w fun e w'=>e = .returned (.int .i64 (S.mem.length:Nat))∧w=w':=by
 obtain⟨Fm,Gr,Gk,-,hM,-⟩:=h;obtain⟨gm,A,cp,B,c2,ps,hC⟩:=hM.cells;obtain⟨c0,-,-,-,-,-,-,-,c8⟩:=hC.cs;have hn:=Lib.hid (xnone_run c0);have hl:=Lib.hid (tlen_run hC.mem);clear hM hC;generalize S.mem.length=n at *;go_enter Tryz.func22,Tryz.ntmps22;go_wp2_with fail;refine hn.out.mono ?_;rintro e w' ⟨rfl,rfl⟩;go_wp2_with fail;refine hl.out.mono ?_;rintro e w' ⟨rfl,rfl⟩;go_wp2;go_ret;exact⟨rfl,rfl⟩
theorem xmanifest_none {w:World}{p:Value}(h:IxNone w p) : Calls Tryz.prog 11 #[p] w (ManEnd w 0 0 0 []):=by
 have hb:=(Below.refl w.heap.size w).alloc (Nat.le_refl _) (.cells #[.int .i64 0,.int .i64 0,.int .u64 0,.slice none 0 0] 40);have B:=Blok.new w 40 #[.int .i64 0,.int .i64 0,.int .u64 0,.slice none 0 0];obtain⟨w1,hw1⟩:∃ w1,w.alloc (.cells #[.int .i64 0,.int .i64 0,.int .u64 0,.slice none 0 0] 40)=w1:=⟨_,rfl⟩
 rw[hw1] at hb B;have hn:=Lib.hid (xnone_any (h.below hb));have HB:=Lib.hid hb;obtain⟨k0,k1,k2,k3⟩:=four_cells B;obtain⟨f0,f1,f2,f3⟩:=four_frozen B;clear h hb B;go_enter Tryz.func11,Tryz.ntmps11;go_wp2_with fail;refine hn.out.mono ?_;rintro e w' ⟨rfl,rfl⟩;go_wp2;exact bodyPost_ret (v:=manV 0 0 0 (.slice none 0 0)) (by simp[results,manV,Tryz.results11,go_sem,k0,k1,k2,k3]) rfl ⟨none,0,rfl,LvsNew.nil _ _,manSet_below HB.out (Nat.le_refl _) _ _ _ _⟩
include api
set_option maxHeartbeats 1000000 in
theorem xmanifest_run (h:IxAt At w0 gd gx r S D E w)(ok:IxOk D S) : Calls Tryz.prog 11 #[ptr gx] w (ManEnd w S.m.next S.m.check S.m.seed S.m.lv):=by
 have hb:=(Below.refl w.heap.size w).alloc (Nat.le_refl _) (.cells #[.int .i64 0,.int .i64 0,.int .u64 0,.slice none 0 0] 40);have B:=Blok.new w 40 #[.int .i64 0,.int .i64 0,.int .u64 0,.slice none 0 0];have hz:(w.alloc (.cells #[.int .i64 0,.int .i64 0,.int .u64 0,.slice none 0 0] 40)).heap.size=w.heap.size+1:=by simp
 obtain⟨w1,hw1⟩:∃ w1,w.alloc (.cells #[.int .i64 0,.int .i64 0,.int .u64 0,.slice none 0 0] 40)=w1:=⟨_,rfl⟩
 rw[hw1] at hb B hz;obtain⟨Fm,Gr,Gk,-,hM,-⟩:=h.below api hb;obtain⟨gm,A,cp,B2,c2,ps,hC⟩:=hM.cells;obtain⟨c0,-,d0,d1,d2,d3,-,-,-⟩:=hC.cs;have hn:=Lib.hid (xnone_run c0);have hmay:=ok.may.2.2.2.2.1;have hc:=xcopied_any S.m.next S.m.check S.m.seed A cp S.m.lv w1 hC.lv.now (by have:=hmay.2.1;omega) (by have:=hmay.1;omega);have HB:=Lib.hid hb;have HBL:=Lib.hid B;have HZ:=Lib.hid hz;clear h ok hM hC hb B hmay hz;unfold ManEnd manV at hc;unfold ManEnd;have HC:=Lib.hid hc;clear hc;generalize S.m.next=x0 at *;generalize S.m.check=x1 at *;generalize S.m.seed=x2 at *;generalize S.m.lv=R at *;obtain⟨m,hm⟩:∃ m,m=R.length:=⟨_,rfl⟩
 have HM:=Lib.hid hm;rw[← hm] at HC d3 ⊢;clear hm;go_enter Tryz.func11,Tryz.ntmps11;go_wp2_with fail;refine hn.out.mono ?_;rintro e w' ⟨rfl,rfl⟩;go_wp2_with fail;refine HC.out.mono ?_;rintro e w2 ⟨A2,cp2,rfl,hnew,b2⟩;have BL:=Blok.below HBL.out b2;obtain⟨k0,k1,k2,k3⟩:=four_cells BL;obtain⟨f0,f1,f2,f3⟩:=four_frozen BL;have HN:=Lib.hid ((hnew.manSet (g:=w.heap.size) (by rw[HZ.out];omega) (.int .i64 x0) (.int .i64 x1) (.int .u64 (x2:Nat)) (.slice A2 m cp2)).down (base':=w.heap.size) (by rw[HZ.out];omega));have HB2:=Lib.hid (manSet_below (HB.out.trans (b2.mono HB.out.size)) (Nat.le_refl _) (.int .i64 x0) (.int .i64 x1) (.int .u64 (x2:Nat)) (.slice A2 m cp2));unfold manSet at HN HB2;clear hnew b2 BL;go_wp2;exact bodyPost_ret (v:=manV x0 x1 x2 (.slice A2 m cp2)) (by simp[results,manV,Tryz.results11,go_sem,k0,k1,k2,k3]) rfl ⟨A2,cp2,rfl,HN.out,HB2.out⟩
def addX (S:IxS)(x:EntS) : IxS:=if mayE x=true then { S with mem:=layEn S.mem x } else S
def addXE (x:EntS) : Nat:=if mayE x=true then 0 else 2
omit api in
theorem IxAt.mem_end (api:DiskApi At){gm:Nat}{A B:Option Addr}{cp c2:Nat}{ps Fm Gr Gk F':List Nat}{l:List EntS}(h1:DS At w0 gd D (Fm++(Gr++(Gk++E))) w)(hC:IxCells w w0.heap.size gx gd r S Fm Gr Gk gm A cp B c2 ps)
  (h3:∀ b∈Fm,b ∉ Gr∧b ∉ Gk∧b ∉ E) (h4:∀ b∈Gr,b ∉ Gk∧b ∉ E) (h5:∀ b∈Gk,b ∉ E) (h6:∀ b∈Fm++Gr,w0.heap.size≤b)
  (hT:TabAt w' w0.heap.size gm F' l) (hF:∀ x∈F',x∈Fm∨w.heap.size≤x) (ht:Touch Fm w w'):IxAt At w0 gd gx r { S with mem:=l } D E w'∧Kept E w w':=by
 have hlt:=h1.lt
 have hE:∀ b∈Gr++(Gk++E),b<w.heap.size∧b ∉ Fm:=fun b hb=>⟨hlt b (List.mem_append_right _ hb),fun hm=>by
  rcases List.mem_append.1 hb with k | k
  ·exact(h3 b hm).1 k
  ·rcases List.mem_append.1 k with k | k
   ·exact(h3 b hm).2.1 k
   ·exact(h3 b hm).2.2 k⟩
 have hK:Kept (Gr++(Gk++E)) w w':=Kept.of_touch ht hE;have hF2:∀ x∈F',w0.heap.size≤x∧x<w'.heap.size:=by obtain⟨v,h1,h2,h3,h4,h5,h6,h7⟩:=hT;exact h5
 have hnew:∀ b∈F',∀ G:List Nat,(∀ c∈G,c<w.heap.size)→(b∈Fm→b ∉ G)→b ∉ G:=fun b hb G hG hn hm=>by
  rcases hF b hb with k | k
  ·exact hn k hm
  ·have:=hG b hm;omega
 refine⟨⟨F',Gr,Gk,h1.turn api ht (fun b hb=>⟨List.mem_append_left _ hb,h6 b (List.mem_append_left _ hb)⟩) (fun b hb=>?_),⟨gm,_,_,ps,hK.blok hC.blok (List.mem_append_left _ hC.own),hC.lv.step (hK.less (fun b hb=>List.mem_append_right _ (List.mem_append_left _ hb))),hK.prow hC.row (fun b hb=>List.mem_append_left _ (hC.rowOwn b hb)),hC.tabs.keep hK (fun b hb=>List.mem_append_right _ (List.mem_append_left _ hb)),hT,hC.own,hC.rowOwn,hC.low⟩,fun b hb=>?_,h4,h5,fun b hb=>?_⟩,hK.less (fun b hb=>List.mem_append_right _ (List.mem_append_right _ hb))⟩
 ·rcases List.mem_append.1 hb with k | k
  ·rcases hF b k with q | q
   ·exact Or.inl (List.mem_append_left _ q)
   ·exact Or.inr ⟨q,(hF2 b k).2⟩
  ·exact Or.inl (List.mem_append_right _ k)
 ·exact⟨hnew b hb Gr (fun c hc=>hlt c (List.mem_append_right _ (List.mem_append_left _ hc))) (fun k=>(h3 b k).1),hnew b hb Gk (fun c hc=>hlt c (List.mem_append_right _ (List.mem_append_right _ (List.mem_append_left _ hc)))) (fun k=>(h3 b k).2.1),hnew b hb E (fun c hc=>hlt c (List.mem_append_right _ (List.mem_append_right _ (List.mem_append_right _ hc)))) (fun k=>(h3 b k).2.2)⟩
 ·rcases List.mem_append.1 hb with k | k
  ·exact(hF2 b k).1
  ·exact h6 b (List.mem_append_right _ k)
set_option maxHeartbeats 2000000 in
theorem xadd_run (h:IxAt At w0 gd gx r S D E w){x:EntS}(hx:EntOk x)(hn:S.mem.length≤100000) : Calls Tryz.prog 18 #[ptr gx,entB x] w (IxEnd At w0 gd gx r (err (addXE x)) (addX S x) D E w):=by
 have hb:=(Below.refl w.heap.size w).alloc (Nat.le_refl _) (.cells #[.int .u64 (x.h:Nat),.int .i64 x.v,.int .i64 x.p] 63);have Bx:=Blok.new w 63 #[.int .u64 (x.h:Nat),.int .i64 x.v,.int .i64 x.p];have HLT:=Lib.hid h.lt;have h1:=h.more api hb (B:=[w.heap.size]) (fun b hm=>by rw[List.mem_singleton.1 hm];exact⟨Nat.le_refl _,Bx.lt⟩);obtain⟨w1,hw1⟩:∃ w1,w.alloc (.cells #[.int .u64 (x.h:Nat),.int .i64 x.v,.int .i64 x.p] 63)=w1:=⟨_,rfl⟩
 rw[hw1] at hb Bx h1;obtain⟨gb,hgb⟩:∃ gb,w.heap.size=gb:=⟨_,rfl⟩
 rw[hgb] at Bx h1
 have hc0:w1.cell? ⟨gx,0,none⟩=some (ptr gx):=by
  obtain⟨Fm,Gr,Gk,-,hM,-⟩:=h1;obtain⟨gm,A,cp,B2,c2,ps,hC⟩:=hM.cells;exact hC.cs.1
 have hno:=Lib.hid (xnone_run hc0);have HP:=Lib.hid (eput_any x w1 hx);have H1:=Lib.hid h1;have HBX:=Lib.hid Bx;have HB:=Lib.hid hb;have HX:=Lib.hid hx;obtain⟨x0,x1,x2⟩:w1.cell? ⟨gb,0,none⟩=some (.int .u64 (x.h:Nat))∧w1.cell? ⟨gb,1,none⟩=some (.int .i64 x.v)∧w1.cell? ⟨gb,2,none⟩=some (.int .i64 x.p):=⟨Bx.cell 0,Bx.cell 1,Bx.cell 2⟩
 have HADD:=Lib.hid fun(W:World) (F:List Nat) (gm:Nat) (hT:TabAt W w0.heap.size gm F S.mem)=>add_run hT hx hn
 clear h h1 hb Bx hx;cases hm:mayE x with
 | false =>
   have e1:addX S x=S:=by unfold addX;rw[hm];rfl
   have e2:addXE x=2:=by unfold addXE;rw[hm];rfl
   rw[e1,e2];rw[en_put_no hm] at HP;clear e1 e2 hm HADD;obtain⟨xh,xv,xp⟩:=x;go_enter Tryz.func18,Tryz.ntmps18;go_wp2_with fail;refine hno.out.mono ?_;rintro e w' ⟨rfl,rfl⟩;go_wp2_with fail;refine HP.out.mono ?_;rintro e w2 ⟨rfl,b2⟩;have H2:=Lib.hid (H1.out.below api b2);have HK:=Lib.hid ((Kept.of_below HB.out HLT.out).trans (Kept.of_below b2 (fun b hb=>Nat.lt_of_lt_of_le (HLT.out b hb) HB.out.size)));clear b2;go_wp2;go_ret;exact⟨rfl,H2.out.less (fun b hb=>List.mem_append_right _ hb),HK.out⟩
 | true =>
   have e1:addX S x={ S with mem:=layEn S.mem x }:=by unfold addX;rw[hm];rfl
   have e2:addXE x=0:=by unfold addXE;rw[hm];rfl
   rw[e1,e2];have hsz:=putE_size hm
   have hne:((putE x).toList==[])=false:=by
    rw[beq_eq_false_iff_ne];intro e;have hz:(putE x).toList.length=0:=by rw[e];rfl
    rw[Lib.toList_data,Array.length_toList] at hz;have:(putE x).size=0:=hz;omega
   clear e1 e2 hm hsz;generalize putE x=s at *;obtain⟨xh,xv,xp⟩:=x;go_enter Tryz.func18,Tryz.ntmps18;go_wp2_with fail;refine hno.out.mono ?_;rintro e w' ⟨rfl,rfl⟩;go_wp2_with fail;refine HP.out.mono ?_;rintro e w2 ⟨rfl,b2⟩;have H2:=H1.out.below api b2;have HK:=Lib.hid ((Kept.of_below HB.out HLT.out).trans (Kept.of_below b2 (fun b hb=>Nat.lt_of_lt_of_le (HLT.out b hb) HB.out.size)));have B2:=Blok.below HBX.out b2;obtain⟨Fm,Gr,Gk,d1,hM,d3,d4,d5,d6⟩:=H2.drew api;obtain⟨gm,A,cp,Bq,c2,ps,hC⟩:=hM.cells;have c8:w2.drew.cell? ⟨gx,8,none⟩=some (mtp gm):=hC.cs.2.2.2.2.2.2.2.2;obtain⟨x0,x1,x2⟩:w2.drew.cell? ⟨gb,0,none⟩=some (.int .u64 (xh:Nat))∧w2.drew.cell? ⟨gb,1,none⟩=some (.int .i64 xv)∧w2.drew.cell? ⟨gb,2,none⟩=some (.int .i64 xp):=⟨B2.cell 0,B2.cell 1,B2.cell 2⟩
   have hS0:w2.drew.cell? ⟨gx,8,none⟩=some (mtp gm)∧w2.drew.cell? ⟨gb,0,none⟩=some (.int .u64 (xh:Nat))∧w2.drew.cell? ⟨gb,1,none⟩=some (.int .i64 xv)∧w2.drew.cell? ⟨gb,2,none⟩=some (.int .i64 xp):=⟨c8,x0,x1,x2⟩
   have HAD:=Lib.hid (HADD.out w2.drew Fm gm hC.mem);have hgx:gx ∉ Fm:=fun hm=>(d3 gx hm).1 hC.own
   have hgb2:gb ∉ Fm∧gb<w2.drew.heap.size:=⟨fun hm=>(d3 gb hm).2.2 (List.mem_append_left _ List.mem_cons_self),B2.lt⟩
   have hgxl:gx<w2.drew.heap.size:=hC.blok.lt;have HSK:=Lib.hid (fun(W:World) (hT:Touch Fm w2.drew W)=>(show W.cell? ⟨gx,8,none⟩=some (mtp gm)∧W.cell? ⟨gb,0,none⟩=some (.int .u64 (xh:Nat))∧W.cell? ⟨gb,1,none⟩=some (.int .i64 xv)∧W.cell? ⟨gb,2,none⟩=some (.int .i64 xp) from⟨(hT.cell (p:=⟨gx,8,none⟩) hgxl hgx).trans c8,(hT.cell (p:=⟨gb,0,none⟩) hgb2.2 hgb2.1).trans x0,(hT.cell (p:=⟨gb,1,none⟩) hgb2.2 hgb2.1).trans x1,(hT.cell (p:=⟨gb,2,none⟩) hgb2.2 hgb2.1).trans x2⟩));have HEND:=Lib.hid (fun(W:World) (F':List Nat) (l:List EntS) (hT:TabAt W w0.heap.size gm F' l) (hF:∀ x∈F',x∈Fm∨w2.drew.heap.size≤x) (ht:Touch Fm w2.drew W)=>IxAt.mem_end api d1 hC d3 d4 d5 d6 hT hF ht);clear H2 d1 hM d3 d4 d5 d6 hC B2 c8 x0 x1 x2 b2 hgx hgb2 hgxl HADD;generalize layEn S.mem ⟨xh,xv,xp⟩=R at *;go_wp2_with fail
   go_region_held3 (fun W=>W.cell? ⟨gx,8,none⟩=some (mtp gm)∧W.cell? ⟨gb,0,none⟩=some (.int .u64 (xh:Nat))∧W.cell? ⟨gb,1,none⟩=some (.int .i64 xv)∧W.cell? ⟨gb,2,none⟩=some (.int .i64 xp))
    (first | (with_reducible assumption) | fail)
    (first
    | (go_at_call 71;((with_reducible refine HAD.out.mono ?_);rintro e w9 ⟨F',rfl,h9,k9,t9⟩;have hS9:=HSK.out w9 t9;have HE9:=Lib.hid (HEND.out w9 F' _ h9 k9 t9)))
    | fail)
   go_wp2;go_ret;exact⟨rfl,HE9.out.1.less (fun b hb=>List.mem_append_right _ hb),HK.out.drew.trans (HE9.out.2.less (fun b hb=>List.mem_append_right _ hb))⟩
end
end Go.Proofs.YtokbfellcadkpaaGreat
