/- ZpIxSmall, ZpIxAdd, ZpIxRef, ZpIxRefActs, ZpIxRefAdd -/
import Derived.Test.YtcpfkaehefcakaaGreatPp41
import Derived.Test.YtcpfkaehefcakaaGreatPp11
import Derived.Test.YtcpfkaehefcakaaGreatPp08
import Derived.Test.YtcpfkaehefcakaaGreatPp19
import Derived.Test.YtcpfkaehefcakaaGreatPp34
import Derived.Test.YtcpfkaehefcakaaGreatPp18
import Derived.Test.YtcpfkaehefcakaaGreatPp09
import Derived.Test.YtcpfkaehefcakaaGreatPp10
import Derived.Test.YtcpfkaehefcakaaGreatPp21
namespace Go.Proofs.YtcpfkaehefcakaaGreat
set_option maxRecDepth 100000
set_option linter.unusedVariables false
section
open Go.RowKit Go.Shelf
theorem info_index : (Tryz.prog.info? 67).map (·.size)=some 9:=by kernel_rfl
theorem xsame_in (d:Nat)(p:Addr)(w:World) : (Op.equalIn (d+1) 32 (.pointer (some p)) (.pointer (some p))).run Tryz.prog w = .ok true w:=by
 cases hq:Tryz.prog.info? 67 with
 | none=>have:=info_index;rw[hq] at this;cases this
 | some i =>
   have hi:i.size=9:=by have:=info_index;rw[hq] at this;simpa using this
   simp[Op.equalIn,run_underlying Tryz.underlying32,sizeOf,typeInfo,hq,sameAddr]
theorem xnil_in (d:Nat)(p:Addr)(w:World) : (Op.equalIn (d+1) 32 (.pointer none) (.pointer (some p))).run Tryz.prog w = .ok false w:=by
 simp[Op.equalIn,run_underlying Tryz.underlying32]
theorem xsame_ptr (p:Addr)(w:World) : (binOp .neq 32 (.pointer (some p)) (.pointer (some p))).run Tryz.prog w = .ok (.bool false) w:=by
 have he:(Op.equal 32 (.pointer (some p)) (.pointer (some p))).run Tryz.prog w = .ok true w:=xsame_in 9999 p w
 simp only[binOp]
 simp[he]
theorem xnil_ptr (p:Addr)(w:World) : (binOp .neq 32 (.pointer none) (.pointer (some p))).run Tryz.prog w = .ok (.bool true) w:=by
 have he:(Op.equal 32 (.pointer none) (.pointer (some p))).run Tryz.prog w = .ok false w:=xnil_in 9999 p w
 simp only[binOp]
 simp[he]
theorem xnone_run {w:World}{g:Nat}(h:w.cell? ⟨g,0,none⟩=some (ptr g)) : Calls Tryz.prog 39 #[ptr g] w fun e w'=>e = .returned (.bool false)∧w=w':=by
 have hsp:=xsame_ptr ⟨g,0,none⟩
 go_enter Tryz.func39,Tryz.ntmps39
 go_wp2
 go_ret
 exact⟨rfl,rfl⟩
theorem xnone_nil (w:World) : Calls Tryz.prog 39 #[.pointer none] w fun e w'=>e = .returned (.bool true)∧w=w':=by
 go_enter Tryz.func39,Tryz.ntmps39
 go_wp2
 go_ret
 exact⟨rfl,rfl⟩
theorem xnone_bare {w:World}{g:Nat}(h:w.cell? ⟨g,0,none⟩=some (.pointer none)) : Calls Tryz.prog 39 #[ptr g] w fun e w'=>e = .returned (.bool true)∧w=w':=by
 have hsp:=xnil_ptr ⟨g,0,none⟩
 go_enter Tryz.func39,Tryz.ntmps39
 go_wp2
 go_ret
 exact⟨rfl,rfl⟩
def IxNone (w:World)(p:Value) : Prop:=p = .pointer none∨∃ g,p=ptr g∧w.cell? ⟨g,0,none⟩=some (.pointer none)
theorem IxNone.below {w w':World}{p:Value}(h:IxNone w p)(hb:Below w.heap.size w w') : IxNone w' p:=by
 rcases h with h | ⟨g,h1,h2⟩
 ·exact Or.inl h
 ·exact Or.inr ⟨g,h1,(hb.cell (p:=⟨g,0,none⟩) (World.block_lt_of_cell? w _ h2)).trans h2⟩
theorem xnone_any {w:World}{p:Value}(h:IxNone w p) : Calls Tryz.prog 39 #[p] w fun e w'=>e = .returned (.bool true)∧w=w':=by
 rcases h with rfl | ⟨g,rfl,h2⟩
 ·exact xnone_nil w
 ·exact xnone_bare h2
theorem lvs_isnil (A:Option Addr)(n c:Nat)(w:World) : (binOp .eql 36 (.slice A n c) (.slice none 0 0)).run Tryz.prog w = .ok (.bool A.isNone) w:=by
 have he:=run_equal_slice_nil (P:=Tryz.prog) w 36 68 A n c Tryz.underlying36
 simp only[binOp]
 simp[he]
def LvsRowOut (w:World)(L:List LvS)(e:Ending)(w':World) : Prop:=∃ A c,e = .returned (.slice A L.length c)∧LvRow w' w.heap.size (.slice A L.length c) L∧Below w.heap.size w w'
theorem lvclone_any (v:Value)(L:List LvS)(w:World)(h:LvsIn w v L)(hl:L.length≤500000) : Calls Tryz.prog 80 #[v] w (LvsRowOut w L):=by
 obtain⟨A,off,cap,rfl,-,-⟩:=h.1.form
 cases A with
 | none =>
   have hn:L=[]:=by
    rcases h.1 with⟨e,_⟩ | ⟨b,off',cap',e,_⟩
    ·exact e
    ·cases e
   subst hn
   have hq:=fun W=>lvs_isnil none 0 cap W
   clear h hl
   go_enter Tryz.func80,Tryz.ntmps80
   go_wp2
   go_ret
   exact⟨none,0,rfl,LvRow.nil _ _,Below.refl _ _⟩
 | some a =>
   have hb:=(Below.refl w.heap.size w).alloc (Nat.le_refl _) (.cells #[] 68)
   have hown:LvRow (w.alloc (.cells #[] 68)) w.heap.size (.slice (some ⟨w.heap.size,0,none⟩) 0 0) []:=World.ownsRow_made w #[] 0 (Nat.le_refl _) (Nat.zero_le _) rfl
   have h1:=h.1.below hb (Nat.le_refl _)
   obtain⟨A',c',w',e1,e2,e3,e4⟩:=lvs_append hown h1 h.2.one (by simp;omega) (by simp) 36
   have hT:=hb.trans (igrown_below e3 (B:=w.heap.size) (by simp) (fun k hk=>by simp[Value.ownBlock] at hk;omega))
   have HT:=Lib.hid hT
   rw[List.nil_append] at e2
   have hz:([]:List LvS).length+L.length=L.length:=by simp
   rw[hz] at e1 e2
   have HK:=Lib.hid e2
   clear h hl hb hown h1 e2 e3 e4 hT hz
   unfold LvsRowOut
   obtain⟨m,hm⟩:∃ m,m=L.length:=⟨_,rfl⟩
   have HM:=Lib.hid hm
   rw[← hm] at e1 HK ⊢
   clear hm
   have HE:=Lib.hid e1
   have hq:=fun W=>lvs_isnil (some a) m cap W
   clear e1
   go_enter Tryz.func80,Tryz.ntmps80
   go_wp2_with (first | (at_builtin;refine wpList_append_two rfl _ _ rfl rfl rfl HE.out ?_) | fail)
   go_ret
   exact⟨A',c',rfl,HK.out,HT.out⟩
def CpAt (w:World)(A:Option Addr)(n c:Nat)(R:LvL)(k:Nat)(wr:World) : Prop :=
 ∃ M,LvRow wr w.heap.size (.slice A n c) M∧lvl M=R∧(∀ i x,k≤i→M[i]? = some x→IntsIn w x.v x.l)∧(∀ i x,i<k→M[i]? = some x→IRow wr w.heap.size x.v x.l)∧Below w.heap.size w wr
theorem CpAt.at_ {w wr:World}{A:Option Addr}{n c k:Nat}{R:LvL}(h:CpAt w A n c R k wr)(hn:n=R.length)(hk:k<n) : ∃ g u x,A=some ⟨g,0,none⟩∧w.heap.size≤g∧g<wr.heap.size∧R[k]? = some x∧wr.cell? ⟨g,k,none⟩=some u∧wr.frozen? ⟨g,k,none⟩=false∧IntsIn wr u x:=by
 obtain⟨M,h1,h2,h3,h4,h5⟩:=h
 have hl:M.length=n:=by rw[← lvl_length,h2,hn]
 obtain⟨y,hy⟩:∃ y,M[k]? = some y:=⟨_,List.getElem?_eq_getElem (by omega)⟩
 obtain⟨g,rfl,e1,e2,-⟩:=LvRow.some_ h1 (by omega)
 obtain⟨c1,c2⟩:=LvRow.cell h1 hl.symm hy
 exact⟨g,y.v,y.l,rfl,e1,e2,by rw[← h2];exact lvl_at hy,c1,c2,(h3 k y (Nat.le_refl _) hy).below h5 (Nat.le_refl _)⟩
theorem CpAt.next {w wr w2:World}{g n c k m c2:Nat}{A:Option Addr}{R:LvL}{x:List Int}(h:CpAt w (some ⟨g,0,none⟩) n c R k wr)(hn:n=R.length)(hx:R[k]? = some x)(hnew:IRow w2 wr.heap.size (.slice A m c2) x)(hb2:Below wr.heap.size wr w2) :
  CpAt w (some ⟨g,0,none⟩) n c R (k+1) (w2.setCell ⟨g,k,none⟩ (.slice A m c2)):=by
 have hk:k<R.length:=(List.getElem?_eq_some_iff.1 hx).1
 obtain⟨M,h1,h2,h3,h4,h5⟩:=h
 have hl:M.length=n:=by rw[← lvl_length,h2,hn]
 obtain⟨g',e,hg1,hg2,-⟩:=LvRow.some_ h1 (by omega)
 obtain rfl:g=g':=by cases e;rfl
 have r1:=LvRow.below h1 hb2 (Nat.le_refl _)
 have r3:=LvRow.put r1 hl.symm (i:=k) ⟨.slice A m c2,x⟩
 have hset:R.set k x=R:=List.ext_getElem? fun j=>by
  rw[List.getElem?_set]
  split
  ·rename_i e
   subst e
   rw[hx]
  ·rfl
 refine⟨M.set k ⟨.slice A m c2,x⟩,r3,by rw[lvl_set,h2];exact hset,fun i y hi hy=>?_,fun i y hi hy=>?_,(h5.trans (hb2.mono h5.size)).setCell hg1 _⟩
 ·rw[List.getElem?_set,if_neg (by omega)] at hy
  exact h3 i y (by omega) hy
 ·rw[List.getElem?_set] at hy
  split at hy
  ·split at hy
   ·obtain rfl:=Option.some.inj hy
    exact IRow.far_l (IRow.down hnew h5.size) r1
   ·cases hy
  ·rename_i hne
   exact IRow.far_l (IRow.below (h4 i y (by omega) hy) hb2 (Nat.le_refl _)) r1
theorem CpAt.done {w wr:World}{A:Option Addr}{n c k:Nat}{R:LvL}(h:CpAt w A n c R k wr)(hk:R.length≤k) : LvsNew wr w.heap.size (.slice A n c) R:=by
 obtain⟨M,h1,h2,h3,h4,h5⟩:=h
 refine⟨M,h1,fun x hx=>?_,h2⟩
 obtain⟨i,hi⟩:=List.getElem?_of_mem hx
 have hlt:=(List.getElem?_eq_some_iff.1 hi).1
 have hl:M.length=R.length:=by rw[← lvl_length,h2]
 exact h4 i x (by omega) hi
theorem CpAt.drew {w wr:World}{A:Option Addr}{n c k:Nat}{R:LvL}(h:CpAt w A n c R k wr) : CpAt w A n c R k wr.drew:=by
 obtain⟨M,h1,h2,h3,h4,h5⟩:=h
 exact⟨M,LvRow.below h1 (Below.refl _ _).drew (Nat.le_refl _),h2,h3,fun i x hi hx=>IRow.below (h4 i x hi hx) (Below.refl _ _).drew (Nat.le_refl _),h5.drew⟩
theorem lvman_ne : (68:TypeId)≠38∧(3:TypeId)≠38:=by decide
theorem LvsNew.off {w:World}{base g i:Nat}{v u:Value}{R:LvL}{cs:Array Value}(h:LvsNew w base v R)(hb:Blok w g 38 cs) : LvsNew (w.setCell ⟨g,i,none⟩ u) base v R:=by
 obtain⟨M,h1,h2,h3⟩:=h
 exact⟨M,own_far h1 (own_ne h1 hb lvman_ne.1) u,fun x hx=>own_far (h2 x hx) (own_ne (h2 x hx) hb lvman_ne.2) u,h3⟩
theorem CpAt.off {w wr:World}{A:Option Addr}{n c k g i:Nat}{R:LvL}{u:Value}{cs:Array Value}(h:CpAt w A n c R k wr)(hb:Blok wr g 38 cs)(hg:w.heap.size≤g) : CpAt w A n c R k (wr.setCell ⟨g,i,none⟩ u):=by
 obtain⟨M,h1,h2,h3,h4,h5⟩:=h
 exact⟨M,own_far h1 (own_ne h1 hb lvman_ne.1) u,h2,h3,fun i x hi hx=>own_far (h4 i x hi hx) (own_ne (h4 i x hi hx) hb lvman_ne.2) u,h5.setCell hg u⟩
def ManEnd (w:World)(n c:Int)(d:Nat)(R:LvL)(e:Ending)(w':World) : Prop:=∃ A cp,e = .returned (manV n c d (.slice A R.length cp))∧LvsNew w' w.heap.size (.slice A R.length cp) R∧Below w.heap.size w w'
theorem four_cells {w:World}{g:Nat}{t:TypeId}{a b c d:Value}(h:Blok w g t #[a,b,c,d]) : w.cell? ⟨g,0,none⟩=some a∧w.cell? ⟨g,1,none⟩=some b∧w.cell? ⟨g,2,none⟩=some c∧w.cell? ⟨g,3,none⟩=some d:=⟨h.cell 0,h.cell 1,h.cell 2,h.cell 3⟩
theorem four_frozen {w:World}{g:Nat}{t:TypeId}{cs:Array Value}(h:Blok w g t cs) : w.frozen? ⟨g,0,none⟩=false∧w.frozen? ⟨g,1,none⟩=false∧w.frozen? ⟨g,2,none⟩=false∧w.frozen? ⟨g,3,none⟩=false:=⟨h.frozen 0,h.frozen 1,h.frozen 2,h.frozen 3⟩
set_option maxHeartbeats 4000000 in
theorem xcopied_any (n c:Int)(d:Nat)(A:Option Addr)(cp:Nat)(R:LvL)(w:World)(h:LvsHas w (.slice A R.length cp) R)(hl:R.flatten.length≤100000)(hL:R.length≤100000) :
  Calls Tryz.prog 35 #[manV n c d (.slice A R.length cp)] w (ManEnd w n c d R):=by
 obtain⟨M0,hin,hM0⟩:=h
 have hm0:M0.length=R.length:=by rw[← hM0,lvl_length]
 obtain⟨w1,hw1⟩:∃ w1,(w.alloc (.cells #[.int .i64 n,.int .i64 c,.int .u64 (d:Nat),.slice A R.length cp] 38)).alloc (.cells #[.int .i64 0,.int .i64 0,.int .u64 0,.slice none 0 0] 38)=w1:=⟨_,rfl⟩
 have b2:Below w.heap.size w w1:=by
  rw[← hw1]
  exact((Below.refl w.heap.size w).alloc (Nat.le_refl _) _).alloc (by simp) _
 have B1:Blok w1 w.heap.size 38 #[.int .i64 n,.int .i64 c,.int .u64 (d:Nat),.slice A R.length cp]:=by
  rw[← hw1]
  exact(Blok.new w _ _).alloc _
 have B2:Blok w1 (w.heap.size+1) 38 #[.int .i64 0,.int .i64 0,.int .u64 0,.slice none 0 0]:=by
  have:=Blok.new (w.alloc (.cells #[.int .i64 n,.int .i64 c,.int .u64 (d:Nat),.slice A R.length cp] 38)) 38 #[.int .i64 0,.int .i64 0,.int .u64 0,.slice none 0 0]
  rw[World.size_alloc,hw1] at this
  exact this
 have hsz:w1.heap.size=w.heap.size+2:=by rw[← hw1];simp
 unfold manV ManEnd
 have hw1':=hw1
 have HCL:=lvclone_any _ M0 w1 (hin.below b2 (Nat.le_refl _)) (by omega)
 have HIN:=Lib.hid hin
 have HM0:=Lib.hid hM0
 have HB1:=Lib.hid B1
 have HB2:=Lib.hid B2
 have HBEL:=Lib.hid b2
 have HSZ:=Lib.hid hsz
 have HF1:=Lib.hid (fun k x (hx:R[k]? = some x)=>flat_one hx)
 have HL:=Lib.hid hl
 obtain⟨k0,k1,k2,k3⟩:=four_cells B1
 unfold LvsRowOut at HCL
 obtain⟨m,hm⟩:∃ m,m=R.length:=⟨_,rfl⟩
 have HMM:=Lib.hid hm
 rw[hm0,← hm] at HCL
 have HC:=Lib.hid HCL
 rw[← hm] at k3 ⊢
 rw[← hm] at HB1 hw1'
 have HLm:Hid (m≤100000):=Lib.hid (by omega)
 clear hin hM0 hm0 b2 B1 B2 hl hL hw1 hsz HCL hm
 go_enter Tryz.func35,Tryz.ntmps35
 go_wp2_with fail
 refine HC.out.mono ?_
 rintro e w2 ⟨A2,c2,rfl,hrow,hb2⟩
 have B1:Blok w2 w.heap.size 38 #[.int .i64 n,.int .i64 c,.int .u64 (d:Nat),.slice A m cp]:=Blok.below HB1.out hb2
 have B2:Blok w2 (w.heap.size+1) 38 #[.int .i64 0,.int .i64 0,.int .u64 0,.slice none 0 0]:=Blok.below HB2.out hb2
 have hbw:Below w.heap.size w w2:=HBEL.out.trans (hb2.mono HBEL.out.size)
 have hrd:=LvRow.down hrow (show w.heap.size≤w1.heap.size from HBEL.out.size)
 have hcp:CpAt w A2 m c2 R 0 w2:=⟨M0,hrd,HM0.out,fun i x _ hx=>HIN.out.2 x (List.mem_of_getElem? hx),fun i x hi=>absurd hi (Nat.not_lt_zero _),hbw⟩
 have H2:=Lib.hid (hcp.off (i:=3) (u:=.slice A2 m c2) B1 (Nat.le_refl _))
 have P1:=Lib.hid (B1.put 3 (.slice A2 m c2))
 have P2:=Lib.hid (B2.far (p:=⟨w.heap.size,3,none⟩) (by simp) (.slice A2 m c2))
 have q3:=B1.cell 3
 have f3:=B1.frozen 3
 clear hrow hb2 B1 B2 hbw hrd hcp k0 k1 k2 k3 hw1' HC
 obtain⟨w3,hw3⟩:∃ w3,w2.setCell ⟨w.heap.size,3,none⟩ (.slice A2 m c2)=w3:=⟨_,rfl⟩
 rw[hw3] at H2 P1 P2
 have z3:w3.cell? ⟨w.heap.size,3,none⟩=some (.slice A2 m c2):=P1.out.cell 3
 go_wp2
 go_loopg [12] m (fun g i wr=>∃ (k:Nat),k+g=m∧i = .int .i64 k∧CpAt w A2 m c2 R k wr∧Blok wr w.heap.size 38 #[.int .i64 n,.int .i64 c,.int .u64 (d:Nat),.slice A2 m c2]∧Blok wr (w.heap.size+1) 38 #[.int .i64 0,.int .i64 0,.int .u64 0,.slice none 0 0])
 case atStart=>exact⟨0,by omega,rfl,H2.out,P1.out,P2.out⟩
 case round =>
  obtain⟨k,hkg,rfl,hf,p1,p2⟩:=hrel
  have HF:=Lib.hid hf
  have HP1:=Lib.hid p1
  have HP2:=Lib.hid p2
  obtain⟨k0,k1,k2,k3⟩:=four_cells p1
  obtain⟨r0,r1,r2,r3⟩:=four_cells p2
  obtain⟨t0,t1,t2,t3⟩:=four_frozen p2
  clear hf p1 p2 H2 P1 P2 z3
  cases gk with
  | zero =>
    obtain rfl:k=m:=by omega
    have s1:¬ (k:Int)<(k:Int):=by omega
    have HFIN:=Lib.hid (show LvsNew (manSet wr (w.heap.size+1) (.int .i64 n) (.int .i64 c) (.int .u64 (d:Nat)) (.slice A2 k c2)) w.heap.size (.slice A2 k c2) R from(((((HF.out.done (by rw[← HMM.out];exact Nat.le_refl _)).off HP2.out).off (HP2.out.put 0 (.int .i64 n))).off ((HP2.out.put 0 (.int .i64 n)).put 1 (.int .i64 c))).off (((HP2.out.put 0 (.int .i64 n)).put 1 (.int .i64 c)).put 2 (.int .u64 (d:Nat)))))
    have HBF:=Lib.hid (show Below w.heap.size w (manSet wr (w.heap.size+1) (.int .i64 n) (.int .i64 c) (.int .u64 (d:Nat)) (.slice A2 k c2)) from by
     obtain⟨M,-,-,-,-,hb⟩:=HF.out
     exact manSet_below hb (Nat.le_succ _) _ _ _ _)
    unfold manSet at HFIN HBF
    go_wp2
    exact bodyPost_ret (v:=manV n c d (.slice A2 k c2)) (by simp[results,manV,Tryz.results35,go_sem,r0,r1,r2,r3]) rfl ⟨A2,c2,rfl,HFIN.out,HBF.out⟩
  | succ gi =>
    have hkm:k<m:=by omega
    have s1:(k:Int)<(m:Int):=by omega
    obtain⟨g,u,x,rfl,hg1,hg2,hx,hc1,hfz,hix⟩:=HF.out.at_ HMM.out hkm
    obtain⟨A5,o5,c5,rfl,-,-⟩:=hix.form
    have hxs:=HF1.out k x hx
    have hxl:=HL.out
    have HCL:=Lib.hid (iclone_any _ x wr.drew (hix.below (Below.refl _ _).drew (Nat.le_refl _)) (by omega))
    have HX:=Lib.hid hx
    have hne:w.heap.size≠g:=by
     obtain⟨M,q,-⟩:=HF.out
     exact fun e=>own_ne q HP1.out lvman_ne.1 (by rw[e];rfl)
    have hne2:w.heap.size+1≠g:=by
     obtain⟨M,q,-⟩:=HF.out
     exact fun e=>own_ne q HP2.out lvman_ne.1 (by rw[e];rfl)
    have hmm:=HLm.out
    have hsz0:w.heap.size<wr.heap.size:=HP1.out.lt
    have hs0:w.heap.size<wr.drew.heap.size∧wr.drew.cell? ⟨w.heap.size,3,none⟩=some (.slice (some ⟨g,0,none⟩) m c2):=⟨hsz0,k3⟩
    have HSS:=Lib.hid (fun(W:World) (i:Nat) (y v:Value) (h:w.heap.size<W.heap.size∧W.cell? ⟨w.heap.size,3,none⟩=some v)=>(show w.heap.size<(W.setCell ⟨g,i,none⟩ y).heap.size∧(W.setCell ⟨g,i,none⟩ y).cell? ⟨w.heap.size,3,none⟩=some v from⟨by simpa[World.setCell] using h.1,(World.cell?_of_block (w:=W) (Below.heap_setCell _ _ _ _ (by simpa using hne))).trans h.2⟩))
    unfold IntsOut at HCL
    clear hx hxs hxl hix r0 r1 r2 r3 t0 t1 t2 t3 k0 k1 k2
    obtain⟨y,hy⟩:∃ y,y=x.length:=⟨_,rfl⟩
    rw[← hy] at HCL hc1
    have HY:=Lib.hid hy
    clear hy
    go_wp2_with fail
    go_region_held3 (fun W=>w.heap.size<W.heap.size∧W.cell? ⟨w.heap.size,3,none⟩=some (.slice (some ⟨g,0,none⟩) m c2))
     (first | (with_reducible assumption) | (with_reducible exact HSS.out _ _ _ _ (by with_reducible assumption)) | fail)
     (first
     | (go_at_call 81;((with_reducible refine HCL.out.mono ?_);rintro e w9 ⟨A9,c9,rfl,h9,b9⟩;have hS9:w.heap.size<w9.heap.size∧w9.cell? ⟨w.heap.size,3,none⟩=some (.slice (some ⟨g,0,none⟩) m c2):=⟨Nat.lt_of_lt_of_le hsz0 b9.size,(b9.cell (p:=⟨w.heap.size,3,none⟩) hsz0).trans k3⟩;have d3:=(b9.cell (p:=⟨g,k,none⟩) hg2).trans hc1;have d4:w9.frozen? ⟨g,k,none⟩=false:=by rw[World.frozen?_of_block (w:=wr.drew) (b9.block _ hg2)];exact hfz))
     | fail)
    have HNX:=Lib.hid (HF.out.drew.next HMM.out HX.out h9 b9)
    have HQ1:=Lib.hid ((Blok.below HP1.out.drew b9).far (p:=⟨g,k,none⟩) hne (.slice A9 y c9))
    have HQ2:=Lib.hid ((Blok.below HP2.out.drew b9).far (p:=⟨g,k,none⟩) hne2 (.slice A9 y c9))
    clear h9 b9 hS9 d3 d4
    go_wp2
    go_roundg gi
    case measure=>omega
    case rel=>exact⟨k+1,by omega,by go_num,HNX.out,HQ1.out,HQ2.out⟩
end
end Go.Proofs.YtcpfkaehefcakaaGreat
namespace Go.Proofs.YtcpfkaehefcakaaGreat
open Go.RowKit Go.Shelf
set_option linter.unusedVariables false
set_option maxRecDepth 100000
structure IxCells (w:World)(base gx gd r:Nat)(S:IxS)(Fm Gr Gk:List Nat)(gm:Nat)(A:Option Addr)(cp:Nat)(B:Option Addr)(c2:Nat)(ps:List Nat) : Prop where
 blok:Blok w gx 67 #[ptr gx,ptr gd,.int .i64 S.m.next,.int .i64 S.m.check,.int .u64 (S.m.seed:Nat),.slice A S.m.lv.length cp,.slice B ps.length c2,.float .f64 r,mtp gm]
 lv:LvKeep w (.slice A S.m.lv.length cp) S.m.lv Gk
 row:PRow w base (.slice B ps.length c2) ps
 tabs:TabsAt w gd ps S.T Gk
 mem:TabAt w base gm Fm S.mem
 own:gx∈Gr
 rowOwn:∀ b∈ownL (.slice B ps.length c2),b∈Gr
 low:base≤gx
section
variable {w w' : World} {base gx gd r gm cp c2 : Nat} {S : IxS} {Fm Gr Gk ps : List Nat} {A B : Option Addr}
theorem IxM.cells (h:IxM w base gx gd r S Fm Gr Gk) : ∃ gm A cp B c2 ps,IxCells w base gx gd r S Fm Gr Gk gm A cp B c2 ps:=by
 obtain⟨gm,lv,tv,ps,h1,h2,h3,h4,h5,h6,h7,h8⟩:=h
 obtain⟨A,off,cp,rfl,-,-⟩:=h2.now.form
 obtain⟨B,c2,rfl,-,-,-⟩:=h3.form
 exact⟨gm,A,cp,B,c2,ps,h1,h2,h3,h4,h5,h6,h7,h8⟩
theorem IxCells.cs (h:IxCells w base gx gd r S Fm Gr Gk gm A cp B c2 ps) : w.cell? ⟨gx,0,none⟩=some (ptr gx)∧w.cell? ⟨gx,1,none⟩=some (ptr gd)∧w.cell? ⟨gx,2,none⟩=some (.int .i64 S.m.next)∧w.cell? ⟨gx,3,none⟩=some (.int .i64 S.m.check) ∧
  w.cell? ⟨gx,4,none⟩=some (.int .u64 (S.m.seed:Nat))∧w.cell? ⟨gx,5,none⟩=some (.slice A S.m.lv.length cp)∧w.cell? ⟨gx,6,none⟩=some (.slice B ps.length c2)∧w.cell? ⟨gx,7,none⟩=some (.float .f64 r)∧w.cell? ⟨gx,8,none⟩=some (mtp gm) :=
 ⟨h.blok.cell 0,h.blok.cell 1,h.blok.cell 2,h.blok.cell 3,h.blok.cell 4,h.blok.cell 5,h.blok.cell 6,h.blok.cell 7,h.blok.cell 8⟩
end
section
variable {At : Lies} (api : DiskApi At) {w0 w w' : World} {gd gx r : Nat} {S : IxS} {D : DiskS} {E : List Nat}
theorem xwaiting_run (h:IxAt At w0 gd gx r S D E w) : Calls Tryz.prog 24 #[ptr gx] w fun e w'=>e = .returned (.int .i64 (S.mem.length:Nat))∧w=w':=by
 obtain⟨Fm,Gr,Gk,-,hM,-⟩:=h
 obtain⟨gm,A,cp,B,c2,ps,hC⟩:=hM.cells
 obtain⟨c0,-,-,-,-,-,-,-,c8⟩:=hC.cs
 have hn:=Lib.hid (xnone_run c0)
 have hl:=Lib.hid (tlen_run hC.mem)
 clear hM hC
 generalize S.mem.length=n at *
 go_enter Tryz.func24,Tryz.ntmps24
 go_wp2_with fail
 refine hn.out.mono ?_
 rintro e w' ⟨rfl,rfl⟩
 go_wp2_with fail
 refine hl.out.mono ?_
 rintro e w' ⟨rfl,rfl⟩
 go_wp2
 go_ret
 exact⟨rfl,rfl⟩
theorem xmanifest_none {w:World}{p:Value}(h:IxNone w p) : Calls Tryz.prog 14 #[p] w (ManEnd w 0 0 0 []):=by
 have hb:=(Below.refl w.heap.size w).alloc (Nat.le_refl _) (.cells #[.int .i64 0,.int .i64 0,.int .u64 0,.slice none 0 0] 38)
 have B:=Blok.new w 38 #[.int .i64 0,.int .i64 0,.int .u64 0,.slice none 0 0]
 obtain⟨w1,hw1⟩:∃ w1,w.alloc (.cells #[.int .i64 0,.int .i64 0,.int .u64 0,.slice none 0 0] 38)=w1:=⟨_,rfl⟩
 rw[hw1] at hb B
 have hn:=Lib.hid (xnone_any (h.below hb))
 have HB:=Lib.hid hb
 obtain⟨k0,k1,k2,k3⟩:=four_cells B
 obtain⟨f0,f1,f2,f3⟩:=four_frozen B
 clear h hb B
 go_enter Tryz.func14,Tryz.ntmps14
 go_wp2_with fail
 refine hn.out.mono ?_
 rintro e w' ⟨rfl,rfl⟩
 go_wp2
 exact bodyPost_ret (v:=manV 0 0 0 (.slice none 0 0)) (by simp[results,manV,Tryz.results14,go_sem,k0,k1,k2,k3]) rfl ⟨none,0,rfl,LvsNew.nil _ _,manSet_below HB.out (Nat.le_refl _) _ _ _ _⟩
include api
set_option maxHeartbeats 1000000 in
theorem xmanifest_run (h:IxAt At w0 gd gx r S D E w)(ok:IxOk D S) : Calls Tryz.prog 14 #[ptr gx] w (ManEnd w S.m.next S.m.check S.m.seed S.m.lv):=by
 have hb:=(Below.refl w.heap.size w).alloc (Nat.le_refl _) (.cells #[.int .i64 0,.int .i64 0,.int .u64 0,.slice none 0 0] 38)
 have B:=Blok.new w 38 #[.int .i64 0,.int .i64 0,.int .u64 0,.slice none 0 0]
 have hz:(w.alloc (.cells #[.int .i64 0,.int .i64 0,.int .u64 0,.slice none 0 0] 38)).heap.size=w.heap.size+1:=by simp
 obtain⟨w1,hw1⟩:∃ w1,w.alloc (.cells #[.int .i64 0,.int .i64 0,.int .u64 0,.slice none 0 0] 38)=w1:=⟨_,rfl⟩
 rw[hw1] at hb B hz
 obtain⟨Fm,Gr,Gk,-,hM,-⟩:=h.below api hb
 obtain⟨gm,A,cp,B2,c2,ps,hC⟩:=hM.cells
 obtain⟨c0,-,d0,d1,d2,d3,-,-,-⟩:=hC.cs
 have hn:=Lib.hid (xnone_run c0)
 have hmay:=ok.may.2.2.2.2.1
 have hc:=xcopied_any S.m.next S.m.check S.m.seed A cp S.m.lv w1 hC.lv.now (by have:=hmay.2.1;omega) (by have:=hmay.1;omega)
 have HB:=Lib.hid hb
 have HBL:=Lib.hid B
 have HZ:=Lib.hid hz
 clear h ok hM hC hb B hmay hz
 unfold ManEnd manV at hc
 unfold ManEnd
 have HC:=Lib.hid hc
 clear hc
 generalize S.m.next=x0 at *
 generalize S.m.check=x1 at *
 generalize S.m.seed=x2 at *
 generalize S.m.lv=R at *
 obtain⟨m,hm⟩:∃ m,m=R.length:=⟨_,rfl⟩
 have HM:=Lib.hid hm
 rw[← hm] at HC d3 ⊢
 clear hm
 go_enter Tryz.func14,Tryz.ntmps14
 go_wp2_with fail
 refine hn.out.mono ?_
 rintro e w' ⟨rfl,rfl⟩
 go_wp2_with fail
 refine HC.out.mono ?_
 rintro e w2 ⟨A2,cp2,rfl,hnew,b2⟩
 have BL:=Blok.below HBL.out b2
 obtain⟨k0,k1,k2,k3⟩:=four_cells BL
 obtain⟨f0,f1,f2,f3⟩:=four_frozen BL
 have HN:=Lib.hid ((hnew.manSet (g:=w.heap.size) (by rw[HZ.out];omega) (.int .i64 x0) (.int .i64 x1) (.int .u64 (x2:Nat)) (.slice A2 m cp2)).down (base':=w.heap.size) (by rw[HZ.out];omega))
 have HB2:=Lib.hid (manSet_below (HB.out.trans (b2.mono HB.out.size)) (Nat.le_refl _) (.int .i64 x0) (.int .i64 x1) (.int .u64 (x2:Nat)) (.slice A2 m cp2))
 unfold manSet at HN HB2
 clear hnew b2 BL
 go_wp2
 exact bodyPost_ret (v:=manV x0 x1 x2 (.slice A2 m cp2)) (by simp[results,manV,Tryz.results14,go_sem,k0,k1,k2,k3]) rfl ⟨A2,cp2,rfl,HN.out,HB2.out⟩
def addX (S:IxS)(x:EntS) : IxS:=if mayE x=true then { S with mem:=layEn S.mem x } else S
def addXE (x:EntS) : Nat:=if mayE x=true then 0 else 2
omit api in
theorem IxAt.mem_end (api:DiskApi At){gm:Nat}{A B:Option Addr}{cp c2:Nat}{ps Fm Gr Gk F':List Nat}{l:List EntS}(h1:DS At w0 gd D (Fm++(Gr++(Gk++E))) w)(hC:IxCells w w0.heap.size gx gd r S Fm Gr Gk gm A cp B c2 ps)
  (h3:∀ b∈Fm,b ∉ Gr∧b ∉ Gk∧b ∉ E) (h4:∀ b∈Gr,b ∉ Gk∧b ∉ E) (h5:∀ b∈Gk,b ∉ E) (h6:∀ b∈Fm++Gr,w0.heap.size≤b)
  (hT:TabAt w' w0.heap.size gm F' l) (hF:∀ x∈F',x∈Fm∨w.heap.size≤x) (ht:Touch Fm w w'):IxAt At w0 gd gx r { S with mem:=l } D E w'∧Kept E w w':=by
 have hlt:=h1.lt
 have hE:∀ b∈Gr++(Gk++E),b<w.heap.size∧b ∉ Fm:=fun b hb=>⟨hlt b (List.mem_append_right _ hb),fun hm=>by
  rcases List.mem_append.1 hb with k | k
  ·exact(h3 b hm).1 k
  ·rcases List.mem_append.1 k with k | k
   ·exact(h3 b hm).2.1 k
   ·exact(h3 b hm).2.2 k⟩
 have hK:Kept (Gr++(Gk++E)) w w':=Kept.of_touch ht hE
 have hF2:∀ x∈F',w0.heap.size≤x∧x<w'.heap.size:=by obtain⟨v,h1,h2,h3,h4,h5,h6,h7⟩:=hT;exact h5
 have hnew:∀ b∈F',∀ G:List Nat,(∀ c∈G,c<w.heap.size)→(b∈Fm→b ∉ G)→b ∉ G:=fun b hb G hG hn hm=>by
  rcases hF b hb with k | k
  ·exact hn k hm
  ·have:=hG b hm;omega
 refine⟨⟨F',Gr,Gk,h1.turn api ht (fun b hb=>⟨List.mem_append_left _ hb,h6 b (List.mem_append_left _ hb)⟩) (fun b hb=>?_),⟨gm,_,_,ps,hK.blok hC.blok (List.mem_append_left _ hC.own),hC.lv.step (hK.less (fun b hb=>List.mem_append_right _ (List.mem_append_left _ hb))),hK.prow hC.row (fun b hb=>List.mem_append_left _ (hC.rowOwn b hb)),hC.tabs.keep hK (fun b hb=>List.mem_append_right _ (List.mem_append_left _ hb)),hT,hC.own,hC.rowOwn,hC.low⟩,fun b hb=>?_,h4,h5,fun b hb=>?_⟩,hK.less (fun b hb=>List.mem_append_right _ (List.mem_append_right _ hb))⟩
 ·rcases List.mem_append.1 hb with k | k
  ·rcases hF b k with q | q
   ·exact Or.inl (List.mem_append_left _ q)
   ·exact Or.inr ⟨q,(hF2 b k).2⟩
  ·exact Or.inl (List.mem_append_right _ k)
 ·exact⟨hnew b hb Gr (fun c hc=>hlt c (List.mem_append_right _ (List.mem_append_left _ hc))) (fun k=>(h3 b k).1),hnew b hb Gk (fun c hc=>hlt c (List.mem_append_right _ (List.mem_append_right _ (List.mem_append_left _ hc)))) (fun k=>(h3 b k).2.1),hnew b hb E (fun c hc=>hlt c (List.mem_append_right _ (List.mem_append_right _ (List.mem_append_right _ hc)))) (fun k=>(h3 b k).2.2)⟩
 ·rcases List.mem_append.1 hb with k | k
  ·exact(hF2 b k).1
  ·exact h6 b (List.mem_append_right _ k)
set_option maxHeartbeats 2000000 in
theorem xadd_run (h:IxAt At w0 gd gx r S D E w){x:EntS}(hx:EntOk x)(hn:S.mem.length≤100000) : Calls Tryz.prog 15 #[ptr gx,entB x] w (IxEnd At w0 gd gx r (err (addXE x)) (addX S x) D E w):=by
 have hb:=(Below.refl w.heap.size w).alloc (Nat.le_refl _) (.cells #[.int .u64 (x.h:Nat),.int .i64 x.v,.int .i64 x.p] 44)
 have Bx:=Blok.new w 44 #[.int .u64 (x.h:Nat),.int .i64 x.v,.int .i64 x.p]
 have HLT:=Lib.hid h.lt
 have h1:=h.more api hb (B:=[w.heap.size]) (fun b hm=>by rw[List.mem_singleton.1 hm];exact⟨Nat.le_refl _,Bx.lt⟩)
 obtain⟨w1,hw1⟩:∃ w1,w.alloc (.cells #[.int .u64 (x.h:Nat),.int .i64 x.v,.int .i64 x.p] 44)=w1:=⟨_,rfl⟩
 rw[hw1] at hb Bx h1
 obtain⟨gb,hgb⟩:∃ gb,w.heap.size=gb:=⟨_,rfl⟩
 rw[hgb] at Bx h1
 have hc0:w1.cell? ⟨gx,0,none⟩=some (ptr gx):=by
  obtain⟨Fm,Gr,Gk,-,hM,-⟩:=h1
  obtain⟨gm,A,cp,B2,c2,ps,hC⟩:=hM.cells
  exact hC.cs.1
 have hno:=Lib.hid (xnone_run hc0)
 have HP:=Lib.hid (eput_any x w1 hx)
 have H1:=Lib.hid h1
 have HBX:=Lib.hid Bx
 have HB:=Lib.hid hb
 have HX:=Lib.hid hx
 obtain⟨x0,x1,x2⟩:w1.cell? ⟨gb,0,none⟩=some (.int .u64 (x.h:Nat))∧w1.cell? ⟨gb,1,none⟩=some (.int .i64 x.v)∧w1.cell? ⟨gb,2,none⟩=some (.int .i64 x.p):=⟨Bx.cell 0,Bx.cell 1,Bx.cell 2⟩
 have HADD:=Lib.hid fun(W:World) (F:List Nat) (gm:Nat) (hT:TabAt W w0.heap.size gm F S.mem)=>add_run hT hx hn
 clear h h1 hb Bx hx
 cases hm:mayE x with
 | false =>
   have e1:addX S x=S:=by unfold addX;rw[hm];rfl
   have e2:addXE x=2:=by unfold addXE;rw[hm];rfl
   rw[e1,e2]
   rw[en_put_no hm] at HP
   clear e1 e2 hm HADD
   obtain⟨xh,xv,xp⟩:=x
   go_enter Tryz.func15,Tryz.ntmps15
   go_wp2_with fail
   refine hno.out.mono ?_
   rintro e w' ⟨rfl,rfl⟩
   go_wp2_with fail
   refine HP.out.mono ?_
   rintro e w2 ⟨rfl,b2⟩
   have H2:=Lib.hid (H1.out.below api b2)
   have HK:=Lib.hid ((Kept.of_below HB.out HLT.out).trans (Kept.of_below b2 (fun b hb=>Nat.lt_of_lt_of_le (HLT.out b hb) HB.out.size)))
   clear b2
   go_wp2
   go_ret
   exact⟨rfl,H2.out.less (fun b hb=>List.mem_append_right _ hb),HK.out⟩
 | true =>
   have e1:addX S x={ S with mem:=layEn S.mem x }:=by unfold addX;rw[hm];rfl
   have e2:addXE x=0:=by unfold addXE;rw[hm];rfl
   rw[e1,e2]
   have hsz:=putE_size hm
   have hne:((putE x).toList==[])=false:=by
    rw[beq_eq_false_iff_ne]
    intro e
    have hz:(putE x).toList.length=0:=by rw[e];rfl
    rw[Lib.toList_data,Array.length_toList] at hz
    have:(putE x).size=0:=hz
    omega
   clear e1 e2 hm hsz
   generalize putE x=s at *
   obtain⟨xh,xv,xp⟩:=x
   go_enter Tryz.func15,Tryz.ntmps15
   go_wp2_with fail
   refine hno.out.mono ?_
   rintro e w' ⟨rfl,rfl⟩
   go_wp2_with fail
   refine HP.out.mono ?_
   rintro e w2 ⟨rfl,b2⟩
   have H2:=H1.out.below api b2
   have HK:=Lib.hid ((Kept.of_below HB.out HLT.out).trans (Kept.of_below b2 (fun b hb=>Nat.lt_of_lt_of_le (HLT.out b hb) HB.out.size)))
   have B2:=Blok.below HBX.out b2
   obtain⟨Fm,Gr,Gk,d1,hM,d3,d4,d5,d6⟩:=H2.drew api
   obtain⟨gm,A,cp,Bq,c2,ps,hC⟩:=hM.cells
   have c8:w2.drew.cell? ⟨gx,8,none⟩=some (mtp gm):=hC.cs.2.2.2.2.2.2.2.2
   obtain⟨x0,x1,x2⟩:w2.drew.cell? ⟨gb,0,none⟩=some (.int .u64 (xh:Nat))∧w2.drew.cell? ⟨gb,1,none⟩=some (.int .i64 xv)∧w2.drew.cell? ⟨gb,2,none⟩=some (.int .i64 xp):=⟨B2.cell 0,B2.cell 1,B2.cell 2⟩
   have hS0:w2.drew.cell? ⟨gx,8,none⟩=some (mtp gm)∧w2.drew.cell? ⟨gb,0,none⟩=some (.int .u64 (xh:Nat))∧w2.drew.cell? ⟨gb,1,none⟩=some (.int .i64 xv)∧w2.drew.cell? ⟨gb,2,none⟩=some (.int .i64 xp):=⟨c8,x0,x1,x2⟩
   have HAD:=Lib.hid (HADD.out w2.drew Fm gm hC.mem)
   have hgx:gx ∉ Fm:=fun hm=>(d3 gx hm).1 hC.own
   have hgb2:gb ∉ Fm∧gb<w2.drew.heap.size:=⟨fun hm=>(d3 gb hm).2.2 (List.mem_append_left _ List.mem_cons_self),B2.lt⟩
   have hgxl:gx<w2.drew.heap.size:=hC.blok.lt
   have HSK:=Lib.hid (fun(W:World) (hT:Touch Fm w2.drew W)=>(show W.cell? ⟨gx,8,none⟩=some (mtp gm)∧W.cell? ⟨gb,0,none⟩=some (.int .u64 (xh:Nat))∧W.cell? ⟨gb,1,none⟩=some (.int .i64 xv)∧W.cell? ⟨gb,2,none⟩=some (.int .i64 xp) from⟨(hT.cell (p:=⟨gx,8,none⟩) hgxl hgx).trans c8,(hT.cell (p:=⟨gb,0,none⟩) hgb2.2 hgb2.1).trans x0,(hT.cell (p:=⟨gb,1,none⟩) hgb2.2 hgb2.1).trans x1,(hT.cell (p:=⟨gb,2,none⟩) hgb2.2 hgb2.1).trans x2⟩))
   have HEND:=Lib.hid (fun(W:World) (F':List Nat) (l:List EntS) (hT:TabAt W w0.heap.size gm F' l) (hF:∀ x∈F',x∈Fm∨w2.drew.heap.size≤x) (ht:Touch Fm w2.drew W)=>IxAt.mem_end api d1 hC d3 d4 d5 d6 hT hF ht)
   clear H2 d1 hM d3 d4 d5 d6 hC B2 c8 x0 x1 x2 b2 hgx hgb2 hgxl HADD
   generalize layEn S.mem ⟨xh,xv,xp⟩=R at *
   go_wp2_with fail
   go_region_held3 (fun W=>W.cell? ⟨gx,8,none⟩=some (mtp gm)∧W.cell? ⟨gb,0,none⟩=some (.int .u64 (xh:Nat))∧W.cell? ⟨gb,1,none⟩=some (.int .i64 xv)∧W.cell? ⟨gb,2,none⟩=some (.int .i64 xp))
    (first | (with_reducible assumption) | fail)
    (first
    | (go_at_call 56;((with_reducible refine HAD.out.mono ?_);rintro e w9 ⟨F',rfl,h9,k9,t9⟩;have hS9:=HSK.out w9 t9;have HE9:=Lib.hid (HEND.out w9 F' _ h9 k9 t9)))
    | fail)
   go_wp2
   go_ret
   exact⟨rfl,HE9.out.1.less (fun b hb=>List.mem_append_right _ hb),HK.out.drew.trans (HE9.out.2.less (fun b hb=>List.mem_append_right _ hb))⟩
end
end Go.Proofs.YtcpfkaehefcakaaGreat
namespace Go.Proofs.YtcpfkaehefcakaaGreat
open Go.RowKit Go.Shelf
set_option linter.unusedVariables false
set_option maxRecDepth 100000
def RxAt (w:World)(base b:Nat)(L Q:List EntS)(M:ManS)(F:List Nat) : Prop :=
 ∃ (vL vQ vM:Value) (G:List Nat),Blok w b 42 #[vL,vQ,.int .i64 M.next,.int .i64 M.check,.int .u64 (M.seed:Nat),vM]∧EntRow w base vL L∧EntRow w base vQ Q∧LvKeep w vM M.lv G ∧
  b ∉ G∧b∈F∧(∀ k∈ownL vL,k∈F)∧(∀ k∈ownL vQ,k∈F)∧(∀ k∈G,k∈F)∧∀ k∈F,base≤k∧k<w.heap.size
theorem rx_ne : (44:TypeId)≠42:=by decide
section
variable {w w' : World} {base b : Nat} {L Q : List EntS} {M : ManS} {F : List Nat}
theorem RxAt.keep (h:RxAt w base b L Q M F)(k:Kept F w w') : RxAt w' base b L Q M F:=by
 obtain⟨vL,vQ,vM,G,h1,h2,h3,h4,h5,h6,h7,h8,h9,h10⟩:=h
 exact⟨vL,vQ,vM,G,k.blok h1 h6,k.row h2 h7,k.row h3 h8,h4.step (k.less h9),h5,h6,h7,h8,h9,fun x hx=>⟨(h10 x hx).1,Nat.lt_of_lt_of_le (h10 x hx).2 k.size⟩⟩
theorem RxAt.below (h:RxAt w base b L Q M F)(hb:Below w.heap.size w w') : RxAt w' base b L Q M F:=by
 have hl:∀ x∈F,x<w.heap.size:=by
  obtain⟨vL,vQ,vM,G,h1,h2,h3,h4,h5,h6,h7,h8,h9,h10⟩:=h
  exact fun x hx=>(h10 x hx).2
 exact h.keep (Kept.of_below hb hl)
theorem rxrange (h:RxAt w base b L Q M F)(hn:L.length≤400000)(k:Nat)(a c:Int) : Calls Tryz.prog 20 #[ptr b,.int .u64 (k:Nat),.int .i64 a,.int .i64 c] w (EntsOut w (rangeE L k (max a 0) (capV c))):=by
 obtain⟨vL,vQ,vM,G,h1,h2,h3,h4,h5,h6,h7,h8,h9,h10⟩:=h
 obtain⟨A,cp,rfl,-⟩:=own_form h2
 have c0:=h1.cell 0
 have hmin:(if (1073741824:Int)<c then 1073741824 else c)=capV c:=by unfold capV;split<;>omega
 have hmax:(if a<(0:Int) then 0 else a)=max a 0:=by split<;>omega
 have HR:=Lib.hid (ranger_any (.slice A L.length cp) L k (max a 0) (capV c) w (EntRow.in_ h2) hn)
 unfold EntsOut at HR
 have hmin2:min c 1073741824=capV c:=rfl
 clear h1 h2 h3 h4 h5 h6 h7 h8 h9 h10
 obtain⟨n,hn2⟩:∃ n,n=L.length:=⟨_,rfl⟩
 rw[← hn2] at c0 HR
 clear hn2 hn
 generalize rangeE L k (max a 0) (capV c)=R at *
 generalize hcv:capV c=cb at *
 generalize hmv:max a 0=ca at *
 go_enter Tryz.func20,Tryz.ntmps20
 go_wp2_with fail
 refine HR.out.mono ?_
 rintro e w' ⟨A2,c2,rfl,r2,b2⟩
 have HR2:=Lib.hid r2
 have HB2:=Lib.hid b2
 clear r2 b2
 go_wp2
 go_ret
 exact⟨A2,c2,rfl,HR2.out,HB2.out⟩
theorem rxlast (h:RxAt w base b L Q M F)(hn:L.length≤400000)(hmay:∀ x∈L,EntOk x)(k:Nat)(c:Int) : Calls Tryz.prog 21 #[ptr b,.int .u64 (k:Nat),.int .i64 c] w fun e w'=>∃ z,TopV (· ∈ L) k (capV c) z∧e = .returned (.int .i64 z)∧w=w':=by
 obtain⟨vL,vQ,vM,G,h1,h2,h3,h4,h5,h6,h7,h8,h9,h10⟩:=h
 obtain⟨A,cp,rfl,-⟩:=own_form h2
 have c0:=h1.cell 0
 have HIN:=Lib.hid (EntRow.in_ h2)
 clear h1 h2 h3 h4 h5 h6 h7 h8 h9 h10
 obtain⟨n,hn2⟩:∃ n,n=L.length:=⟨_,rfl⟩
 have HN:=Lib.hid hn2
 have HMAY:=Lib.hid hmay
 rw[← hn2] at c0 HIN hn
 clear hn2 hmay
 go_enter Tryz.func21,Tryz.ntmps21
 go_wp2
 go_loopw [7,8] (fun u i wr=>∃ (j:Nat) (z:Int),j≤n∧i = .int .i64 j∧u = .int .i64 z∧-9223372036854775808≤z∧z≤9223372036854775807∧TopV (· ∈ L.take j) k (capV c) z∧w=wr) (fun _ i _=>n-(intOf i).toNat)
 case atStart=>exact⟨0,-1,Nat.zero_le _,rfl,rfl,by omega,by omega,by simpa using TopV.none_ k (capV c),rfl⟩
 case round =>
  obtain⟨j,z,hj,rfl,rfl,hz1,hz2,hz,rfl⟩:=hrel
  have HZ:=Lib.hid hz
  clear hz
  by_cases hjn:j<n
  ·have s1:(j:Int)<(n:Int):=by omega
   obtain⟨x,hx⟩:∃ x,L[j]? = some x:=⟨_,List.getElem?_eq_getElem (by rw[← HN.out];omega)⟩
   obtain⟨ob,off,rfl,-,-,x0,x1,x2⟩:=ent_cell HIN.out hx
   have hok:=HMAY.out x (List.mem_of_getElem? hx)
   have HT:Hid (∀ z2,z2=(if x.h=k∧x.v≤capV c then max z x.v else z)→-1≤z2→TopV (· ∈ L.take (j+1)) k (capV c) z2):=Lib.hid (by
    intro z2 e hz3
    subst e
    have hz:=HZ.out
    have e2:L.take (j+1)=L.take j++[x]:=by rw[List.take_add_one,hx];rfl
    rw[e2]
    by_cases hq:x.h=k∧x.v≤capV c
    ·rw[if_pos hq]
     refine⟨fun y hy h1 h2=>?_, ?_,by have:=hz.2.2;omega⟩
     ·rcases List.mem_append.1 hy with q | q
      ·have:=hz.1 y q h1 h2;omega
      ·rw[List.mem_singleton.1 q];omega
     ·rcases Int.le_total z x.v with q | q
      ·exact Or.inr ⟨x,List.mem_append_right _ (List.mem_singleton.2 rfl),hq.1,hq.2,by omega⟩
      ·rcases hz.2.1 with q2 | ⟨y,y1,y2,y3,y4⟩
       ·exact Or.inl (by omega)
       ·exact Or.inr ⟨y,List.mem_append_left _ y1,y2,y3,by omega⟩
    ·rw[if_neg hq]
     refine⟨fun y hy h1 h2=>?_, ?_,hz.2.2⟩
     ·rcases List.mem_append.1 hy with q | q
      ·exact hz.1 y q h1 h2
      ·rw[List.mem_singleton.1 q] at h1 h2
       exact absurd ⟨h1,h2⟩ hq
     ·rcases hz.2.1 with q2 | ⟨y,y1,y2,y3,y4⟩
      ·exact Or.inl q2
      ·exact Or.inr ⟨y,List.mem_append_left _ y1,y2,y3,y4⟩)
   have hv:-9223372036854775808≤x.v∧x.v≤9223372036854775807:=⟨hok.v0,hok.v1⟩
   have hz0:=HZ.out.2.2
   obtain⟨xh,xv,xp⟩:=x
   simp only at x0 x1 x2 hv HT
   clear hx
   by_cases q1:xh=k
   ·have t1:((xh:Int)==(k:Int))=true:=by rw[q1];exact beq_self_eq_true _
    have hmx:∀ ts ty w,(Builtin.max_ ts ty #[.int .i64 z,.int .i64 xv]).run Tryz.prog w = .ok (.int .i64 (max z xv)) w:=fun ts ty w=>by rw[run_max_int2,show(if z<xv then(xv:Int) else z)=max z xv by split<;>omega]
    have hcv:∀ y:Int,y≤capV c↔y≤c∧y≤1073741824:=fun y=>by unfold capV;omega
    by_cases q2:xv≤c
    ·by_cases q3:xv≤1073741824
     ·have HT2:=Lib.hid (HT.out (max z xv) (by rw[if_pos ⟨q1,(hcv xv).2 ⟨q2,q3⟩⟩]) (by omega))
      have hz5:-9223372036854775808≤max z xv∧max z xv≤9223372036854775807:=⟨by omega,by omega⟩
      have HZ5:=Lib.hid hz5
      clear HT hz5
      go_wp2
      go_roundw
      case rel=>exact⟨j+1,max z xv,by omega,by go_num,rfl,HZ5.out.1,HZ5.out.2,HT2.out,trivial⟩
      case measure=>simp[intOf];omega
     ·have HT2:=Lib.hid (HT.out z (by rw[if_neg (fun q=>q3 ((hcv xv).1 q.2).2)]) hz0)
      clear HT
      go_wp2
      go_roundw
      case rel=>exact⟨j+1,z,by omega,by go_num,rfl,hz1,hz2,HT2.out,trivial⟩
      case measure=>simp[intOf];omega
    ·have HT2:=Lib.hid (HT.out z (by rw[if_neg (fun q=>q2 ((hcv xv).1 q.2).1)]) hz0)
     clear HT
     go_wp2
     go_roundw
     case rel=>exact⟨j+1,z,by omega,by go_num,rfl,hz1,hz2,HT2.out,trivial⟩
     case measure=>simp[intOf];omega
   ·have t1:((xh:Int)==(k:Int))=false:=beq_eq_false_iff_ne.2 (by omega)
    have HT2:=Lib.hid (HT.out z (by rw[if_neg (fun q=>q1 q.1)]) hz0)
    clear HT
    go_wp2
    go_roundw
    case rel=>exact⟨j+1,z,by omega,by go_num,rfl,hz1,hz2,HT2.out,trivial⟩
    case measure=>simp[intOf];omega
  ·obtain rfl:j=n:=by omega
   have s1:¬ (j:Int)<(j:Int):=by omega
   have HFIN:=Lib.hid (show TopV (· ∈ L) k (capV c) z from by have:=HZ.out;rw[HN.out,List.take_length] at this;exact this)
   clear hjn
   go_wp2
   go_ret
   exact⟨z,HFIN.out,rfl,rfl⟩
end
end Go.Proofs.YtcpfkaehefcakaaGreat
namespace Go.Proofs.YtcpfkaehefcakaaGreat
open Go.RowKit Go.Shelf
set_option linter.unusedVariables false
set_option maxRecDepth 100000
def RxEnd (base b:Nat)(v:Value)(L Q:List EntS)(M:ManS)(F:List Nat)(w:World)(e:Ending)(w':World) : Prop :=
 ∃ F',e = .returned v∧RxAt w' base b L Q M F'∧Touch [b] w w'∧∀ y∈F',y∈F∨(w.heap.size≤y∧y<w'.heap.size)
section
variable {w w' W : World} {base b : Nat} {L Q : List EntS} {M : ManS} {F : List Nat}
theorem RxAt.lt_ (h:RxAt w base b L Q M F) : b<w.heap.size:=by
 obtain⟨vL,vQ,vM,G,h1,-⟩:=h
 exact h1.lt
theorem RxEnd.same {v:Value}(h:RxAt w base b L Q M F)(hb:Below w.heap.size w w') : RxEnd base b v L Q M F w (.returned v) w' :=
 ⟨F,rfl,h.below hb,(Touch.of_below hb).more (fun x hx=>by cases hx),fun y hy=>Or.inl hy⟩
structure RxC (w:World)(base b:Nat)(L Q:List EntS)(M:ManS)(F:List Nat)(vL vQ vM:Value)(G:List Nat)(W:World) : Prop where
 blok:Blok W b 42 #[vL,vQ,.int .i64 M.next,.int .i64 M.check,.int .u64 (M.seed:Nat),vM]
 rowL:EntRow W base vL L
 rowQ:EntRow W base vQ Q
 lv:LvKeep W vM M.lv G
 bel:Below w.heap.size w W
theorem RxAt.parts (h:RxAt w base b L Q M F) : ∃ vL vQ vM G,(b ∉ G∧b∈F∧(∀ k∈ownL vL,k∈F)∧(∀ k∈ownL vQ,k∈F)∧(∀ k∈G,k∈F)∧∀ k∈F,base≤k∧k<w.heap.size)∧∀ W,Below w.heap.size w W→RxC w base b L Q M F vL vQ vM G W:=by
 obtain⟨vL,vQ,vM,G,h1,h2,h3,h4,h5⟩:=h
 exact⟨vL,vQ,vM,G,h5,fun W hW=>⟨h1.below hW,EntRow.below h2 hW (Nat.le_refl _),EntRow.below h3 hW (Nat.le_refl _),h4.step (Kept.of_below hW (fun x hx=>(h5.2.2.2.2.2 x (h5.2.2.2.2.1 x hx)).2)),hW⟩⟩
theorem RxC.stored {vL vQ vM vQ2 vR:Value}{G:List Nat}{Q2:List EntS}{R:LvL}{n c:Int}(h:RxC w base b L Q M F vL vQ vM G W)(hg:b ∉ G∧b∈F∧(∀ k∈ownL vL,k∈F)∧(∀ k∈ownL vQ,k∈F)∧(∀ k∈G,k∈F)∧∀ k∈F,base≤k∧k<w.heap.size)
  (hr:LvsNew W w.heap.size vR R) {W2:World} (ht:Touch [b] W W2) (hb2:Blok W2 b 42 #[vL,vQ2,.int .i64 n,.int .i64 c,.int .u64 (M.seed:Nat),vR]) (hq:vQ2=vQ∧Q2=Q∨vQ2 = .slice none 0 0∧Q2=[]) (hbase:base≤w.heap.size) (e:Value) :
  RxEnd base b e L Q2 ⟨n,c,M.seed,R⟩ F w (.returned e) W2:=by
 obtain⟨G2,hg2,hlv⟩:=hr.keep
 have hbw:b<w.heap.size:=(hg.2.2.2.2.2 b hg.2.1).2
 have hsz:=h.bel.size
 have k2:=Kept.of_touch ht (E:=G2++(ownL vL++ownL vQ)) (fun x hx=>by
  rcases List.mem_append.1 hx with q | q
  ·exact⟨(hg2 x q).2,fun hm=>by have:=(hg2 x q).1;rw[List.mem_singleton.1 hm] at this;omega⟩
  ·rcases List.mem_append.1 q with q | q
   ·exact⟨(h.rowL.lt x (ownL_mem.1 q)).2,fun hm=>own_ne h.rowL h.blok rx_ne (by rw[← List.mem_singleton.1 hm];exact ownL_mem.1 q)⟩
   ·exact⟨(h.rowQ.lt x (ownL_mem.1 q)).2,fun hm=>own_ne h.rowQ h.blok rx_ne (by rw[← List.mem_singleton.1 hm];exact ownL_mem.1 q)⟩)
 refine⟨G2++F,rfl,⟨vL,vQ2,vR,G2,hb2,k2.row h.rowL (fun x hx=>List.mem_append_right _ (List.mem_append_left _ hx)), ?_,hlv.step (k2.less (fun x hx=>List.mem_append_left _ hx)),fun hm=>by have:=(hg2 b hm).1;omega,List.mem_append_right _ hg.2.1,fun x hx=>List.mem_append_right _ (hg.2.2.1 x hx), ?_,fun x hx=>List.mem_append_left _ hx,fun x hx=>?_⟩,((Touch.of_below h.bel).more (fun x hx=>by cases hx)).trans ht (fun x hx=>Or.inl hx),fun y hy=>?_⟩
 ·rcases hq with⟨rfl,rfl⟩ | ⟨rfl,rfl⟩
  ·exact k2.row h.rowQ (fun x hx=>List.mem_append_right _ (List.mem_append_right _ hx))
  ·exact EntRow.nil _ _
 ·rcases hq with⟨rfl,rfl⟩ | ⟨rfl,rfl⟩
  ·exact fun x hx=>List.mem_append_right _ (hg.2.2.2.1 x hx)
  ·intro x hx
   have:=ownL_mem.1 hx
   cases this
 ·have hz:=ht.size
  rcases List.mem_append.1 hx with q | q
  ·have:=hg2 x q
   exact⟨by omega,by omega⟩
  ·have:=hg.2.2.2.2.2 x q
   exact⟨this.1,by omega⟩
 ·rcases List.mem_append.1 hy with q | q
  ·have:=hg2 y q
   have hz:=ht.size
   exact Or.inr ⟨by omega,by omega⟩
  ·exact Or.inl q
theorem rxflush0 (h:RxAt w base b L [] M F)(en:Int) : Calls Tryz.prog 10 #[ptr b,.int .i64 en] w (RxEnd base b (.int .i64 0) L [] M F w):=by
 obtain⟨vL,vQ,vM,G,hg,hP⟩:=h.parts
 have p0:=hP w (Below.refl _ _)
 obtain⟨A,cp,rfl,-⟩:=own_form p0.rowQ
 have c1:=p0.blok.cell 1
 have HF:=Lib.hid (fun W (hW:Below w.heap.size w W)=>RxEnd.same (v:=.int .i64 0) h hW)
 clear hg hP p0 h
 go_enter Tryz.func10,Tryz.ntmps10
 go_wp2
 go_ret
 exact HF.out _ (Below.refl _ _)
set_option maxHeartbeats 1000000 in
theorem rxflush (h:RxAt w base b L Q M F)(hq:Q≠[])(hQl:Q.length≤100000)(en:Int)(hbase:base≤w.heap.size)(hl:M.lv.flatten.length≤100000)(hL:M.lv.length≤100000)(h0:0≤M.next)(h1:M.next≤1000000)(pe:Nat)(hpe:addLE M.lv M.next=(pe:Nat)) :
  Calls Tryz.prog 10 #[ptr b,.int .i64 en] w (if pe≠0 then RxEnd base b (err pe) L Q M F w else RxEnd base b (.int .i64 0) L [] ⟨M.next+1,en,M.seed,addL M.lv M.next⟩ F w):=by
 obtain⟨vL,vQ,vM,G,hg,hP⟩:=h.parts
 have hz:=h.lt_
 have p0:=hP w (Below.refl _ _)
 obtain⟨A,cp,rfl,-⟩:=own_form p0.rowQ
 have c1:=p0.blok.cell 1
 have t1:((Q.length:Int)==0)=false:=by
  rw[beq_eq_false_iff_ne]
  intro e
  exact hq (List.length_eq_zero_iff.1 (by omega))
 have HP:=Lib.hid hP
 have HG:=Lib.hid hg
 have HSA:=Lib.hid (fun W (hW:Below w.heap.size w W)=>RxEnd.same (v:=err pe) h hW)
 have HBS:=Lib.hid hbase
 have HRA:=Lib.hid (fun W (hW:Below w.heap.size w W)=>radd_any vM M.lv M.next W ((hP W hW).lv.now) hl hL)
 rw[hpe] at HRA
 have hS0:Hid (∀ W,Below w.heap.size w W→Below w.heap.size w W∧W.cell? ⟨b,5,none⟩=some vM∧W.cell? ⟨b,2,none⟩=some (.int .i64 M.next)):=Lib.hid fun W hW=>⟨hW,(hP W hW).blok.cell 5,(hP W hW).blok.cell 2⟩
 unfold LvsEnd at HRA
 have s0:=hS0.out w.drew (Below.refl w.heap.size w).drew
 have hw:wrap64 (M.next+1)=M.next+1:=by unfold wrap64;omega
 have HSt:=Lib.hid (fun(W:World) (vR:Value) (hW:Below w.heap.size w W) (hr:LvsNew W w.heap.size vR (addL M.lv M.next)) (W2:World) (ht:Touch [b] W W2) (hb2:Blok W2 b 42 #[vL,.slice none 0 0,.int .i64 (M.next+1),.int .i64 en,.int .u64 (M.seed:Nat),vR])=>(hP W hW).stored hg hr ht hb2 (Or.inr ⟨rfl,rfl⟩) hbase (.int .i64 0))
 clear hg hP p0 h hpe hl hL hbase hq
 generalize addL M.lv M.next=R at *
 obtain⟨k,hk⟩:∃ k,k=R.length:=⟨_,rfl⟩
 rw[← hk] at HRA
 have HK:=Lib.hid hk
 clear hk
 by_cases hp:pe=0
 ·subst hp
  rw[if_neg (by decide)]
  go_enter Tryz.func10,Tryz.ntmps10
  go_wp2_with fail
  go_region_held3 (fun W=>Below w.heap.size w W∧W.cell? ⟨b,5,none⟩=some vM∧W.cell? ⟨b,2,none⟩=some (.int .i64 M.next))
   (first | (with_reducible assumption) | ((with_reducible refine hS0.out _ ?_);(first | (with_reducible assumption) | fail);done) | fail)
   (first
   | (go_at_call 47;((with_reducible refine(HRA.out _ (And.left (by with_reducible assumption))).mono ?_);rintro e w5 ⟨A5,c5,rfl,r5,b5⟩;have hB5:Below w.heap.size w w5:=bj (And.left (by with_reducible assumption)) b5;have hC5:=HP.out w5 hB5))
   | fail)
  have HR5:Hid (LvsNew w5 w.heap.size (.slice A5 k c5) R):=Lib.hid (LvsNew.down r5 (Nat.le_refl _))
  have z0:=hC5.blok.cell 0
  have z1:=hC5.blok.cell 1
  have z2:=hC5.blok.cell 2
  have z3:=hC5.blok.cell 3
  have z5:=hC5.blok.cell 5
  have f1:=hC5.blok.frozen 1
  have f2:=hC5.blok.frozen 2
  have f3:=hC5.blok.frozen 3
  have f5:=hC5.blok.frozen 5
  have HST:Hid (RxEnd base b (.int .i64 0) L [] ⟨M.next+1,en,M.seed,R⟩ F w (.returned (.int .i64 0)) ((((w5.setCell ⟨b,5,none⟩ (.slice A5 k c5)).setCell ⟨b,2,none⟩ (.int .i64 (M.next+1))).setCell ⟨b,3,none⟩ (.int .i64 en)).setCell ⟨b,1,none⟩ (.slice none 0 0))):=Lib.hid (by
   exact HSt.out w5 _ hB5 HR5.out _ (((((Touch.refl [b] w5).setCell (p:=⟨b,5,none⟩) (Or.inl (List.mem_singleton.2 rfl)) _).setCell (p:=⟨b,2,none⟩) (Or.inl (List.mem_singleton.2 rfl)) _).setCell (p:=⟨b,3,none⟩) (Or.inl (List.mem_singleton.2 rfl)) _).setCell (p:=⟨b,1,none⟩) (Or.inl (List.mem_singleton.2 rfl)) _) ((((hC5.blok.put 5 _).put 2 _).put 3 _).put 1 _))
  clear hC5 r5 b5 hB5
  go_wp2
  go_ret
  exact HST.out
 ·rw[if_pos hp]
  have t2:((pe:Int) != 0)=true:=by simp;omega
  go_enter Tryz.func10,Tryz.ntmps10
  go_wp2_with fail
  go_region_held3 (fun W=>Below w.heap.size w W∧W.cell? ⟨b,5,none⟩=some vM∧W.cell? ⟨b,2,none⟩=some (.int .i64 M.next))
   (first | (with_reducible assumption) | ((with_reducible refine hS0.out _ ?_);(first | (with_reducible assumption) | fail);done) | fail)
   (first
   | (go_at_call 47;((with_reducible refine(HRA.out _ (And.left (by with_reducible assumption))).mono ?_);rintro e w5 ⟨A5,c5,rfl,r5,b5⟩;have hB5:Below w.heap.size w w5:=bj (And.left (by with_reducible assumption)) b5))
   | fail)
  have HB5:=Lib.hid hB5
  clear r5 b5 hB5
  go_wp2
  go_ret
  exact HSA.out _ HB5.out
set_option maxHeartbeats 1000000 in
theorem rxmerge (h:RxAt w base b L Q M F)(lev:Int)(hbase:base≤w.heap.size)(hl:M.lv.flatten.length≤100000)(hL:M.lv.length≤100000)(h0:0≤M.next)(h1:M.next≤1000000)(pe:Nat)(hpe:replE M.lv lev M.next=(pe:Nat)) :
  Calls Tryz.prog 13 #[ptr b,.int .i64 lev] w (if pe≠0 then RxEnd base b (err pe) L Q M F w else RxEnd base b (.int .i64 0) L Q ⟨M.next+1,M.check,M.seed,replL M.lv lev M.next⟩ F w):=by
 obtain⟨vL,vQ,vM,G,hg,hP⟩:=h.parts
 have hz:=h.lt_
 have HP:=Lib.hid hP
 have HSA:=Lib.hid (fun W (hW:Below w.heap.size w W)=>RxEnd.same (v:=err pe) h hW)
 have HRA:=Lib.hid (fun W (hW:Below w.heap.size w W)=>rrepl_any vM M.lv lev M.next W ((hP W hW).lv.now) hl hL)
 rw[hpe] at HRA
 have hS0:Hid (∀ W,Below w.heap.size w W→Below w.heap.size w W∧W.cell? ⟨b,5,none⟩=some vM∧W.cell? ⟨b,2,none⟩=some (.int .i64 M.next)):=Lib.hid fun W hW=>⟨hW,(hP W hW).blok.cell 5,(hP W hW).blok.cell 2⟩
 unfold LvsEnd at HRA
 have s0:=hS0.out w.drew (Below.refl w.heap.size w).drew
 have hw:wrap64 (M.next+1)=M.next+1:=by unfold wrap64;omega
 have HSt:=Lib.hid (fun(W:World) (vR:Value) (hW:Below w.heap.size w W) (hr:LvsNew W w.heap.size vR (replL M.lv lev M.next)) (W2:World) (ht:Touch [b] W W2) (hb2:Blok W2 b 42 #[vL,vQ,.int .i64 (M.next+1),.int .i64 M.check,.int .u64 (M.seed:Nat),vR])=>(hP W hW).stored hg hr ht hb2 (Or.inl ⟨rfl,rfl⟩) hbase (.int .i64 0))
 clear hg hP h hpe hl hL hbase
 generalize replL M.lv lev M.next=R at *
 obtain⟨k,hk⟩:∃ k,k=R.length:=⟨_,rfl⟩
 rw[← hk] at HRA
 have HK:=Lib.hid hk
 clear hk
 by_cases hp:pe=0
 ·subst hp
  rw[if_neg (by decide)]
  go_enter Tryz.func13,Tryz.ntmps13
  go_wp2_with fail
  go_region_held3 (fun W=>Below w.heap.size w W∧W.cell? ⟨b,5,none⟩=some vM∧W.cell? ⟨b,2,none⟩=some (.int .i64 M.next))
   (first | (with_reducible assumption) | ((with_reducible refine hS0.out _ ?_);(first | (with_reducible assumption) | fail);done) | fail)
   (first
   | (go_at_call 54;((with_reducible refine(HRA.out _ (And.left (by with_reducible assumption))).mono ?_);rintro e w5 ⟨A5,c5,rfl,r5,b5⟩;have hB5:Below w.heap.size w w5:=bj (And.left (by with_reducible assumption)) b5;have hC5:=HP.out w5 hB5))
   | fail)
  have HR5:Hid (LvsNew w5 w.heap.size (.slice A5 k c5) R):=Lib.hid (LvsNew.down r5 (Nat.le_refl _))
  have z2:=hC5.blok.cell 2
  have z5:=hC5.blok.cell 5
  have f2:=hC5.blok.frozen 2
  have f5:=hC5.blok.frozen 5
  have HST:Hid (RxEnd base b (.int .i64 0) L Q ⟨M.next+1,M.check,M.seed,R⟩ F w (.returned (.int .i64 0)) ((w5.setCell ⟨b,5,none⟩ (.slice A5 k c5)).setCell ⟨b,2,none⟩ (.int .i64 (M.next+1)))):=Lib.hid (HSt.out w5 _ hB5 HR5.out _ (((Touch.refl [b] w5).setCell (p:=⟨b,5,none⟩) (Or.inl (List.mem_singleton.2 rfl)) _).setCell (p:=⟨b,2,none⟩) (Or.inl (List.mem_singleton.2 rfl)) _) ((hC5.blok.put 5 _).put 2 _))
  clear hC5 r5 b5 hB5
  go_wp2
  go_ret
  exact HST.out
 ·rw[if_pos hp]
  have t2:((pe:Int) != 0)=true:=by simp;omega
  go_enter Tryz.func13,Tryz.ntmps13
  go_wp2_with fail
  go_region_held3 (fun W=>Below w.heap.size w W∧W.cell? ⟨b,5,none⟩=some vM∧W.cell? ⟨b,2,none⟩=some (.int .i64 M.next))
   (first | (with_reducible assumption) | ((with_reducible refine hS0.out _ ?_);(first | (with_reducible assumption) | fail);done) | fail)
   (first
   | (go_at_call 54;((with_reducible refine(HRA.out _ (And.left (by with_reducible assumption))).mono ?_);rintro e w5 ⟨A5,c5,rfl,r5,b5⟩;have hB5:Below w.heap.size w w5:=bj (And.left (by with_reducible assumption)) b5))
   | fail)
  have HB5:=Lib.hid hB5
  clear r5 b5 hB5
  go_wp2
  go_ret
  exact HSA.out _ HB5.out
end
end Go.Proofs.YtcpfkaehefcakaaGreat
namespace Go.Proofs.YtcpfkaehefcakaaGreat
open Go.RowKit Go.Shelf
set_option linter.unusedVariables false
set_option maxRecDepth 100000
def addXL (L:List EntS)(x:EntS) : List EntS:=if mayE x=true then layEn L x else L
section
variable {w w' : World} {base b : Nat} {L Q : List EntS} {M : ManS} {F : List Nat}
theorem rx_added {vL vQ vM v5 v6:Value}{G:List Nat}{L2 Q2:List EntS}{wd w5 w6:World}(h:RxC w base b L Q M F vL vQ vM G wd)(hg:b ∉ G∧b∈F∧(∀ k∈ownL vL,k∈F)∧(∀ k∈ownL vQ,k∈F)∧(∀ k∈G,k∈F)∧∀ k∈F,base≤k∧k<w.heap.size)
  (r5:EntRow w5 base v5 L2) (b5:Below wd.heap.size wd w5) (o5:∀ k∈ownL v5,k∈ownL vL∨(wd.heap.size≤k∧k<w5.heap.size)) (r6:EntRow w6 base v6 Q2) (b6:Below w5.heap.size w5 w6) (o6:∀ k∈ownL v6,k∈ownL vQ∨(w5.heap.size≤k∧k<w6.heap.size)) (hbase:base≤w.heap.size) (e:Value) :
  RxEnd base b e L2 Q2 M F w (.returned e) ((w6.setCell ⟨b,0,none⟩ v5).setCell ⟨b,1,none⟩ v6):=by
 have hbw:b<w.heap.size:=(hg.2.2.2.2.2 b hg.2.1).2
 have s0:=h.bel.size
 have s5:=b5.size
 have s6:=b6.size
 have B6:=(h.blok.below b5).below b6
 have ht:Touch [b] w6 ((w6.setCell ⟨b,0,none⟩ v5).setCell ⟨b,1,none⟩ v6):=((Touch.refl [b] w6).setCell (p:=⟨b,0,none⟩) (Or.inl (List.mem_singleton.2 rfl)) _).setCell (p:=⟨b,1,none⟩) (Or.inl (List.mem_singleton.2 rfl)) _
 have hz:=ht.size
 have R5:=EntRow.below r5 b6 (Nat.le_refl _)
 have k2:=Kept.of_touch ht (E:=G++(ownL v5++ownL v6)) (fun x hx=>by
  rcases List.mem_append.1 hx with q | q
  ·have:=hg.2.2.2.2.2 x (hg.2.2.2.2.1 x q)
   exact⟨by omega,fun hm=>hg.1 (by rw[← List.mem_singleton.1 hm];exact q)⟩
  ·rcases List.mem_append.1 q with q | q
   ·exact⟨(R5.lt x (ownL_mem.1 q)).2,fun hm=>own_ne R5 B6 rx_ne (by rw[← List.mem_singleton.1 hm];exact ownL_mem.1 q)⟩
   ·exact⟨(r6.lt x (ownL_mem.1 q)).2,fun hm=>own_ne r6 B6 rx_ne (by rw[← List.mem_singleton.1 hm];exact ownL_mem.1 q)⟩)
 have hall:=bj h.bel (bj b5 b6)
 have K6:LvKeep w6 vM M.lv G:=h.lv.step (Kept.of_below (bj b5 b6) (fun x hx=>by have:=hg.2.2.2.2.2 x (hg.2.2.2.2.1 x hx);omega))
 refine⟨ownL v5++(ownL v6++F),rfl,⟨v5,v6,vM,G,(B6.put 0 _).put 1 _,k2.row R5 (fun x hx=>List.mem_append_right _ (List.mem_append_left _ hx)),k2.row r6 (fun x hx=>List.mem_append_right _ (List.mem_append_right _ hx)),K6.step (k2.less (fun x hx=>List.mem_append_left _ hx)),hg.1,List.mem_append_right _ (List.mem_append_right _ hg.2.1),fun x hx=>List.mem_append_left _ hx,fun x hx=>List.mem_append_right _ (List.mem_append_left _ hx),fun x hx=>List.mem_append_right _ (List.mem_append_right _ (hg.2.2.2.2.1 x hx)),fun x hx=>?_⟩,((Touch.of_below hall).more (fun x hx=>by cases hx)).trans ht (fun x hx=>Or.inl hx),fun y hy=>?_⟩
 ·rcases List.mem_append.1 hx with q | q
  ·have:=R5.lt x (ownL_mem.1 q)
   exact⟨this.1,by omega⟩
  ·rcases List.mem_append.1 q with q | q
   ·have:=r6.lt x (ownL_mem.1 q)
    exact⟨this.1,by omega⟩
   ·have:=hg.2.2.2.2.2 x q
    exact⟨this.1,by omega⟩
 ·rcases List.mem_append.1 hy with q | q
  ·rcases o5 y q with k | k
   ·exact Or.inl (hg.2.2.1 y k)
   ·exact Or.inr ⟨by omega,by omega⟩
  ·rcases List.mem_append.1 q with q | q
   ·rcases o6 y q with k | k
    ·exact Or.inl (hg.2.2.2.1 y k)
    ·exact Or.inr ⟨by omega,by omega⟩
   ·exact Or.inl q
set_option maxHeartbeats 40000000 in
theorem rxadd (h:RxAt w base b L Q M F){x:EntS}(hx:EntOk x)(hL:L.length≤10000)(hQ:Q.length≤10000)(hbase:base≤w.heap.size) :
  Calls Tryz.prog 22 #[ptr b,entB x] w (RxEnd base b (err (addXE x)) (addXL L x) (addXL Q x) M F w):=by
 have hb:=(Below.refl w.heap.size w).alloc (Nat.le_refl _) (.cells #[.int .u64 (x.h:Nat),.int .i64 x.v,.int .i64 x.p] 44)
 have Bx:=Blok.new w 44 #[.int .u64 (x.h:Nat),.int .i64 x.v,.int .i64 x.p]
 have h1:=h.below hb
 obtain⟨w1,hw1⟩:∃ w1,w.alloc (.cells #[.int .u64 (x.h:Nat),.int .i64 x.v,.int .i64 x.p] 44)=w1:=⟨_,rfl⟩
 rw[hw1] at hb Bx h1
 have HB:=Lib.hid hb
 have HP:=Lib.hid (eput_ref x w1 hx)
 obtain⟨x0,x1,x2⟩:w1.cell? ⟨w.heap.size,0,none⟩=some (.int .u64 (x.h:Nat))∧w1.cell? ⟨w.heap.size,1,none⟩=some (.int .i64 x.v)∧w1.cell? ⟨w.heap.size,2,none⟩=some (.int .i64 x.p):=⟨Bx.cell 0,Bx.cell 1,Bx.cell 2⟩
 have HBX:=Lib.hid Bx
 have H0:=Lib.hid h
 have H1:=Lib.hid h1
 have HLL:=Lib.hid hL
 have HQQ:=Lib.hid hQ
 have HBS:=Lib.hid hbase
 clear h h1 hb Bx hx hL hQ hbase
 cases hm:mayE x with
 | false =>
   have e1:∀ L:List EntS,addXL L x=L:=fun L=>by unfold addXL;rw[hm];rfl
   have e2:addXE x=2:=by unfold addXE;rw[hm];rfl
   rw[e1,e1,e2]
   rw[en_put_no hm] at HP
   clear e1 e2 hm
   obtain⟨xh,xv,xp⟩:=x
   go_enter Tryz.func22,Tryz.ntmps22
   go_wp2_with fail
   refine HP.out.mono ?_
   rintro e w2 ⟨rfl,b2⟩
   have HF:=Lib.hid (RxEnd.same (v:=.int .i64 2) H0.out (bj HB.out b2))
   clear b2
   go_wp2
   go_ret
   exact HF.out
 | true =>
   have e1:∀ L:List EntS,addXL L x=layEn L x:=fun L=>by unfold addXL;rw[hm];rfl
   have e2:addXE x=0:=by unfold addXE;rw[hm];rfl
   rw[e1,e1,e2]
   have hsz:=putE_size hm
   have hne:((putE x).toList==[])=false:=by
    rw[beq_eq_false_iff_ne]
    intro e
    have hz:(putE x).toList.length=0:=by rw[e];rfl
    rw[Lib.toList_data,Array.length_toList] at hz
    have:(putE x).size=0:=hz
    omega
   clear e1 e2 hm hsz
   generalize putE x=s at *
   go_enter Tryz.func22,Tryz.ntmps22
   go_wp2_with fail
   refine HP.out.mono ?_
   rintro e w2 ⟨rfl,b2⟩
   obtain⟨vL,vQ,vM,G,hg,hP⟩:=H0.out.parts
   have hwd:Below w.heap.size w w2.drew:=bj HB.out (bj b2 (Below.refl w2.heap.size w2).drew)
   have hC:=hP _ hwd
   have HWL:=Lib.hid (fun W (hW:Below w2.drew.heap.size w2.drew W)=>with_any (EntRow.below hC.rowL hW (Nat.le_refl _)) (Nat.le_trans HBS.out (bj hwd hW).size) x HLL.out)
   have HWQ:=Lib.hid (fun W (hW:Below w2.drew.heap.size w2.drew W)=>with_any (EntRow.below hC.rowQ hW (Nat.le_refl _)) (Nat.le_trans HBS.out (bj hwd hW).size) x HQQ.out)
   have HEND:Hid (∀ w5 A5 c5 w6 A6 c6,EntRow w5 base (.slice A5 (layEn L x).length c5) (layEn L x)→Below w2.drew.heap.size w2.drew w5→(∀ k∈ownL (.slice A5 (layEn L x).length c5),k∈ownL vL∨(w2.drew.heap.size≤k∧k<w5.heap.size))→EntRow w6 base (.slice A6 (layEn Q x).length c6) (layEn Q x)→Below w5.heap.size w5 w6→(∀ k∈ownL (.slice A6 (layEn Q x).length c6),k∈ownL vQ∨(w5.heap.size≤k∧k<w6.heap.size)) →
     RxEnd base b (.int .i64 0) (layEn L x) (layEn Q x) M F w (.returned (.int .i64 0)) ((w6.setCell ⟨b,0,none⟩ (.slice A5 (layEn L x).length c5)).setCell ⟨b,1,none⟩ (.slice A6 (layEn Q x).length c6))):=Lib.hid fun w5 A5 c5 w6 A6 c6 r5 b5 o5 r6 b6 o6=>rx_added hC hg r5 b5 o5 r6 b6 o6 HBS.out _
   have k1:=hC.blok
   unfold WithEnd at HWL HWQ
   have HY:Hid (∀ W,Below w2.drew.heap.size w2.drew W→W.cell? ⟨b,0,none⟩=some vL∧W.cell? ⟨b,1,none⟩=some vQ∧W.cell? ⟨w.heap.size,0,none⟩=some (.int .u64 (x.h:Nat))∧W.cell? ⟨w.heap.size,1,none⟩=some (.int .i64 x.v)∧W.cell? ⟨w.heap.size,2,none⟩=some (.int .i64 x.p)∧W.frozen? ⟨b,0,none⟩=false∧W.frozen? ⟨b,1,none⟩=false):=Lib.hid fun W hW =>
    ⟨(k1.below hW).cell 0,(k1.below hW).cell 1,(HBX.out.below (bj b2 (bj (Below.refl w2.heap.size w2).drew hW))).cell 0,(HBX.out.below (bj b2 (bj (Below.refl w2.heap.size w2).drew hW))).cell 1,(HBX.out.below (bj b2 (bj (Below.refl w2.heap.size w2).drew hW))).cell 2,(k1.below hW).frozen 0,(k1.below hW).frozen 1⟩
   obtain⟨y0,y1,z0,z1,z2,f0,f1⟩:=HY.out _ (Below.refl _ _)
   clear k1 hC hg hP hwd x0 x1 x2
   generalize hLx:layEn L x=L2 at *
   generalize hQx:layEn Q x=Q2 at *
   generalize w.heap.size=g0 at *
   obtain⟨xh,xv,xp⟩:=x
   go_upto_region 3 with fail
   have HWL5:=Lib.hid (HWL.out _ (Below.refl _ _))
   clear HB HP HBX H0 H1 HLL HQQ HBS hLx hQx HWL hw1
   clear b2
   go_region_with
    (first
    | (go_at_call 64;((with_reducible refine HWL5.out.mono ?_);rintro e w5 ⟨A5,c5,rfl,r5,b5,o5⟩;obtain⟨q0,q1,p0,p1,p2,g1,g2⟩:=HY.out _ b5))
    | (go_at_call 64;((with_reducible refine(HWQ.out _ (by assumption)).mono ?_);rintro e w6 ⟨A6,c6,rfl,r6,b6,o6⟩;obtain⟨q3,q4,p3,p4,p5,g3,g4⟩:=HY.out _ (bj (by assumption) b6)))
    | fail)
   all_goals
    have HFIN:=Lib.hid (HEND.out _ _ _ _ _ _ r5 b5 o5 r6 b6 o6)
    clear r5 b5 o5 r6 b6 o6 HWQ HWL5 HY HEND
    go_wp2
    first
    | (go_ret;exact HFIN.out)
    | exact bodyPost_ret (v:=.int .i64 0) (by simp[results,Tryz.results22,go_sem]) rfl HFIN.out
end
end Go.Proofs.YtcpfkaehefcakaaGreat
