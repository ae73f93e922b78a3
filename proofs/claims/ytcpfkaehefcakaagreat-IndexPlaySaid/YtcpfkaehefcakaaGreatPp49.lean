/- ZpIxPlayWalk -/
import Derived.Test.YtcpfkaehefcakaaGreatPp48
import Derived.Test.YtcpfkaehefcakaaGreatPp19
namespace Go.Proofs.YtcpfkaehefcakaaGreat
open Go.RowKit Go.Shelf
set_option linter.unusedVariables false
set_option maxRecDepth 100000
section
variable {At : Lies} (api : DiskApi At) (nap : NamesApi) (iap : ImApi At) (cap : ChunksApi)
include api
theorem pl_init {w0 w:World}{gd gl gx r:Nat}(h:IlAt At w0 gd gl gx r (ix0 9) (newS 1048576) [] w) :
  PlSt At w0 gd gl gx r w.heap.size 0 0 [] [] (w.alloc (.cells #[.slice none 0 0,.slice none 0 0,.int .i64 0,.int .i64 0,.int .u64 9,.slice none 0 0] 42)):=by
 have hb:=(Below.refl w.heap.size w).alloc (Nat.le_refl _) (.cells #[.slice none 0 0,.slice none 0 0,.int .i64 0,.int .i64 0,.int .u64 9,.slice none 0 0] 42)
 have B:=Blok.new w 42 #[.slice none 0 0,.slice none 0 0,.int .i64 0,.int .i64 0,.int .u64 9,.slice none 0 0]
 have hz:=h.base.size
 have h2:=h.more api hb (B:=[w.heap.size]) (fun x hx=>by rw[List.mem_singleton.1 hx];exact⟨Nat.le_refl _,B.lt⟩)
 refine⟨ix0 9,[],⟨0,0,9,[]⟩,newS 1048576,[w.heap.size],⟨h2,⟨.slice none 0 0,.slice none 0 0,.slice none 0 0,[],B,EntRow.nil _ _,EntRow.nil _ _,fun W hW=>LvsHas.nil W none 0,(fun hm=>by cases hm),List.mem_cons_self,(fun k hk=>by cases ownL_mem.1 hk),(fun k hk=>by cases ownL_mem.1 hk),(fun k hk=>by cases hk),fun k hk=>?_⟩,fun x _ hm=>by cases hm⟩,⟨List.Pairwise.nil,fun x=>?_,rfl,rfl,Nat.le_refl _,Int.le_refl _⟩,rfl,Nat.le_refl _⟩
 ·rw[List.mem_singleton.1 hk]
  exact⟨hz,B.lt⟩
 ·unfold IxHas ix0
  simp
include nap iap cap
omit api nap iap cap in
theorem kept_cell {G:List Nat}{w w':World}{g:Nat}(h:Kept G w w')(hg:g∈G)(i:Nat) : w'.cell? ⟨g,i,none⟩=w.cell? ⟨g,i,none⟩:=World.cell?_of_block (a:=⟨g,i,none⟩) (h.block g hg)
namespace IxPlayW
set_option maxHeartbeats 8000000 in
theorem walk (W:World)(v0:Value)(l0:List PAct)(a1:Nat)(hl0:PActsIn W v0 l0)(wl0:∀ x∈l0,PActOk x)(w1:a1<18446744073709551616) : Calls Tryz.prog 3 #[v0,.float .f64 a1] W fun e w'=>e = .returned (.bool true)∧Below W.heap.size W w':=by
 obtain⟨A0,o0,c0,rfl,-,hcell⟩:=hl0.form
 have HC:=Lib.hid hcell
 have HOK:=Lib.hid wl0
 obtain⟨n,hn⟩:∃ n,n=l0.length:=⟨_,rfl⟩
 have HN:=Lib.hid hn
 rw[← hn]
 have HEX:=Lib.hid (fun w=>indexed_true api nap iap cap w)
 clear hl0 hcell wl0 hn
 by_cases hbig:n>120
 ·have t1:(n:Int)>120:=by omega
  go_enter Tryz.func3,Tryz.ntmps3
  go_wp2_with fail
  refine(HEX.out _).mono ?_
  rintro e w3 ⟨rfl,hb3⟩
  have HB3:=Lib.hid hb3
  clear hb3
  go_wp2
  go_ret
  exact⟨rfl,HB3.out⟩
 ·have t1:¬ (n:Int)>120:=by omega
  have hn120:n≤120:=by omega
  have HNEW:=Lib.hid (show Calls Tryz.prog 6 #[.int .i64 1048576] W fun e w'=>∃ g,e = .returned (.tuple #[ptr g,.int .i64 0])∧DS At W g (newS 1048576) [] w' from im_new api W 1048576 (by decide))
  have HLG:=Lib.hid (fun w g (h:DS At W g (newS 1048576) [] w)=>log_first api nap cap h (by decide))
  have HIX:=Lib.hid (fun w g gl (h:LogSt At W g gl log0 (newS 1048576) [] w)=>(show Calls Tryz.prog 8 #[ptr g,.agg #[.int .i64 0,.int .i64 0,.int .u64 9,.slice none 0 0],.float .f64 a1] w fun e w'=>∃ gx,e = .returned (.tuple #[ptr gx,.int .i64 0])∧IlAt At W g gl gx a1 (ix0 9) (newS 1048576) [] w'∧Kept [] w w' from il_first api nap h (by decide) 9 (by decide) a1))
  clear hbig
  go_enter Tryz.func3,Tryz.ntmps3
  go_wp2_with fail
  refine HNEW.out.mono ?_
  rintro e wa ⟨gd,rfl,hD⟩
  have H1:=Lib.hid (HLG.out wa gd hD)
  clear hD HLG HNEW
  go_wp2_with fail
  refine H1.out.mono ?_
  rintro e wb ⟨gl,rfl,-,hl,-⟩
  have H2:=Lib.hid (HIX.out wb gd gl hl)
  clear hl HIX H1
  go_wp2_with fail
  refine H2.out.mono ?_
  rintro e wc ⟨gx0,rfl,hi,-⟩
  have HI:=Lib.hid (pl_init api hi)
  clear hi H2
  obtain⟨b,hb⟩:∃ b,b=wc.heap.size:=⟨_,rfl⟩
  rw[← hb] at HI
  have HB:=Lib.hid hb
  clear hb
  go_upto_block 0 with fail
  rw[← HB.out]
  generalize wc.alloc (.cells #[.slice none 0 0,.slice none 0 0,.int .i64 0,.int .i64 0,.int .u64 9,.slice none 0 0] 42)=wd at *
  clear HB
  go_wp2_with fail
  go_loopw [9,12] (fun p i wr=>∃ (j gx:Nat) (L:List EntS),j≤n∧i = .int .i64 j∧p=ptr gx∧PlSt At W gd gl gx a1 b j (300*j) L [] wr) (fun _ i _=>n-(intOf i).toNat)
  case atStart=>exact⟨0,gx0,[],Nat.zero_le _,rfl,rfl,HI.out⟩
  case round =>
   obtain⟨j,gx,L,hj,rfl,rfl,hP⟩:=hrel
   have HP:=Lib.hid hP
   clear hP HI
   by_cases hjn:j<n
   ·have s1:(j:Int)<(n:Int):=by omega
    obtain⟨x,hx⟩:∃ x,l0[j]? = some x:=⟨_,List.getElem?_eq_getElem (by rw[← HN.out];exact hjn)⟩
    obtain⟨bk,rfl,hbk,d0,d1,d2,d3,d4,d5⟩:=HC.out j x hx
    have hxo:=HOK.out x (List.mem_of_getElem? hx)
    have hbel:=HP.out.bel
    have q0:=(hbel.cell (p:=⟨bk,o0+j*6,none⟩) hbk).trans d0
    have q1:=(hbel.cell (p:=⟨bk,o0+j*6+1,none⟩) hbk).trans d1
    have q2:=(hbel.cell (p:=⟨bk,o0+j*6+2,none⟩) hbk).trans d2
    have q3:=(hbel.cell (p:=⟨bk,o0+j*6+3,none⟩) hbk).trans d3
    have q4:=(hbel.cell (p:=⟨bk,o0+j*6+4,none⟩) hbk).trans d4
    have q5:=(hbel.cell (p:=⟨bk,o0+j*6+5,none⟩) hbk).trans d5
    have HXO:=Lib.hid hxo
    obtain⟨xk,⟨xh,xv,xp⟩,xa,xb⟩:=x
    simp only at q0 q1 q2 q3 q4 q5
    obtain⟨km,hkm⟩:∃ km,km=xk%10:=⟨_,rfl⟩
    have m1:(xk:Int).tmod 10=(km:Int):=by rw[hkm];rfl
    have m2:(xk:Int)%10=(km:Int):=by rw[hkm];rfl
    have hb1:=(Below.refl wr.heap.size wr).alloc (Nat.le_refl _) (.cells #[.int .u8 (xk:Nat),.int .u64 (xh:Nat),.int .i64 xv,.int .i64 xp,.int .i64 xa,.int .i64 xb] 46)
    have B1:=Blok.new wr 46 #[.int .u8 (xk:Nat),.int .u64 (xh:Nat),.int .i64 xv,.int .i64 xp,.int .i64 xa,.int .i64 xb]
    have hP1:=HP.out.more api hb1 (B:=[wr.heap.size]) (fun y hy=>by rw[List.mem_singleton.1 hy];exact⟨Nat.le_refl _,B1.lt⟩)
    obtain⟨we,hwe⟩:∃ we,we=wr.alloc (.cells #[.int .u8 (xk:Nat),.int .u64 (xh:Nat),.int .i64 xv,.int .i64 xp,.int .i64 xa,.int .i64 xb] 46):=⟨_,rfl⟩
    rw[← hwe] at hP1 B1
    have HWE:=Lib.hid hwe
    obtain⟨ga,hga⟩:∃ ga,ga=wr.heap.size:=⟨_,rfl⟩
    rw[← hga] at hP1 B1
    have HGA:=Lib.hid hga
    have HP1:Hid (PlSt At W gd gl gx a1 b j (300*j) L [ga] we):=Lib.hid (hP1.less (fun y hy=>List.mem_append_left _ hy))
    have HB1:=Lib.hid B1
    clear hx d0 d1 d2 d3 d4 d5 hbel hxo hkm hb1 B1 hP1 hwe hga
    go_upto_block 2 with fail
    rw[← HGA.out,← HWE.out]
    clear HWE HGA HP q0 q1 q2 q3 q4 q5
    go_cut [9,14,15,16,17,18,19,20] from 57 to 213 (fun p z14 z15 z16 z17 z18 z19 z20 wx=>∃ (gx':Nat) (L':List EntS),p=ptr gx'∧PlSt At W gd gl gx' a1 b (j+1) (300*j+200) L' [ga] wx)
    case first =>
     obtain⟨eh,hehb,heo,wxa,wxb,hent⟩:=entry_some HXO.out
     have HENT:=Lib.hid hent
     have HEO:=Lib.hid heo
     have HWX:=Lib.hid (And.intro hehb (And.intro wxa wxb))
     have HSC:Hid (∀ W,Kept [ga] we W→W.cell? ⟨ga,0,none⟩=some (.int .u8 (xk:Nat))∧W.cell? ⟨ga,1,none⟩=some (.int .u64 (xh:Nat))∧W.cell? ⟨ga,2,none⟩=some (.int .i64 xv)∧W.cell? ⟨ga,3,none⟩=some (.int .i64 xp)∧W.cell? ⟨ga,4,none⟩=some (.int .i64 xa)∧W.cell? ⟨ga,5,none⟩=some (.int .i64 xb)):=Lib.hid fun W hW=>by
      have B:=hW.blok HB1.out (List.mem_singleton.2 rfl)
      exact⟨B.cell 0,B.cell 1,B.cell 2,B.cell 3,B.cell 4,B.cell 5⟩
     have hgal:ga<we.heap.size:=HB1.out.lt
     have HKG:Hid (∀ W W',Kept [ga] we W→Below W.heap.size W W'→Kept [ga] we W'):=Lib.hid fun W W' h1 h2=>h1.trans (Kept.of_below h2 (fun y hy=>by rw[List.mem_singleton.1 hy];exact Nat.lt_of_lt_of_le hgal h1.size))
     have hkd:Kept [ga] we we.drew:=HKG.out _ _ (Kept.refl _ _) (Below.refl _ _).drew
     have hPd:PlSt At W gd gl gx a1 b j (300*j) L [ga] we.drew:=HP1.out.below api (Below.refl _ _).drew
     have HKD:=Lib.hid hkd
     have HPD:=Lib.hid hPd
     clear hent heo HXO wxa wxb hehb hkd hPd HC HN HOK HEX
     by_cases k5:km=5
     ·as_aux_lemma =>
      have e5:((km:Int)==5)=true:=by rw[k5];rfl
      have HF1:=Lib.hid (pl_flush1 api nap iap HP1.out (by omega) (by omega) w1)
      clear HENT HEO HWX HSC HKG HKD HPD HP1 HB1
      go_wp2_with fail
      refine HF1.out.mono ?_
      rintro e w2 ⟨v,rfl,hm2,k2⟩
      have HM2:=Lib.hid hm2
      have HE2:=Lib.hid (pl_end hm2)
      clear hm2 k2 HF1
      go_wp2_with fail
      refine HE2.out.mono ?_
      rintro e w' ⟨rfl,rfl⟩
      have HF2:=Lib.hid (pl_flush2 api HM2.out (by omega))
      clear HE2 HM2
      go_wp2_with fail
      refine HF2.out.mono ?_
      rintro e w3 ⟨rfl,hp3,-⟩
      have HP3:=Lib.hid hp3
      clear hp3 HF2
      go_wp2
      go_meet
      exact⟨gx,L,rfl,HP3.out.up (Nat.le_refl _) (by omega)⟩
     have e5:((km:Int)==5)=false:=beq_eq_false_iff_ne.2 (by omega)
     by_cases k6:km=6
     ·as_aux_lemma =>
      have e6:((km:Int)==6)=true:=by rw[k6];rfl
      have HF1:=Lib.hid (pl_merge1 api nap iap HPD.out (by omega) (by omega) w1 xa)
      have s0:we.drew.cell? ⟨ga,4,none⟩=some (.int .i64 xa):=(HSC.out _ HKD.out).2.2.2.2.1
      have HS4:Hid (∀ W,Kept [ga] we W→W.cell? ⟨ga,4,none⟩=some (.int .i64 xa)):=Lib.hid fun W hW=>(HSC.out _ hW).2.2.2.2.1
      have HMG:=Lib.hid (fun w v (h:MidM At W gd gl gx a1 b j (300*j+50) L xa v [ga] w)=>pl_merge2 api h (by omega))
      clear HENT HEO HWX HSC HKG HPD HP1 HB1
      go_upto_region 20 with fail
      go_region_held3 (fun W=>W.cell? ⟨ga,4,none⟩=some (.int .i64 xa))
       (first | (with_reducible assumption) | fail)
       (first
       | (go_at_call 12;((with_reducible refine HF1.out.mono ?_);rintro e w2 ⟨v,rfl,hm2,k2⟩;have hK2:=HKD.out.trans k2;have s2:=HS4.out _ hK2;have hmg:=HMG.out _ _ hm2))
       | (go_at_call 13;((with_reducible refine hmg.mono ?_);rintro e w3 ⟨rfl,hp3,k3⟩;have s3:=HS4.out _ (hK2.trans k3)))
       | fail)
      have HP3:=Lib.hid hp3
      clear hp3 hmg hm2 HF1 HMG HS4 s0 s2 s3
      go_wp2
      go_meet
      exact⟨gx,L,rfl,HP3.out.up (Nat.le_refl _) (by omega)⟩
     have e6:((km:Int)==6)=false:=beq_eq_false_iff_ne.2 (by omega)
     by_cases k7:km=7
     ·as_aux_lemma =>
      have e7:((km:Int)==7)=true:=by rw[k7];rfl
      obtain⟨Q,n',m',d',k',R',A1,c1,A2,c2,-,-,-,-,hQl,-,-,-,hman⟩:=pl_man api HP1.out
      have HMN:=Lib.hid (hman we (Below.refl _ _))
      have HOP:=Lib.hid (fun w A cp (h:MidN At W gd gl gx a1 b j (300*j) L Q n' m' d' A k' cp R' [ga] w)=>pl_open api nap h (by omega) (by omega))
      unfold manV at HMN HOP
      have HQL:=Lib.hid hQl
      clear hman hQl HENT HEO HWX HSC HKG HKD HPD HP1 HB1
      go_wp2_with fail
      refine HMN.out.mono ?_
      rintro e w2 ⟨A3,c3,rfl,hm2,-⟩
      have HO:=Lib.hid (HOP.out w2 A3 c3 hm2)
      clear hm2 HMN HOP
      go_wp2_with fail
      refine HO.out.mono ?_
      rintro e w3 ⟨gx2,rfl,ho3,-⟩
      have HO3:=Lib.hid ho3
      clear ho3 HO
      obtain⟨nq,hnq⟩:∃ nq,nq=Q.length:=⟨_,rfl⟩
      have HNQ:=Lib.hid hnq
      have hnq120:nq≤120:=by have:=HQL.out;omega
      clear hnq
      go_wp2
      go_loopw [16] (fun i wr=>∃ k:Nat,k≤nq∧i = .int .i64 k∧MidO At W gd gl gx2 a1 b j (300*j+100) L Q k [ga] wr) (fun i _=>nq-(intOf i).toNat)
      case atStart=>exact⟨0,Nat.zero_le _,rfl,HO3.out⟩
      case round =>
       obtain⟨k,hk,rfl,ho⟩:=hrel
       obtain⟨A5,c5,f1,f2⟩:=ho.cells
       rw[← HNQ.out] at f1 f2
       have HO5:=Lib.hid ho
       clear ho HO3
       by_cases hkq:k<nq
       ·have s2:(k:Int)<(nq:Int):=by omega
        obtain⟨y,hy⟩:∃ y,Q[k]? = some y:=⟨_,List.getElem?_eq_getElem (by rw[← HNQ.out];exact hkq)⟩
        obtain⟨ob,off,rfl,-,-,y0,y1,y2⟩:=ent_cell f2 hy
        have HRA:=Lib.hid (pl_readd api HO5.out (by omega) hy)
        obtain⟨yh,yv,yp⟩:=y
        simp only at y0 y1 y2
        clear hy f2 HO5
        go_wp2_with fail
        refine HRA.out.mono ?_
        rintro e w6 ⟨rfl,ho6,-⟩
        have HO6:=Lib.hid ho6
        clear ho6 HRA
        go_wp2
        go_roundw
        case rel=>exact⟨k+1,by omega,by go_num,HO6.out⟩
        case measure=>simp[intOf];omega
       ·obtain rfl:k=nq:=by omega
        have s2:¬ (k:Int)<(k:Int):=by omega
        have HDN:=Lib.hid (pl_done HO5.out HNQ.out)
        clear HO5 hkq f2
        go_wp2
        go_meet
        exact⟨gx2,L,rfl,HDN.out.up (Nat.le_succ _) (by omega)⟩
     have e7:((km:Int)==7)=false:=beq_eq_false_iff_ne.2 (by omega)
     by_cases k89:km=8∨km=9
     ·as_aux_lemma =>
      have s0:=HSC.out _ HKD.out
      have hfd:=fun w=>ent_fld eh xv xp w
      have HR1:=Lib.hid (fun w (h:PlSt At W gd gl gx a1 b j (300*j) L [ga] w)=>pl_range1 api nap h (by omega) (by omega) eh HWX.out.1 xa xb HWX.out.2.1 HWX.out.2.2)
      have HL1:=Lib.hid (fun w E (h:PlSt At W gd gl gx a1 b j (300*j+50) L E w)=>pl_last1 api nap h (by omega) (by omega) eh HWX.out.1 xb HWX.out.2.2)
      have HR2:=Lib.hid (fun w E (h:PlSt At W gd gl gx a1 b j (300*j+50+50) L E w)=>pl_range2 h (by omega) eh xa xb)
      have HL2:=Lib.hid (fun w E z (h:PlSt At W gd gl gx a1 b j (300*j+50+50) L E w) (hz:TopV (· ∈ L) eh (capV xb) z)=>pl_last2 h (by omega) eh xb hz)
      have hRl:(rangeE L eh (max xa 0) (capV xb)).length≤1000:=by
       have h1:=List.length_filter_le (inQ eh (max xa 0) (capV xb)) L
       have h2:L.length≤j:=by
        obtain⟨S,Q,M,D,F,-,hsm,-⟩:=HP1.out
        exact hsm.len
       unfold rangeE
       omega
      unfold EntsOut at HR2
      obtain⟨R,hR⟩:∃ R,R=rangeE L eh (max xa 0) (capV xb):=⟨_,rfl⟩
      rw[← hR] at HR1 HR2 hRl
      have HSM:=Lib.hid (fun(w:World) (va vb:Value) (ha:EntsIn w va R) (hb:EntsIn w vb R)=>tsame_any va vb R R w ha hb (by omega) (by omega))
      simp only[decide_true] at HSM
      unfold SameEnd at HSM
      obtain⟨m,hm⟩:∃ m,m=R.length:=⟨_,rfl⟩
      rw[← hm] at HR1 HR2
      have HMM:=Lib.hid hm
      clear hR hm hRl HP1
      have e89:((km:Int)==8)=true∨(((km:Int)==8)=false∧((km:Int)==9)=true):=by
       rcases k89 with rfl | rfl
       ·exact Or.inl rfl
       ·exact Or.inr ⟨rfl,rfl⟩
      clear k89
      rcases e89 with e8 | ⟨e8,e9⟩
      all_goals
       go_upto_region 34 with fail
       go_region_held3 (fun W=>W.cell? ⟨ga,0,none⟩=some (.int .u8 (xk:Nat))∧W.cell? ⟨ga,1,none⟩=some (.int .u64 (xh:Nat))∧W.cell? ⟨ga,2,none⟩=some (.int .i64 xv)∧W.cell? ⟨ga,3,none⟩=some (.int .i64 xp)∧W.cell? ⟨ga,4,none⟩=some (.int .i64 xa)∧W.cell? ⟨ga,5,none⟩=some (.int .i64 xb))
        (first | (with_reducible assumption) | fail)
        (first
        | (go_at_call 17;((with_reducible refine(HENT.out _).mono ?_);rintro e w2 ⟨rfl,b2⟩;have hK2:=HKG.out _ _ HKD.out b2;have s2:=HSC.out _ hK2;have hr1:=HR1.out _ (HPD.out.below api b2)))
        | (go_at_call 16;((with_reducible refine hr1.mono ?_);rintro e w3 ⟨A3,c3,n3,hn3,rfl,r3,hp3,k3⟩;have hK3:=hK2.trans k3;have s3:=HSC.out _ hK3))
        | fail)
       obtain rfl:n3=m:=by rw[hn3,HMM.out]
       have hKd3:Kept [ga] we w3.drew:=HKG.out _ _ hK3 (Below.refl _ _).drew
       have sd3:=HSC.out _ hKd3
       have HP3:=Lib.hid (hp3.below api (Below.refl _ _).drew)
       have R3:=Lib.hid (EntRow.below r3 (Below.refl _ _).drew (Nat.le_refl _))
       have HKD3:=Lib.hid hKd3
       clear hp3 r3 hr1 s0 s2 s3 hK2 hK3 hKd3 hn3 k3 b2
       go_upto_region 35 with fail
       go_region_held3 (fun W=>W.cell? ⟨ga,0,none⟩=some (.int .u8 (xk:Nat))∧W.cell? ⟨ga,1,none⟩=some (.int .u64 (xh:Nat))∧W.cell? ⟨ga,2,none⟩=some (.int .i64 xv)∧W.cell? ⟨ga,3,none⟩=some (.int .i64 xp)∧W.cell? ⟨ga,4,none⟩=some (.int .i64 xa)∧W.cell? ⟨ga,5,none⟩=some (.int .i64 xb))
        (first | (with_reducible assumption) | fail)
        (first
        | (go_at_call 17;((with_reducible refine(HENT.out _).mono ?_);rintro e w4 ⟨rfl,b4⟩;have hK4:=HKG.out _ _ HKD3.out b4;have s4:=HSC.out _ hK4;have hl1:=HL1.out _ _ (HP3.out.below api b4)))
        | (go_at_call 18;((with_reducible refine hl1.mono ?_);rintro e w5 ⟨z,hz,rfl,hp5,k5⟩;have hK5:=hK4.trans (k5.less (fun y hy=>List.mem_append_right _ hy));have s5:=HSC.out _ hK5))
        | fail)
       have R4:=EntRow.below R3.out b4 (Nat.le_refl _)
       have R5:=k5.row R4 (fun y hy=>List.mem_append_left _ hy)
       have R6:=Lib.hid (EntRow.below R5 (Below.refl _ _).drew (Nat.le_refl _))
       have hKd5:Kept [ga] we w5.drew:=HKG.out _ _ hK5 (Below.refl _ _).drew
       have sd5:=HSC.out _ hKd5
       have HP5:=Lib.hid (hp5.below api (Below.refl _ _).drew)
       have HKD5:=Lib.hid hKd5
       have HZ:=Lib.hid hz
       clear hp5 hl1 s4 s5 sd3 hK4 hK5 hKd5 hz k5 b4 R4 R5
       go_upto_region 36 with fail
       go_region_held3 (fun W=>W.cell? ⟨ga,0,none⟩=some (.int .u8 (xk:Nat))∧W.cell? ⟨ga,1,none⟩=some (.int .u64 (xh:Nat))∧W.cell? ⟨ga,2,none⟩=some (.int .i64 xv)∧W.cell? ⟨ga,3,none⟩=some (.int .i64 xp)∧W.cell? ⟨ga,4,none⟩=some (.int .i64 xa)∧W.cell? ⟨ga,5,none⟩=some (.int .i64 xb))
        (first | (with_reducible assumption) | fail)
        (first
        | (go_at_call 17;((with_reducible refine(HENT.out w5.drew).mono ?_);rintro e w6 ⟨rfl,b6⟩;have hK6:=HKG.out _ _ HKD5.out b6;have s6:=HSC.out _ hK6;have hp6:=HP5.out.below api b6;have hr2:=HR2.out _ _ hp6))
        | (go_at_call 20;((with_reducible refine hr2.mono ?_);rintro e w7 ⟨A7,c7,rfl,r7,b7⟩;have hK7:=HKG.out _ _ hK6 b7;have s7:=HSC.out _ hK7;have hp7:=hp6.below api b7;have hsm:=HSM.out w7 _ _ (EntRow.in_ (EntRow.below (EntRow.below R6.out b6 (Nat.le_refl _)) b7 (Nat.le_refl _))) (EntRow.in_ r7)))
        | (go_at_call 19;((with_reducible refine hsm.mono ?_);rintro e w8 ⟨rfl,n8,rfl⟩;have hK8:=HKG.out _ _ hK7 (below_drewN (Below.refl _ _) n8);have s8:=HSC.out _ hK8;have hp8:=hp7.below api (below_drewN (Below.refl _ _) n8)))
        | (go_at_call 17;((with_reducible refine(HENT.out _).mono ?_);rintro e w9 ⟨rfl,b9⟩;have hK9:=HKG.out _ _ hK8 b9;have s9:=HSC.out _ hK9;have hp9:=hp8.below api b9;have hl2:=HL2.out _ _ _ hp9 HZ.out))
        | (go_at_call 21;((with_reducible refine hl2.mono ?_);rintro e w' ⟨rfl,rfl⟩))
        | fail)
       have HP9:=Lib.hid hp9
       clear hp6 hp7 hp8 hp9 hr2 hsm hl2 s6 s7 s8 s9 sd5 hK6 hK7 hK8 hK9 r7 b6 b7 b9
       go_wp2
       go_meet
       exact⟨gx,L,rfl,(HP9.out.up (Nat.le_succ _) (by omega)).less (fun y hy=>List.mem_append_right _ hy)⟩
     have e8:((km:Int)==8)=false:=beq_eq_false_iff_ne.2 (by omega)
     have e9:((km:Int)==9)=false:=beq_eq_false_iff_ne.2 (by omega)
     as_aux_lemma =>
     have HA2:=Lib.hid (fun w (h:MidA At W gd gl gx a1 b j (300*j) L ⟨eh,xv,xp⟩ [ga] w)=>pl_add2 api h HEO.out (by omega))
     have HA1:=Lib.hid (fun w (h:PlSt At W gd gl gx a1 b j (300*j) L [ga] w)=>pl_add1 api h HEO.out (by omega))
     have s0:=HSC.out _ HKD.out
     have HMB:=Lib.hid (fun w w' (h:MidA At W gd gl gx a1 b j (300*j) L ⟨eh,xv,xp⟩ [ga] w) (hb:Below w.heap.size w w')=>MidA.below api h hb)
     clear HWX HP1 HB1
     go_upto_region 14 with fail
     go_region_held3 (fun W=>W.cell? ⟨ga,0,none⟩=some (.int .u8 (xk:Nat))∧W.cell? ⟨ga,1,none⟩=some (.int .u64 (xh:Nat))∧W.cell? ⟨ga,2,none⟩=some (.int .i64 xv)∧W.cell? ⟨ga,3,none⟩=some (.int .i64 xp)∧W.cell? ⟨ga,4,none⟩=some (.int .i64 xa)∧W.cell? ⟨ga,5,none⟩=some (.int .i64 xb))
      (first | (with_reducible assumption) | fail)
      (first
      | (go_at_call 17;((with_reducible refine(HENT.out we.drew).mono ?_);rintro e w2 ⟨rfl,b2⟩;have hK2:=HKG.out _ _ HKD.out b2;have s2:=HSC.out _ hK2;have ha1:=HA1.out _ (HPD.out.below api b2)))
      | (go_at_call 15;((with_reducible refine ha1.mono ?_);rintro e w3 ⟨rfl,hmA,k3⟩;have hK3:=hK2.trans k3;have s3:=HSC.out _ hK3))
      | (go_at_call 17;((with_reducible refine(HENT.out _).mono ?_);rintro e w4 ⟨rfl,b4⟩;have hK4:=HKG.out _ _ hK3 b4;have s4:=HSC.out _ hK4;have ha2:=HA2.out _ (HMB.out _ _ hmA b4)))
      | (go_at_call 22;((with_reducible refine ha2.mono ?_);rintro e w5 ⟨rfl,hp5,k5⟩;have s5:=HSC.out _ (hK4.trans k5)))
      | fail)
     have HP5:=Lib.hid hp5
     clear hp5 ha1 ha2 hmA HA1 HA2 HMB HSC HKG HKD HPD s0 s2 s3 s4 s5
     go_wp2
     go_meet
     exact⟨gx,_,rfl,HP5.out.up (Nat.le_refl _) (by omega)⟩
    case rest =>
     as_aux_lemma =>
     obtain⟨gx',L',rfl,hP2⟩:=hcut
     obtain⟨Q,n',m',d',k',R',A1,c1,A2,c2,⟨z1,z2,z3,z4,z5⟩,hbw,hlv2,hents,hQl,hk',hfl,hL5,hman⟩:=pl_man api hP2
     have HMAN:=Lib.hid hman
     have HLV:=Lib.hid hlv2
     have HKR:=Lib.hid (And.intro hk' (And.intro hfl hL5))
     have HS:Hid (∀ W,Kept [b] wc W→Kept [b] wc W∧W.cell? ⟨b,1,none⟩=some (.slice A1 Q.length c1)∧W.cell? ⟨b,2,none⟩=some (.int .i64 n')∧W.cell? ⟨b,3,none⟩=some (.int .i64 m')∧W.cell? ⟨b,4,none⟩=some (.int .u64 (d':Nat))∧W.cell? ⟨b,5,none⟩=some (.slice A2 k' c2)):=Lib.hid fun W hW =>
      ⟨hW,(kept_cell hW (List.mem_singleton.2 rfl) 1).trans z1,(kept_cell hW (List.mem_singleton.2 rfl) 2).trans z2,(kept_cell hW (List.mem_singleton.2 rfl) 3).trans z3,(kept_cell hW (List.mem_singleton.2 rfl) 4).trans z4,(kept_cell hW (List.mem_singleton.2 rfl) 5).trans z5⟩
     have HKB:Hid (∀ W W',Kept [b] wc W→Below W.heap.size W W'→Kept [b] wc W'):=Lib.hid fun W W' h1 h2=>h1.trans (Kept.of_below h2 (fun y hy=>by rw[List.mem_singleton.1 hy];exact Nat.lt_of_lt_of_le hbw h1.size))
     have s0:=HS.out _ (HKB.out wc wc.drew (Kept.refl _ _) (Below.refl _ _).drew)
     have HSAM:=Lib.hid (fun(W:World) (A:Option Addr) (cp:Nat) (h:LvsHas W (.slice A k' cp) R') (hW:Below wc.heap.size wc W)=>msamel_any n' m' d' A k' cp R' n' m' d' A2 k' c2 R' W h (hlv2.below hW (Nat.le_refl _)) hk' hk' (by omega) (by omega))
     simp only[sameM_refl] at HSAM
     have HQL:=Lib.hid hQl
     clear hman hlv2 hents hk' hfl hL5 hP2 hbw hQl
     unfold manV at HMAN HSAM
     go_upto_region 38 with fail
     go_region_held3 (fun W=>Kept [b] wc W∧W.cell? ⟨b,1,none⟩=some (.slice A1 Q.length c1)∧W.cell? ⟨b,2,none⟩=some (.int .i64 n')∧W.cell? ⟨b,3,none⟩=some (.int .i64 m')∧W.cell? ⟨b,4,none⟩=some (.int .u64 (d':Nat))∧W.cell? ⟨b,5,none⟩=some (.slice A2 k' c2))
      (first | (with_reducible assumption) | ((with_reducible refine HS.out _ ?_);(first | (with_reducible assumption) | exact And.left (by with_reducible assumption));done) | fail)
      (first
      | (go_at_call 14;((with_reducible refine(HMAN.out _ (Below.refl _ _).drew).mono ?_);rintro e w2 ⟨A3,c3,rfl,mid2,b2⟩;have hB2:Below wc.heap.size wc w2:=bj (Below.refl _ _).drew b2;have hK2:Kept [b] wc w2:=HKB.out _ _ (And.left (by with_reducible assumption)) b2;have hl2:=mid2.lvs.1))
      | (go_at_call 23;((with_reducible refine(HSAM.out _ _ _ hl2 hB2).mono ?_);rintro e w3 ⟨rfl,b3⟩;have hB3:Below wc.heap.size wc w3:=bj hB2 b3;have hK3:Kept [b] wc w3:=HKB.out _ _ hK2 b3;have mid3:=MidN.below api mid2 b3;have hwt:=pl_wait mid3))
      | (go_at_call 24;((with_reducible refine hwt.mono ?_);rintro e w' ⟨rfl,rfl⟩))
      | (go_at_call 14;((with_reducible refine(HMAN.out _ hB3).mono ?_);rintro e w4 ⟨A4,c4,rfl,mid4,b4⟩;have hK4:Kept [b] wc w4:=HKB.out _ _ hK3 b4;have hor:=pl_orph api nap mid4;unfold manV at hor))
      | (go_at_call 25;((with_reducible refine hor.mono ?_);rintro e w5 ⟨⟨A5,c5,rfl⟩,pl5,-,kb5⟩;have hK5:Kept [b] wc w5:=hK4.trans kb5))
      | fail)
     have HP5:=Lib.hid pl5
     clear mid2 mid3 mid4 hor hwt pl5 s0 HS HKB HMAN HSAM
     go_wp2
     go_roundw
     case rel=>exact⟨j+1,gx',L',by omega,by go_num,rfl,(HP5.out.up (Nat.le_refl _) (by omega)).less (fun y hy=>by cases hy)⟩
     case measure=>simp[intOf];omega
   ·as_aux_lemma =>
    obtain rfl:j=n:=by omega
    have s1:¬ (j:Int)<(j:Int):=by omega
    clear hjn HC
    go_wp2
    go_loopw [21] (fun i wr=>∃ k:Nat,k≤5∧i = .int .i64 k∧PlSt At W gd gl gx a1 b j (300*j+50*k) L [] wr) (fun i _=>5-(intOf i).toNat)
    case atStart=>exact⟨0,by omega,rfl,HP.out⟩
    case round =>
     obtain⟨k,hk,rfl,hp⟩:=hrel
     have HP2:=Lib.hid hp
     clear hp HP
     by_cases hk5:k<5
     ·have s2:(k:Int)<5:=by omega
      obtain⟨hh,hhh⟩:∃ hh:Nat,hh=k*999:=⟨_,rfl⟩
      have hhb:hh<18446744073709551616:=by omega
      have g3:IntKind.u64.wrap (k:Int)=(k:Int):=IntWalk.u64_in _ ⟨by omega,by omega⟩
      have g2:IntKind.u64.wrap ((k:Int)*999)=(hh:Int):=by rw[IntWalk.u64_in _ ⟨by omega,by omega⟩];omega
      have HR1:=Lib.hid (pl_range1 api nap HP2.out (by omega) (by omega) hh hhb 0 1073741824 (by decide) (by decide))
      have HR2:=Lib.hid (fun w E (h:PlSt At W gd gl gx a1 b j (300*j+50*k+50) L E w)=>pl_range2 h (by omega) hh 0 1073741824)
      have hRl:(rangeE L hh (max 0 0) (capV 1073741824)).length≤1000:=by
       have h1:=List.length_filter_le (inQ hh (max 0 0) (capV 1073741824)) L
       have h2:L.length≤j:=by
        obtain⟨S,Q,M,D,F,-,hsm,-⟩:=HP2.out
        exact hsm.len
       unfold rangeE
       omega
      unfold EntsOut at HR2
      obtain⟨R,hR⟩:∃ R,R=rangeE L hh (max 0 0) (capV 1073741824):=⟨_,rfl⟩
      rw[← hR] at HR1 HR2 hRl
      have HSM:=Lib.hid (fun(w:World) (va vb:Value) (ha:EntsIn w va R) (hb:EntsIn w vb R)=>tsame_any va vb R R w ha hb (by omega) (by omega))
      simp only[decide_true] at HSM
      unfold SameEnd at HSM
      obtain⟨m,hm⟩:∃ m,m=R.length:=⟨_,rfl⟩
      rw[← hm] at HR1 HR2
      clear hR hm hRl hhh hhb HP2
      go_wp2_with fail
      refine HR1.out.mono ?_
      rintro e w3 ⟨A3,c3,n3,rfl,rfl,r3,hp3,-⟩
      have H3:=Lib.hid hp3
      have R3:=Lib.hid r3
      have h2:=Lib.hid (HR2.out _ _ hp3)
      clear hp3 r3 HR1 HR2
      go_wp2_with fail
      refine h2.out.mono ?_
      rintro e w4 ⟨A4,c4,rfl,r4,b4⟩
      have h4:=Lib.hid (HSM.out w4 _ _ (EntRow.in_ (EntRow.below R3.out b4 (Nat.le_refl _))) (EntRow.in_ r4))
      have H4:=Lib.hid (H3.out.below api b4)
      clear h2 r4 b4 H3 R3 HSM
      go_wp2_with fail
      refine h4.out.mono ?_
      rintro e w5 ⟨rfl,n5,rfl⟩
      have H5:Hid (PlSt At W gd gl gx a1 b j (300*j+50*(k+1)) L [] (w4.drewN n5)):=Lib.hid (((H4.out.below api (below_drewN (Below.refl _ _) n5)).up (Nat.le_refl _) (by omega)).less (fun y hy=>by cases hy))
      clear H4 h4
      go_wp2
      go_roundw
      case rel=>exact⟨k+1,by omega,by go_num,H5.out⟩
      case measure=>simp[intOf];omega
     ·obtain rfl:k=5:=by omega
      have s2:¬ ((5:Nat):Int)<5:=by omega
      have HBB:=Lib.hid HP2.out.bel
      have HE:=Lib.hid (HEX.out wr)
      clear hk5 HP2
      go_wp2_with fail
      refine HE.out.mono ?_
      rintro e w3 ⟨rfl,hb3⟩
      have HB3:=Lib.hid (bj HBB.out hb3)
      clear hb3
      go_wp2
      go_ret
      exact⟨rfl,HB3.out⟩
end IxPlayW
end
end Go.Proofs.YtcpfkaehefcakaaGreat
