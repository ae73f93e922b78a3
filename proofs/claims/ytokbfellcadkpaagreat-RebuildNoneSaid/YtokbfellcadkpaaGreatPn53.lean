/- ZnRbEx0, ZnRbEx, ZnRbLie, ZnRbOpen, ZnRbOpenNew, ZnRbIs, ZnRbWalks -/
import Derived.Test.YtokbfellcadkpaaGreatPn52
import Derived.Test.YtokbfellcadkpaaGreatPn18
import Derived.Test.YtokbfellcadkpaaGreatPn19
import Derived.Test.YtokbfellcadkpaaGreatPn28
import Derived.Deep.QuietTactic
namespace Go.Proofs.YtokbfellcadkpaaGreat
open Go.RowKit Go.Shelf
set_option linter.unusedVariables false
set_option maxRecDepth 100000
def rbR : Nat:=4591870180066957722
theorem rbR_lt : rbR<18446744073709551616:=by decide
def log00 : LogS:=⟨0,0,0,0⟩
theorem sameM_rfl (m:ManS) : sameM m m=true:=decide_eq_true ⟨rfl,rfl,rfl,rfl⟩
section
variable {At : Lies} (api : DiskApi At) (nap : NamesApi) (iap : ImApi At) (cap : ChunksApi) (rapi : RbApi At) {w0 w w' : World} {gd gl gx r seed n c u : Nat} {S S' : IxS} {L : LogS} {chs : List (List ByteArray)} {D D' : DiskS} {E E' B : List Nat}
theorem log_new (api:DiskApi At)(nap:NamesApi)(cap:ChunksApi)(h:DS At w0 gd (newS c) E w)(hc:c≤1048576) : Calls Tryz.prog 8 #[ptr gd] w fun e w'=>∃ gl,e = .returned (.tuple #[ptr gl,.int .i64 0])∧w.heap.size≤gl∧LogSt At w0 gd gl log00 (newS c) E w'∧Kept E w w':=h.openLog api nap cap (wp_new hc) (by show 0≤_;omega) rfl
theorem lg_new (h:LogSt At w0 gd gl log00 (newS c) E w)(hc:c≤1048576) : LgAt At w0 gd gl log00 [] (newS c) E w :=
 ⟨h,⟨upd_new hc,List.nodup_nil,(fun n hn=>by cases hn),(fun x hx=>by cases hx),Nat.zero_le _⟩,good_new c hc,⟨rfl,rfl,rfl,Nat.le_refl _⟩⟩
theorem mem_none {M:List EntS}(h:∀ y,y ∉ M) : M.length=0:=by rw[List.eq_nil_iff_forall_not_mem.2 h];rfl
theorem mem_one {M:List EntS}{x:EntS}(hr:RiseE M)(h:∀ y,y∈M↔y=x) : M.length=1:=by
 have h1:M.length≤1:=rise_len (b:=[x]) hr (fun y hy=>List.mem_singleton.2 ((h y).1 hy));have h2:=List.length_pos_of_mem ((h x).2 rfl);omega
def WhS (At:Lies)(w0:World)(gd gl gx seed n c u:Nat)(L:LogS)(chs:List (List ByteArray))(E:List Nat)(w:World) : Prop :=
 ∃ S D,SxAt At w0 gd gl gx rbR S L chs D E w∧RbOk seed S chs∧S.m=bareM seed∧S.T=[]∧S.mem.length=n∧fileOf D.l mapN=none∧D.cap=20000∧usedS D.l≤u∧D.count≤c
theorem WhS.below (api:DiskApi At)(h:WhS At w0 gd gl gx seed n c u L chs E w)(hb:Below w.heap.size w w') : WhS At w0 gd gl gx seed n c u L chs E w':=by
 obtain⟨S,D,h1,h2⟩:=h;exact⟨S,D,h1.below api hb,h2⟩
theorem wh_wait (h:WhS At w0 gd gl gx seed n c u L chs E w) : Calls Tryz.prog 22 #[ptr gx] w fun e w'=>e = .returned (.int .i64 (n:Nat))∧w=w':=by
 obtain⟨S,D,h1,-,-,-,rfl,-⟩:=h;exact sx_waiting h1
theorem wh_man (api:DiskApi At)(h:WhS At w0 gd gl gx seed n c u L chs E w) : Calls Tryz.prog 11 #[ptr gx] w fun e w'=>∃ A cp,e = .returned (.agg #[.int .i64 0,.int .i64 0,.int .u64 (seed:Nat),.slice A 0 cp])∧Below w.heap.size w w':=by
 obtain⟨S,D,h1,-,hm,-⟩:=h;refine(sx_manifest api h1).mono ?_;rintro e w' ⟨A,cp,rfl,-,b⟩;rw[hm];exact⟨A,cp,rfl,b⟩
theorem wh_same (seed:Nat)(A:Option Addr)(cp:Nat)(W:World) : Calls Tryz.prog 21 #[.agg #[.int .i64 0,.int .i64 0,.int .u64 (seed:Nat),.slice A 0 cp],.agg #[.int .i64 0,.int .i64 0,.int .u64 (seed:Nat),.slice none 0 0]] W fun e w'=>e = .returned (.bool true)∧Below W.heap.size W w':=by
 have:=msamel_any 0 0 seed A 0 cp [] 0 0 seed none 0 0 [] W (LvsHas.nil W A cp) (LvsHas.nil W none 0) rfl rfl (by decide) (by decide);rw[sameM_rfl] at this;exact this
theorem wh_anew (rapi:RbApi At)(h:LgAt At w0 gd gl L chs D E w)(hs:seed<18446744073709551616)(hw:∀ x∈allAt 0 chs,bgOk x.2=true)(hn:NoneX seed (endS chs) D)(hlen:∀ M,RiseE M→(∀ y,y∈M↔y∈entC seed (allAt 0 chs))→M.length=n)(hent:(entC seed (allAt 0 chs)).length≤1000)(hall:(allAt 0 chs).length≤1)(hcp:D.cap=20000)(hu:usedS D.l≤u)(hc:D.count≤c)(hc9:c≤700000) :
  Calls Tryz.prog 9 #[ptr gd,ptr gl,.int .u64 (seed:Nat),.float .f64 rbR] w fun e w'=>∃ gx,e = .returned (.tuple #[ptr gx,.bool true,.int .i64 0])∧WhS At w0 gd gl gx seed n (c+600) u L chs E w'∧Kept E w w':=by
 refine(rapi.anew seed rbR h hw hn hent (by omega) hs rbR_lt).mono ?_;rintro e w' ⟨gx,S',D',rfl,t,w1,w2,w3⟩;refine⟨gx,rfl,⟨S',D',t.sx,t.rb,w3,w2,hlen _ t.sx.ok.rise (fun y=>?_),w1,t.cap.trans hcp,Nat.le_trans t.used hu, ?_⟩,t.kept⟩
 ·rw[← t.rb.has];unfold IxHas;rw[w2];simp
 ·have:=t.count;omega
theorem wh_first (rapi:RbApi At)(h:LogSt At w0 gd gl log00 (newS 20000) E w)(hs:seed<18446744073709551616) :
  Calls Tryz.prog 9 #[ptr gd,ptr gl,.int .u64 (seed:Nat),.float .f64 rbR] w fun e w'=>∃ gx,e = .returned (.tuple #[ptr gx,.bool true,.int .i64 0])∧WhS At w0 gd gl gx seed 0 600 0 log00 [] E w'∧Kept E w w':=by
 have:=wh_anew (n:=0) (c:=0) (u:=0) rapi (lg_new h (by decide)) hs (fun x hx=>by cases hx) (Or.inl (by rw[(load_new4 20000).1];decide)) (fun M hr hM=>mem_none (fun y hy=>by have:=(hM y).1 hy;cases this)) (Nat.zero_le _) (Nat.zero_le _) rfl (Nat.zero_le _) (Nat.le_refl _) (by decide);rw[Nat.zero_add] at this;exact this
def whP : ByteArray:=batT ⟨#[115]⟩ 0 1
theorem whP_ok (seed q:Nat) : bgOk whP=true∧entP seed (q,whP)=entL seed ⟨#[115]⟩ 0 1 (q:Nat)∧whP.size≤2000:=batT_ok (by decide) (by decide) (by decide) (by decide) (by decide) seed q
theorem entC_one (seed:Nat)(x:Rec) : entC seed [x]=entP seed x:=by unfold entC;simp
theorem wh_ents (seed q:Nat) : ∃ x,entC seed [(q,whP)]=[x]:=by
 rw[entC_one,(whP_ok seed q).2.1];exact⟨_,rfl⟩
theorem wh_len (seed q:Nat)(M:List EntS)(hr:RiseE M)(hM:∀ y,y∈M↔y∈entC seed [(q,whP)]) : M.length=1:=by
 obtain⟨x,hx⟩:=wh_ents seed q;rw[hx] at hM;exact mem_one hr (fun y=>by rw[hM,List.mem_singleton])
def WhA (At:Lies)(w0:World)(gd gl q c u:Nat)(L:LogS)(chs:List (List ByteArray))(E:List Nat)(w:World) : Prop :=
 ∃ D,LgAt At w0 gd gl L chs D E w∧allAt 0 chs=[(q,whP)]∧fileOf D.l mapN=none∧D.cap=20000∧usedS D.l≤u∧D.count≤c
theorem none_data {D D':DiskS}(h:fileOf D.l mapN=none)(k:(fileOf D'.l mapN).map FileS.data=(fileOf D.l mapN).map FileS.data) : fileOf D'.l mapN=none:=by
 rw[h] at k;cases e:fileOf D'.l mapN with
 | none=>rfl
 | some f=>rw[e] at k;cases k
theorem wh_append (api:DiskApi At)(nap:NamesApi)(cap:ChunksApi)(h:WhS At w0 gd gl gx seed 0 c 0 log00 [] E w)(hu:c≤1000) :
  Calls Tryz.prog 15 #[ptr gl,.string whP] w fun e w'=>∃ q M chs',e = .returned (.tuple #[.int .i64 (q:Nat),.int .i64 0])∧WhA At w0 gd gl q c 2100 M chs' E w'∧Kept E w w':=by
 obtain⟨S,D,h1,h2,h3,h4,h5,h6,h7,h8,h9⟩:=h;have hz:=(whP_ok 0 0).2.2;refine(sx_append_room api nap cap h1 whP hz (by show 0≤_;omega) (by omega)).mono ?_;rintro e w' ⟨q,D',M,chs',rfl,hi,hk,ap⟩;have hu2:=ap.used;exact⟨q,M,chs',rfl,⟨D',hi.leave,ap.all,none_data h6 (ap.others mapN map_notC),ap.cap.trans h7,by omega,by rw[ap.count];exact h9⟩,hk⟩
theorem wh_again (rapi:RbApi At){q:Nat}(h:WhA At w0 gd gl q c 2100 L chs E w)(hs:seed<18446744073709551616)(hc9:c≤10000) :
  Calls Tryz.prog 9 #[ptr gd,ptr gl,.int .u64 (seed:Nat),.float .f64 rbR] w fun e w'=>∃ gx,e = .returned (.tuple #[ptr gx,.bool true,.int .i64 0])∧WhS At w0 gd gl gx seed 1 (c+600) 2100 L chs E w'∧Kept E w w':=by
 obtain⟨D,h1,h2,h3,h4,h5,h6⟩:=h;refine wh_anew rapi h1 hs (fun x hx=>?_) (Or.inl (load_gone h1.fl.up.down h3).1) (by rw[h2];exact wh_len seed q) ?_ (by rw[h2];exact Nat.le_refl _) h4 h5 h6 (by omega)
 ·rw[h2] at hx;rw[List.mem_singleton.1 hx];exact(whP_ok 0 0).1
 ·rw[h2];obtain⟨x,hx⟩:=wh_ents seed q;rw[hx];show 1≤1000;decide
def WhF (At:Lies)(w0:World)(gd gl gx seed q c u:Nat)(L:LogS)(chs:List (List ByteArray))(E:List Nat)(w:World) : Prop :=
 ∃ S D,SxAt At w0 gd gl gx rbR S L chs D E w∧RbOk seed S chs∧WholeX D S∧allAt 0 chs=[(q,whP)]∧S.mem=[]∧S.m.check=(endS chs:Nat)∧(∀ t∈S.T,t.l.length≤1)∧D.cap=20000∧usedS D.l≤u∧D.count≤c
theorem wh_tabs {q:Nat}(rb:RbOk seed S chs)(ok:IxOk D S)(h2:allAt 0 chs=[(q,whP)]) : ∀ t∈S.T,t.l.length≤1:=fun t ht=>by
 have h1:t.l.length≤(entC seed (allAt 0 chs)).length:=rise_len (ok.has t ht).props.1 (fun x hx=>(rb.has x).1 (Or.inr ⟨t,ht,hx⟩));rw[h2] at h1;obtain⟨x,hx⟩:=wh_ents seed q;rw[hx] at h1;exact h1
theorem wh_flush (api:DiskApi At)(nap:NamesApi)(iap:ImApi At){q:Nat}(h:WhS At w0 gd gl gx seed 1 c 2100 L chs E w)(h2:allAt 0 chs=[(q,whP)])(hc:c≤10000) :
  Calls Tryz.prog 10 #[ptr gx,ptr gl] w fun e w'=>e = .returned (.int .i64 0)∧(∃ L',WhF At w0 gd gl gx seed q (c+2) 3000 L' chs E w')∧Kept E w w':=by
 obtain⟨S,D,h1,hrb,hm,hT,hl,hmp,hcp,hu,hct⟩:=h;have hn:S.m.next=((0:Nat):Int):=by rw[hm];rfl
 refine(sx_flush api nap iap h1 (by omega) hn (by decide) rbR_lt (by omega)).mono ?_;rintro e w' ⟨k,D',S',rfl,hi,hk,tt,res⟩;have hcn:=tt.count;rcases res with⟨rfl,a2,-⟩ | ⟨rfl,a2,a3,a4,a5,a6,a7⟩ | ⟨-,-,-,-,-,a6⟩
 ·rw[a2] at hl;cases hl
 ·have hrb2:=hrb.flush h1.good tt.has a3 a4 a2 a5;exact⟨rfl,⟨_,S',D',hi,hrb2,⟨a6,fun t ht=>hi.ok.has t ht⟩,h2,a3,by rw[a4];rfl,wh_tabs hrb2 hi.ok h2,tt.cap.trans hcp,by omega,by omega⟩,hk⟩
 ·exfalso;rw[hT] at a6;rcases a6 with q | q
  ·cases q
  ·omega
theorem wh_keep (rapi:RbApi At){q:Nat}(h:WhF At w0 gd gl gx seed q c u L chs E w)(hc:c≤100000) :
  Calls Tryz.prog 9 #[ptr gd,ptr gl,.int .u64 (seed:Nat),.float .f64 rbR] w fun e w'=>∃ gy,e = .returned (.tuple #[ptr gy,.bool false,.int .i64 0])∧WhF At w0 gd gl gy seed q (c+600) u L chs E w'∧Kept E w w':=by
 obtain⟨S,D,h1,hrb,hw,h2,hm,hck0,hT,hcp,hu,hct⟩:=h;refine(rapi.keep seed rbR S h1.leave h1.ok hrb hw (fun t ht=>by have:=hT t ht;omega) ?_ (by omega) rbR_lt).mono ?_
 ·rw[h2];obtain⟨x,hx⟩:=wh_ents seed q;rw[hx];show 1≤1000;decide
 ·rintro e w' ⟨gy,S',D',rfl,t,w1,m1⟩;have hck:S'.m.check=(endS chs:Nat):=by rw[m1];exact hck0
  have hcnt:D'.count≤D.count+400+200*(allAt 0 chs).length:=t.count;rw[h2] at hcnt;have hcnt:D'.count≤D.count+400+200*1:=hcnt;refine⟨gy,rfl,⟨S',D',t.sx,t.rb,w1,h2, ?_,hck,wh_tabs t.rb t.sx.ok h2,t.cap.trans hcp,Nat.le_trans t.used hu,by omega⟩,t.kept⟩;refine List.eq_nil_iff_forall_not_mem.2 fun y hy=>?_
  obtain⟨x,x1,x2,-⟩:=t.rb.fresh y hy;have:=allAt_end t.sx.good x x1;omega
theorem SxAt.guest (h:SxAt At w0 gd gl gx r S L chs D E w) : ∃ G,LgAt At w0 gd gl L chs D (G++E) w∧∀ W,Kept G w W→Calls Tryz.prog 22 #[ptr gx] W fun e w'=>e = .returned (.int .i64 (S.mem.length:Nat))∧W=w':=by
 obtain⟨Fm,Gr,Gk,h1,h2,h3,h4,h5,h6⟩:=h.ix;refine⟨Fm++(Gr++Gk),⟨⟨h1.less (fun b hb=>?_),h.log,fun hm=>?_,h.low⟩,h.dk.fl h.ok,h.good,h.gl⟩,fun W hW=>?_⟩
 ·rcases List.mem_cons.1 hb with e | k
  ·rw[e];exact List.mem_append_right _ (List.mem_append_right _ (List.mem_append_right _ List.mem_cons_self))
  ·rcases List.mem_append.1 k with k | k
   ·rcases List.mem_append.1 k with k | k
    ·exact List.mem_append_left _ k
    ·rcases List.mem_append.1 k with k | k
     ·exact List.mem_append_right _ (List.mem_append_left _ k)
     ·exact List.mem_append_right _ (List.mem_append_right _ (List.mem_append_left _ k))
   ·exact List.mem_append_right _ (List.mem_append_right _ (List.mem_append_right _ (List.mem_cons_of_mem _ k)))
 ·rcases List.mem_append.1 hm with k | k
  ·rcases List.mem_append.1 k with k | k
   ·exact(h3 gl k).2.2 List.mem_cons_self
   ·rcases List.mem_append.1 k with k | k
    ·exact(h4 gl k).2 List.mem_cons_self
    ·exact h5 gl k List.mem_cons_self
  ·exact h.far k
 ·have hM:=h2.keep hW;obtain⟨gm,A,cp,B,c2,ps,hC⟩:=hM.cells;obtain⟨c0,-,-,-,-,-,-,-,c8⟩:=hC.cs;have hn:=Lib.hid (xnone_run c0);have hl:=Lib.hid (tlen_run hC.mem);clear hM hC h h1 h2 h3 h4 h5 h6;generalize S.mem.length=n at *;go_enter Tryz.func22,Tryz.ntmps22;go_wp2_with fail;refine hn.out.mono ?_;rintro e w' ⟨rfl,rfl⟩;go_wp2_with fail;refine hl.out.mono ?_;rintro e w' ⟨rfl,rfl⟩;go_wp2;go_ret;exact⟨rfl,rfl⟩
theorem wh_other (rapi:RbApi At){q:Nat}(h:WhF At w0 gd gl gx seed q c u L chs E w)(hc:c≤100000)(s2:Nat)(hne:seed≠s2)(hs2:s2<18446744073709551616) :
  Calls Tryz.prog 9 #[ptr gd,ptr gl,.int .u64 (s2:Nat),.float .f64 rbR] w fun e w'=>∃ gz G,e = .returned (.tuple #[ptr gz,.bool true,.int .i64 0])∧WhS At w0 gd gl gz s2 1 (c+600) u L chs (G++E) w'∧Calls Tryz.prog 22 #[ptr gx] w' fun e w2=>e = .returned (.int .i64 0)∧w'=w2:=by
 obtain⟨S,D,h1,hrb,hw,h2,hm,hck0,hT,hcp,hu,hct⟩:=h;obtain⟨G,hlg,hwt⟩:=h1.guest;have hd:=hlg.fl.up.down;obtain⟨l1,l2,-⟩:=load_whole hd h1.ok.may h1.ok.seed hw.map;have hflat:(loadM D).lv.flatten=S.m.lv.flatten:=by rw[l2];exact trim_flat S.m
 refine(wh_anew rapi hlg hs2 (fun x hx=>?_) (Or.inr ⟨l1,by rw[l2];exact mayM_trim h1.ok.may,fun x hx _=>?_,Or.inl ?_⟩) (by rw[h2];exact wh_len s2 q) ?_ (by rw[h2];exact Nat.le_refl _) hcp hu hct (by omega)).mono ?_
 ·rw[h2] at hx;rw[List.mem_singleton.1 hx];exact(whP_ok 0 0).1
 ·rw[hflat] at hx;obtain⟨t,ht,rfl⟩:=(h1.ok.nums x).1 hx;rw[(opens_yes hd (hw.has t ht)).2];have:=hT t ht;omega
 ·rw[l2];show S.m.seed≠s2;rw[hrb.sd];exact hne
 ·rw[h2];obtain⟨x,hx⟩:=wh_ents s2 q;rw[hx];show 1≤1000;decide
 ·rintro e w' ⟨gz,rfl,hz,hk⟩;have:=hwt w' (hk.less (fun b hb=>List.mem_append_left _ hb));rw[hm] at this;exact⟨gz,G,rfl,hz,this⟩
end
end Go.Proofs.YtokbfellcadkpaaGreat
namespace Go.Proofs.YtokbfellcadkpaaGreat
open Go.RowKit Go.Shelf
set_option linter.unusedVariables false
set_option maxRecDepth 100000
theorem evs_lit (w:World) : EvsIn (w.alloc (.cells #[.string ⟨#[116]⟩,.string ⟨#[]⟩,.float .f64 0] 55)) (.slice (some ⟨w.heap.size,0,none⟩) 1 1) (evsT 1):=by
 have B:=Blok.new w 55 #[.string ⟨#[116]⟩,.string ⟨#[]⟩,.float .f64 0];refine Or.inr ⟨Nat.le_refl 1,w.heap.size,0,1,rfl,Nat.le_refl 1,B.lt,fun i x hx=>?_⟩;have hi:i=0:=by have:=(List.getElem?_eq_some_iff.1 hx).1;rw[evsT_length] at this;omega
 subst hi;have he:x=evT:=evsT_mem (List.mem_of_getElem? hx);subst he;exact⟨B.cell 0,B.cell 1,B.cell 2⟩
section
variable {At : Lies} (api : DiskApi At) (nap : NamesApi) (iap : ImApi At) (cap : ChunksApi) (rapi : RbApi At)
include api nap iap cap rapi
set_option maxHeartbeats 2000000 in
theorem whole_true (w:World) : Calls Tryz.prog 6 #[] w fun e w'=>e = .returned (.bool true)∧Below w.heap.size w w':=by
 have HNEW:=Lib.hid (show Calls Tryz.prog 7 #[.int .i64 20000] w fun e w'=>∃ g,e = .returned (.tuple #[ptr g,.int .i64 0])∧DS At w g (newS 20000) [] w' from im_new api w 20000 (by decide));have HLG:=Lib.hid (fun W g (h:DS At w g (newS 20000) [] W)=>log_new api nap cap h (by decide));have HO1:=Lib.hid (fun W gd gl (h:LogSt At w gd gl log00 (newS 20000) [] W)=>(show Calls Tryz.prog 9 #[ptr gd,ptr gl,.int .u64 5,.float .f64 4591870180066957722] W fun e w'=>∃ gx,e = .returned (.tuple #[ptr gx,.bool true,.int .i64 0])∧WhS At w gd gl gx 5 0 600 0 log00 [] [] w'∧Kept [] W w' from wh_first (seed:=5) rapi h (by decide)));have HM5:=Lib.hid (fun W gd gl gx n c u L chs E (h:WhS At w gd gl gx 5 n c u L chs E W)=>(show Calls Tryz.prog 11 #[ptr gx] W fun e w'=>∃ A cp,e = .returned (.agg #[.int .i64 0,.int .i64 0,.int .u64 5,.slice A 0 cp])∧Below W.heap.size W w' from wh_man api h));have HM6:=Lib.hid (fun W gd gl gx n c u L chs E (h:WhS At w gd gl gx 6 n c u L chs E W)=>(show Calls Tryz.prog 11 #[ptr gx] W fun e w'=>∃ A cp,e = .returned (.agg #[.int .i64 0,.int .i64 0,.int .u64 6,.slice A 0 cp])∧Below W.heap.size W w' from wh_man api h));have HS5:=Lib.hid (fun A cp W=>(show Calls Tryz.prog 21 #[.agg #[.int .i64 0,.int .i64 0,.int .u64 5,.slice A 0 cp],.agg #[.int .i64 0,.int .i64 0,.int .u64 5,.slice none 0 0]] W fun e w'=>e = .returned (.bool true)∧Below W.heap.size W w' from wh_same 5 A cp W));have HS6:=Lib.hid (fun A cp W=>(show Calls Tryz.prog 21 #[.agg #[.int .i64 0,.int .i64 0,.int .u64 6,.slice A 0 cp],.agg #[.int .i64 0,.int .i64 0,.int .u64 6,.slice none 0 0]] W fun e w'=>e = .returned (.bool true)∧Below W.heap.size W w' from wh_same 6 A cp W));have HW0:=Lib.hid (fun W gd gl gx s c u L chs E (h:WhS At w gd gl gx s 0 c u L chs E W)=>(show Calls Tryz.prog 22 #[ptr gx] W fun e w'=>e = .returned (.int .i64 0)∧W=w' from wh_wait h));have HW1:=Lib.hid (fun W gd gl gx s c u L chs E (h:WhS At w gd gl gx s 1 c u L chs E W)=>(show Calls Tryz.prog 22 #[ptr gx] W fun e w'=>e = .returned (.int .i64 1)∧W=w' from wh_wait h));have HPT:=Lib.hid (fun(W:World) (v:Value) (h:EvsIn W v (evsT 1))=>(show Calls Tryz.prog 14 #[.agg #[.string ⟨#[115]⟩,.int .i64 0,v]] W fun e w'=>e = .returned (.tuple #[.string whP,.int .i64 0])∧Below W.heap.size W w' from batT_put (s:=⟨#[115]⟩) (f:=0) (n:=1) (by decide) (by decide) (by decide) (by decide) (by decide) h));have HAP:=Lib.hid (fun W gd gl gx (h:WhS At w gd gl gx 5 0 600 0 log00 [] [] W)=>wh_append api nap cap h (by decide));have HO2:=Lib.hid (fun W gd gl q L chs (h:WhA At w gd gl q 600 2100 L chs [] W)=>(show Calls Tryz.prog 9 #[ptr gd,ptr gl,.int .u64 5,.float .f64 4591870180066957722] W fun e w'=>∃ gx,e = .returned (.tuple #[ptr gx,.bool true,.int .i64 0])∧WhS At w gd gl gx 5 1 1200 2100 L chs [] w'∧Kept [] W w' from wh_again (seed:=5) rapi h (by decide) (by decide)));have HQ:=Lib.hid (fun W gd gl q c u L chs (h:WhA At w gd gl q c u L chs [] W)=>(by obtain⟨D,-,h2,-⟩:=h;exact h2:allAt 0 chs=[(q,whP)]));have HFL:=Lib.hid (fun W gd gl gx q L chs (h2:allAt 0 chs=[(q,whP)]) (h:WhS At w gd gl gx 5 1 1200 2100 L chs [] W)=>wh_flush api nap iap h h2 (by decide));have HO3:=Lib.hid (fun W gd gl gx q L chs (h:WhF At w gd gl gx 5 q 1202 3000 L chs [] W)=>(show Calls Tryz.prog 9 #[ptr gd,ptr gl,.int .u64 5,.float .f64 4591870180066957722] W fun e w'=>∃ gy,e = .returned (.tuple #[ptr gy,.bool false,.int .i64 0])∧WhF At w gd gl gy 5 q 1802 3000 L chs [] w'∧Kept [] W w' from wh_keep rapi h (by decide)));have HO4:=Lib.hid (fun W gd gl gx q L chs (h:WhF At w gd gl gx 5 q 1802 3000 L chs [] W)=>(show Calls Tryz.prog 9 #[ptr gd,ptr gl,.int .u64 6,.float .f64 4591870180066957722] W fun e w'=>∃ gz G,e = .returned (.tuple #[ptr gz,.bool true,.int .i64 0])∧WhS At w gd gl gz 6 1 2402 3000 L chs (G++[]) w'∧Calls Tryz.prog 22 #[ptr gx] w' fun e w2=>e = .returned (.int .i64 0)∧w'=w2 from wh_other rapi h (by decide) 6 (by decide) (by decide)));have HBEL:=Lib.hid (fun W W' gd gl gx s n c u L chs E (h:WhS At w gd gl gx s n c u L chs E W) (hb:Below W.heap.size W W')=>WhS.below api h hb);have HEND:=Lib.hid (fun W gd gl gx s n c u L chs E (h:WhS At w gd gl gx s n c u L chs E W)=>(by obtain⟨S,D,h1,-⟩:=h;exact h1.base:Below w.heap.size w W));have HEV:=Lib.hid evs_lit;generalize whP=p at *;go_enter Tryz.func6,Tryz.ntmps6;go_wp2_with fail;refine HNEW.out.mono ?_;rintro e w1 ⟨gd,rfl,hD⟩;have H1:=Lib.hid (HLG.out w1 gd hD);clear hD HLG HNEW;go_wp2_with fail;refine H1.out.mono ?_;rintro e w2 ⟨gl,rfl,-,hl,-⟩;have H2:=Lib.hid (HO1.out w2 gd gl hl);clear hl HO1 H1;go_wp2_with fail;refine H2.out.mono ?_;rintro e w3 ⟨gx,rfl,hx,-⟩;have HX:=Lib.hid hx;have HM3:=Lib.hid (HM5.out _ _ _ _ _ _ _ _ _ _ hx);clear hx H2;go_wp2_with fail;refine HM3.out.mono ?_;rintro e w4 ⟨A4,c4,rfl,b4⟩;have HX4:=Lib.hid (HBEL.out _ _ _ _ _ _ _ _ _ _ _ _ HX.out b4);clear b4 HM3 HX;go_wp2_with fail;refine(HS5.out A4 c4 w4).mono ?_;rintro e w5 ⟨rfl,b5⟩;have HX5:=Lib.hid (HBEL.out _ _ _ _ _ _ _ _ _ _ _ _ HX4.out b5);have HWT:=Lib.hid (HW0.out _ _ _ _ _ _ _ _ _ _ HX5.out);clear b5 HX4;go_wp2_with fail;refine HWT.out.mono ?_;rintro e w' ⟨rfl,rfl⟩;clear HWT;have hb6:=(Below.refl w5.heap.size w5).alloc (Nat.le_refl _) (.cells #[.string ⟨#[116]⟩,.string ⟨#[]⟩,.float .f64 0] 55);have HX6:=HBEL.out _ _ _ _ _ _ _ _ _ _ _ _ HX5.out hb6;have HP6:=HPT.out _ _ (HEV.out w5);obtain⟨w6,hw6⟩:∃ w6,w5.alloc (.cells #[.string ⟨#[116]⟩,.string ⟨#[]⟩,.float .f64 0] 55)=w6:=⟨_,rfl⟩
 rw[hw6] at HX6 HP6;have HX6:=Lib.hid HX6;have HP6:=Lib.hid HP6;clear hb6 HX5;go_wp2_with fail;refine HP6.out.mono ?_;rintro e w7 ⟨rfl,b7⟩;have HA7:=Lib.hid (HAP.out _ _ _ _ (HBEL.out _ _ _ _ _ _ _ _ _ _ _ _ HX6.out b7));clear b7 HP6 HX6;go_wp2_with fail;refine HA7.out.mono ?_;rintro e w8 ⟨q,M,chs',rfl,h8,-⟩;have HQ8:=Lib.hid (HQ.out _ _ _ _ _ _ _ _ h8);have HO8:=Lib.hid (HO2.out _ _ _ _ _ _ h8);clear h8 HA7;go_wp2_with fail;refine HO8.out.mono ?_;rintro e w9 ⟨gx2,rfl,h9,-⟩;have HWT:=Lib.hid (HW1.out _ _ _ _ _ _ _ _ _ _ h9);have HF9:=Lib.hid (HFL.out _ _ _ _ q _ _ HQ8.out h9);clear h9 HO8;go_wp2_with fail;refine HWT.out.mono ?_;rintro e w' ⟨rfl,rfl⟩;clear HWT;go_wp2_with fail;refine HF9.out.mono ?_;rintro e w10 ⟨rfl,⟨L',h10⟩,-⟩;have HO10:=Lib.hid (HO3.out _ _ _ _ _ _ _ h10);clear h10 HF9;go_wp2_with fail;refine HO10.out.mono ?_;rintro e w11 ⟨gy,rfl,h11,-⟩;have HO11:=Lib.hid (HO4.out _ _ _ _ _ _ _ h11);clear h11 HO10;go_wp2_with fail;refine HO11.out.mono ?_;rintro e w12 ⟨gz,G,rfl,h12,hwy⟩;have HWY:=Lib.hid hwy;have HWZ:=Lib.hid (HW1.out _ _ _ _ _ _ _ _ _ _ h12);have HMZ:=Lib.hid (HM6.out _ _ _ _ _ _ _ _ _ _ h12);have HBE:=Lib.hid (HEND.out _ _ _ _ _ _ _ _ _ _ _ h12);clear h12 hwy HO11;go_wp2_with fail;refine HWY.out.mono ?_;rintro e w' ⟨rfl,rfl⟩;go_wp2_with fail;refine HWZ.out.mono ?_;rintro e w' ⟨rfl,rfl⟩;go_wp2_with fail;refine HMZ.out.mono ?_;rintro e w13 ⟨A13,c13,rfl,b13⟩;have HB13:=Lib.hid (bj HBE.out b13);clear b13;go_wp2_with fail;refine(HS6.out A13 c13 w13).mono ?_;rintro e w14 ⟨rfl,b14⟩;have HB14:=Lib.hid (bj HB13.out b14);clear b14;go_wp2;go_ret;exact⟨rfl,HB14.out⟩
end
end Go.Proofs.YtokbfellcadkpaaGreat
namespace Go.Proofs.YtokbfellcadkpaaGreat
open Go.RowKit Go.Shelf
set_option linter.unusedVariables false
set_option maxRecDepth 100000
section
variable {At : Lies} (api : DiskApi At) {w0 w w' : World} {gd gl gx r : Nat} {S S' : IxS} {L : LogS} {chs : List (List ByteArray)} {D D' : DiskS} {E E' B : List Nat}
theorem PxAt.turn (api:DiskApi At)(h:PxAt At w0 gd gl gx r S L chs D E w)(ht:Touch B w w')(hB:∀ b∈B,b∈E∧w0.heap.size≤b)(hE:∀ b∈E',b∈E∨(w.heap.size≤b∧b<w'.heap.size)) : PxAt At w0 gd gl gx r S L chs D E' w':=by
 have hlt:=h.ix.lt gl List.mem_cons_self;have hn:gl ∉ B:=fun hm=>h.far (hB gl hm).1
 refine⟨h.ix.turn api ht (fun b hb=>⟨List.mem_cons_of_mem _ (hB b hb).1,(hB b hb).2⟩) (fun b hb=>?_),h.log.touch ht hn,fun hm=>?_,h.low,h.ok,h.fl,h.good,h.gl⟩
 ·rcases List.mem_cons.1 hb with e | k
  ·rw[e];exact Or.inl List.mem_cons_self
  ·exact(hE b k).imp (List.mem_cons_of_mem _) id
 ·rcases hE gl hm with k | k
  ·exact h.far k
  ·omega
theorem PxAt.more (api:DiskApi At)(h:PxAt At w0 gd gl gx r S L chs D E w)(hb:Below w.heap.size w w')(hE:∀ b∈B,w.heap.size≤b∧b<w'.heap.size) : PxAt At w0 gd gl gx r S L chs D (B++E) w' :=
 h.turn api (B:=[]) (Touch.of_below hb) (fun b hb=>by cases hb) (fun b hb=>(List.mem_append.1 hb).elim (fun k=>Or.inr (hE b k)) Or.inl)
theorem lg_end (h:LgAt At w0 gd gl L chs D E w) : Calls Tryz.prog 38 #[ptr gl] w fun e w'=>e = .returned (.int .i64 (endS chs:Nat))∧w=w':=by
 have:=tend_run (v:=((endS chs:Nat):Int)) (h.st.2.1.cell 0) (by rw[← h.gl.endp];exact h.st.2.1.cell 4);exact this
theorem LogSt.below (api:DiskApi At)(h:LogSt At w0 gd gl L D E w)(hb:Below w.heap.size w w') : LogSt At w0 gd gl L D E w':=⟨h.1.below api hb,h.2.1.below hb,h.2.2.1,h.2.2.2⟩
theorem LogSt.lt (h:LogSt At w0 gd gl L D E w) : ∀ b∈gl::E,b<w.heap.size:=h.1.lt
theorem log_first_read (api:DiskApi At)(nap:NamesApi)(h:LogSt At w0 gd gl L D E w)(ok:WfP D)(hct:D.count≤1000000000)(hc:L.chunks≤200) :
  Calls Tryz.prog 28 #[ptr gl,.int .i64 (-1)] w fun e w'=>∃ k:Nat,k≠1∧e = .returned (.tuple #[.string ByteArray.empty,.int .i64 (k:Nat)])∧LogSt At w0 gd gl L D E w'∧Kept E w w':=by
 have hr:∃ k:Nat,k≠1∧readT D L (-1)=(ByteArray.empty,k,D):=by
  unfold readT;by_cases q:readyT D L≠0
  ·rw[if_pos q];refine⟨readyT D L, ?_,rfl⟩;unfold readyT;split
   ·decide
   ·split<;>decide
  ·rw[if_neg q,if_pos (Or.inl (by decide))];exact⟨4,by decide,rfl⟩
 obtain⟨k,hk,hr⟩:=hr;refine(h.call api (v:=.tuple #[.string ByteArray.empty,.int .i64 (k:Nat)]) (D':=D) (L':=L) (fun c hm hT=>?_)).mono ?_
 ·have:=tread_run api nap hm hT ok hct (-1) (by decide) hc;rw[hr] at this;exact this
 ·rintro e w' ⟨rfl,h',k'⟩;exact⟨k,hk,rfl,h',k'⟩
theorem lie_nil (iap:ImApi At)(v:Value)(seed r:Nat)(w:World) : Calls Tryz.prog 29 #[.pointer none,v,.int .u64 (seed:Nat),.float .f64 r] w fun e w'=>e = .returned (.tuple #[.pointer none,.bool false])∧Below w.heap.size w w':=by
 have HL:=iap.loadn w;unfold manV at HL;have HL:=Lib.hid HL;go_enter Tryz.func29,Tryz.ntmps29;go_wp2_with fail;refine HL.out.mono ?_;rintro e w1 ⟨⟨x0,x1,x2,A,n,c,rfl⟩,b1⟩;have hb2:=b1.alloc b1.size (.cells #[.int .i64 x0,.int .i64 x1,.int .u64 (x2:Nat),.slice A n c] 40);obtain⟨w2,hw2⟩:∃ w2,w1.alloc (.cells #[.int .i64 x0,.int .i64 x1,.int .u64 (x2:Nat),.slice A n c] 40)=w2:=⟨_,rfl⟩
 rw[hw2] at hb2;have HB:=Lib.hid hb2;clear hb2 b1 HL;go_wp2;go_quiet (fail);go_wp2;go_ret2;exact⟨rfl,below_drewN HB.out _⟩
theorem lie_no (api:DiskApi At)(iap:ImApi At)(h:LogSt At w0 gd gl L D E w)(ok:WfP D)(hct:D.count≤900000000)(hle:loadE D≠0)(seed r:Nat) :
  Calls Tryz.prog 29 #[ptr gd,ptr gl,.int .u64 (seed:Nat),.float .f64 r] w fun e w'=>e = .returned (.tuple #[.pointer none,.bool false])∧LogSt At w0 gd gl L (loadD D) E w'∧Kept E w w':=by
 have HL:Hid (Calls Tryz.prog 86 #[ptr gd] w fun e w'=>∃ (x0 x1:Int) (x2:Nat) (A:Option Addr) (n c:Nat),e = .returned (.tuple #[.agg #[.int .i64 x0,.int .i64 x1,.int .u64 (x2:Nat),.slice A n c],.int .i64 (loadE D)])∧LogSt At w0 gd gl L (loadD D) E w'∧Kept E w w'):=Lib.hid ((iap.load h.1 ok (by omega)).mono fun e w' hl=>by
  obtain⟨x0,x1,x2,A,n,c,R,rfl,-,-,-,-,-,-,h7,h8⟩:=hl;exact⟨x0,x1,x2,A,n,c,rfl,⟨h7,h8.blok h.2.1 List.mem_cons_self,h.2.2.1,h.2.2.2⟩,h8.less (fun b hb=>List.mem_cons_of_mem _ hb)⟩)
 clear h;generalize loadE D=le at *;go_enter Tryz.func29,Tryz.ntmps29;go_wp2_with fail;refine HL.out.mono ?_;rintro e w1 ⟨x0,x1,x2,A,n,c,rfl,h1,k1⟩;have hb2:=(Below.refl w1.heap.size w1).alloc (Nat.le_refl _) (.cells #[.int .i64 x0,.int .i64 x1,.int .u64 (x2:Nat),.slice A n c] 40);have h2:=h1.below api hb2;have k2:=k1.trans (Kept.of_below hb2 (fun x hx=>h1.lt x (List.mem_cons_of_mem _ hx)));obtain⟨w2,hw2⟩:∃ w2,w1.alloc (.cells #[.int .i64 x0,.int .i64 x1,.int .u64 (x2:Nat),.slice A n c] 40)=w2:=⟨_,rfl⟩
 rw[hw2] at h2 k2;have H2:=Lib.hid (And.intro h2 k2);have q0:¬ (le:Int)=0:=by omega
 have q1:((le:Int)==0)=false:=beq_eq_false_iff_ne.2 q0;have q2:((le:Int) != 0)=true:=by rw[bne,q1];rfl
 clear h2 k2 hb2 h1 k1 HL hle;go_wp2;go_quiet (fail);go_wp2;go_ret2;exact⟨rfl,H2.out.1.below api (below_drewN (Below.refl _ _) _),H2.out.2.trans (Kept.of_below (below_drewN (Below.refl _ _) _) (fun x hx=>H2.out.1.lt x (List.mem_cons_of_mem _ hx)))⟩
def LieEnd (At:Lies)(w0:World)(gd gl r seed:Nat)(L:LogS)(chs:List (List ByteArray))(D:DiskS)(E:List Nat)(w:World)(e:Ending)(w':World) : Prop :=
 (∃ gx T j,e = .returned (.tuple #[ptr gx,.bool true])∧loadE D=0∧(loadM D).seed=seed∧(loadM D).check≤(endS chs:Nat)∧T.map (fun t=>(t.n:Int))=(loadM D).lv.flatten∧(∀ t∈T,HasT D t.n t.l)∧j≤81∧PxAt At w0 gd gl gx r ⟨loadM D,T,[]⟩ L chs { D with count:=D.count+j } E w'∧Kept E w w') ∨
 (∃ j,e = .returned (.tuple #[.pointer none,.bool false])∧(loadE D≠0∨(loadM D).seed≠seed∨((endS chs:Nat):Int)<(loadM D).check∨∃ x∈(loadM D).lv.flatten,openE D x≠0)∧j≤81∧LgAt At w0 gd gl L chs { D with count:=D.count+j } E w'∧Kept E w w')
set_option maxHeartbeats 1000000 in
theorem lie_any (api:DiskApi At)(nap:NamesApi)(iap:ImApi At)(h:LgAt At w0 gd gl L chs D E w)(hct:D.count≤810000000)(hmay:loadE D=0→MayM (loadM D)∧∀ x∈(loadM D).lv.flatten,openE D x=0→(tgL (rdW D (ptT x)).1).length≤10000)(seed r:Nat) :
  Calls Tryz.prog 29 #[ptr gd,ptr gl,.int .u64 (seed:Nat),.float .f64 r] w (LieEnd At w0 gd gl r seed L chs D E w):=by
 have hd:=h.fl.up.down;have HL:=lg_load iap h (by omega);unfold manV at HL;have HL:=Lib.hid HL;have HMAY:=Lib.hid hmay;have HOPE:=Lib.hid (fun(j:Nat) (x:Int)=>And.intro (openE_data hd (SameF.count D (D.count+j)) x) (rdW_data hd (SameF.count D (D.count+j)) (ptT x)).1);have HYES:=Lib.hid (fun gx T j e w' (q:e = .returned (.tuple #[ptr gx,.bool true])∧loadE D=0∧(loadM D).seed=seed∧(loadM D).check≤(endS chs:Nat)∧T.map (fun t:TbS=>(t.n:Int))=(loadM D).lv.flatten∧(∀ t∈T,HasT D t.n t.l)∧j≤81∧PxAt At w0 gd gl gx r ⟨loadM D,T,[]⟩ L chs { D with count:=D.count+j } E w'∧Kept E w w')=>(show LieEnd At w0 gd gl r seed L chs D E w e w' from Or.inl ⟨gx,T,j,q⟩));have HNO:=Lib.hid (fun j e w' (q:e = .returned (.tuple #[.pointer none,.bool false])∧(loadE D≠0∨(loadM D).seed≠seed∨((endS chs:Nat):Int)<(loadM D).check∨∃ x∈(loadM D).lv.flatten,openE D x≠0)∧j≤81∧LgAt At w0 gd gl L chs { D with count:=D.count+j } E w'∧Kept E w w')=>(show LieEnd At w0 gd gl r seed L chs D E w e w' from Or.inr ⟨j,q⟩));have HEN:=Lib.hid (fun(j:Nat) W (q:LgAt At w0 gd gl L chs { D with count:=D.count+j } E W)=>lg_end q);clear h hmay hd;generalize loadE D=le at *;generalize loadM D=lm at *;obtain⟨x0,x1,x2,R⟩:=lm;simp only at HMAY HYES HNO;have henb:∃ en,en=endS chs:=⟨_,rfl⟩
 obtain⟨en,hen⟩:=henb;rw[← hen] at HYES HNO HEN;clear hen;go_enter Tryz.func29,Tryz.ntmps29;go_wp2_with fail;refine HL.out.mono ?_;rintro e w1 ⟨y0,y1,y2,A,n,c,R',j,rfl,hM,hn,hv,h300,hfl,hx2,hj,h1,k1⟩;obtain⟨rfl,rfl,rfl,rfl⟩:=ManS.mk.inj hM;subst hn;have hb2:=(Below.refl w1.heap.size w1).alloc (Nat.le_refl _) (.cells #[.int .i64 x0,.int .i64 x1,.int .u64 (x2:Nat),.slice A R.length c] 40);have hB2:=Blok.new w1 40 #[.int .i64 x0,.int .i64 x1,.int .u64 (x2:Nat),.slice A R.length c];have h2:=h1.below api hb2;have k2:=k1.trans (Kept.of_below hb2 (fun x hx=>h1.lt x (List.mem_cons_of_mem _ hx)));have hv2:=hv.below hb2 (Nat.le_refl _);obtain⟨w2,hw2⟩:∃ w2,w1.alloc (.cells #[.int .i64 x0,.int .i64 x1,.int .u64 (x2:Nat),.slice A R.length c] 40)=w2:=⟨_,rfl⟩
 rw[hw2] at h2 k2 hB2 hv2;have z0:=hB2.cell 0;have z1:=hB2.cell 1;have z2:=hB2.cell 2;have z3:=hB2.cell 3;have H2:=Lib.hid (And.intro h2 (And.intro k2 (And.intro hv2 hB2)));have HE2:=Lib.hid (fun k=>(HEN.out j (w2.drewN k) (h2.below api (below_drewN (Below.refl _ _) k))).mono fun _ _ q=>And.intro q.1 q.2.symm);clear h2 k2 hb2 h1 k1 HL hv hv2 hB2 HEN hM;have HEND:Hid (∀ (nq:Nat),LgAt At w0 gd gl L chs { D with count:=D.count+j } E (w2.drewN nq)∧Kept E w (w2.drewN nq)):=Lib.hid fun nq=>⟨H2.out.1.below api (below_drewN (Below.refl _ _) nq),H2.out.2.1.trans (Kept.of_below (below_drewN (Below.refl _ _) nq) (fun x hx=>H2.out.1.lt x (List.mem_cons_of_mem _ hx)))⟩
 by_cases c1:le=0
 case neg =>
  have q0:¬ (le:Int)=0:=by omega
  have q1:((le:Int)==0)=false:=beq_eq_false_iff_ne.2 q0;have q2:((le:Int) != 0)=true:=by rw[bne,q1];rfl
  go_wp2;go_quiet (fail);go_wp2;go_ret2;exact HNO.out j _ _ ⟨rfl,Or.inl c1,by omega,(HEND.out _).1,(HEND.out _).2⟩
 subst c1;by_cases c2:x2=seed
 case neg =>
  have q0:¬ (x2:Int)=(seed:Int):=by omega
  have q1:((x2:Int)==(seed:Int))=false:=beq_eq_false_iff_ne.2 q0;have q2:((x2:Int) != (seed:Int))=true:=by rw[bne,q1];rfl
  go_wp2;go_quiet (fail);go_wp2;go_ret2;exact HNO.out j _ _ ⟨rfl,Or.inr (Or.inl c2),by omega,(HEND.out _).1,(HEND.out _).2⟩
 subst c2;by_cases c3:(en:Int)<x1
 case pos =>
  have q0:decide ((en:Int)<x1)=true:=decide_eq_true c3;go_wp2;go_quiet ((go_at_call 38;exact Calls.quiet_of_same (HE2.out _)));go_wp2;go_ret2;exact HNO.out j _ _ ⟨rfl,Or.inr (Or.inr (Or.inl c3)),by omega,(HEND.out _).1,(HEND.out _).2⟩
 have q0:decide ((en:Int)<x1)=false:=decide_eq_false c3;obtain⟨m1,m2⟩:=HMAY.out rfl;have HOPN:=Lib.hid (fun(W:World) (hW:LgAt At w0 gd gl L chs { D with count:=D.count+j } E W) (hV:LvsHas W (.slice A R.length c) R)=>lg_open api nap hW (by show D.count+j≤_;omega) m1 hx2 hV (fun x hx h0=>by rw[(HOPE.out j x).2];exact m2 x hx (by rw[← (HOPE.out j x).1];exact h0)) r);unfold manV at HOPN;clear m1 m2 HMAY;go_wp2;go_quiet ((go_at_call 38;exact Calls.quiet_of_same (HE2.out _)));rename_i nq _;have z0':(w2.drewN nq).cell? ⟨w1.heap.size,0,none⟩=some (.int .i64 x0):=z0;have z1':(w2.drewN nq).cell? ⟨w1.heap.size,1,none⟩=some (.int .i64 x1):=z1;have z2':(w2.drewN nq).cell? ⟨w1.heap.size,2,none⟩=some (.int .u64 (x2:Nat)):=z2;have z3':(w2.drewN nq).cell? ⟨w1.heap.size,3,none⟩=some (.slice A R.length c):=z3;have HO:=Lib.hid (HOPN.out _ (HEND.out nq).1 (H2.out.2.2.1.below (below_drewN (Below.refl _ _) nq) (Nat.le_refl _)));have HKQ:=Lib.hid (HEND.out nq).2;clear z0 z1 z2 z3 HEND HOPN H2 HE2;generalize w2.drewN nq=wq at *;go_wp2_with fail;refine HO.out.mono ?_;rintro e w4 (⟨gx,T,j2,rfl,hT,hH,hj2,h4,k4⟩ | ⟨x,j2,hx,hne,hj2,rfl,h4,k4⟩)
 ·have HF:=Lib.hid (And.intro hT (And.intro hH (And.intro h4 k4)));clear hT hH h4 k4 HO;go_wp2;go_ret2;obtain⟨f1,f2,f3,f4⟩:=HF.out;refine HYES.out gx T (j+j2) _ _ ⟨rfl,trivial,trivial,by omega,f1,f2,by omega, ?_,HKQ.out.trans f4⟩;rw[show D.count+(j+j2)=D.count+j+j2 by omega];exact f3
 ·have hne2:=hne;rw[(HOPE.out j x).1] at hne2;have HF:=Lib.hid (And.intro hx (And.intro hne2 (And.intro h4 k4)));obtain⟨oe,hoe⟩:∃ oe,oe=openE { D with count:=D.count+j } x:=⟨_,rfl⟩
  rw[← hoe] at hne ⊢;have q5:¬ (oe:Int)=0:=by omega
  have q6:((oe:Int)==0)=false:=beq_eq_false_iff_ne.2 q5;clear hx hne hne2 h4 k4 HO hoe;go_wp2;go_ret2;obtain⟨f1,f2,f3,f4⟩:=HF.out;refine HNO.out (j+j2) _ _ ⟨rfl,Or.inr (Or.inr (Or.inr ⟨x,f1,f2⟩)),by omega, ?_,HKQ.out.trans f4⟩;rw[show D.count+(j+j2)=D.count+j+j2 by omega];exact f3
theorem empty_nil (seed r:Nat)(w:World) : Calls Tryz.prog 30 #[.pointer none,.int .u64 (seed:Nat),.float .f64 r] w fun e w'=>e = .returned (.tuple #[.pointer none,.int .i64 1])∧w=w':=by
 have HD:=delete_nil (none_nil w) ⟨#[109,97,112]⟩;unfold Says at HD;have HD:=Lib.hid HD;go_enter Tryz.func30,Tryz.ntmps30;go_wp2_with fail;refine HD.out.mono ?_;rintro e w' ⟨rfl,rfl⟩;go_wp2;go_ret2;exact⟨rfl,rfl⟩
theorem empty_down (api:DiskApi At)(h:DS At w0 gd D E w)(ok:WfP D)(hd:D.down=true)(seed r:Nat) : Calls Tryz.prog 30 #[ptr gd,.int .u64 (seed:Nat),.float .f64 r] w fun e w'=>e = .returned (.tuple #[.pointer none,.int .i64 61])∧DS At w0 gd D E w'∧Kept E w w':=by
 have hdel:deleteS D mapN=(61,D):=by unfold deleteS;rw[if_pos hd]
 have HD:=h.disk api (fun F hF=>api.delete mapN hF ok.ok (by decide));rw[hdel] at HD;have HD:Hid (Calls Tryz.prog 54 #[ptr gd,.string ⟨#[109,97,112]⟩] w fun e w'=>e = .returned (.int .i64 61)∧DS At w0 gd D E w'∧Kept E w w'):=Lib.hid (HD.mono fun e w' q=>q);go_enter Tryz.func30,Tryz.ntmps30;go_wp2_with fail;refine HD.out.mono ?_;rintro e w1 ⟨rfl,h1,k1⟩;have HF:=Lib.hid (And.intro h1 k1);clear h1 k1 HD;go_wp2;go_ret2;exact⟨rfl,HF.out.1,HF.out.2⟩
theorem empty_ok (api:DiskApi At)(nap:NamesApi)(h:LgAt At w0 gd gl L chs D E w)(hct:D.count≤850000000)(seed r:Nat)(hs:seed<18446744073709551616) :
  Calls Tryz.prog 30 #[ptr gd,.int .u64 (seed:Nat),.float .f64 r] w fun e w'=>∃ gx D',e = .returned (.tuple #[ptr gx,.int .i64 0])∧PxAt At w0 gd gl gx r ⟨bareM seed,[],[]⟩ L chs D' E w'∧Kept E w w'∧D'.starts=D.starts∧D'.cap=D.cap∧D'.count≤D.count+80∧usedS D'.l≤usedS D.l∧fileOf D'.l mapN=none:=by
 have HD:Hid (Calls Tryz.prog 54 #[ptr gd,.string ⟨#[109,97,112]⟩] w _):=Lib.hid (lg_delete api h mapN map_notC (by decide))
 have HOPN:=Lib.hid (fun(D':DiskS) (W:World) (hc':D'.count=D.count) (hW:LgAt At w0 gd gl L chs D' E W)=>(show Calls Tryz.prog 87 #[ptr gd,.agg #[.int .i64 0,.int .i64 0,.int .u64 (seed:Nat),.slice none 0 0],.float .f64 r] W _ from
  lg_open api nap (n:=0) (c:=0) (d:=seed) (A:=none) (cp:=0) (R:=[]) hW (by omega) (bare_may seed) hs (LvsHas.nil W none 0) (fun x hx=>by cases hx) r))
 clear h;go_enter Tryz.func30,Tryz.ntmps30;go_wp2_with fail;refine HD.out.mono ?_;rintro e w1 ⟨f,D1,rfl,hg,h1,k1,st,hu,hnm,-⟩;have hgone:fileOf D1.l mapN=none:=not_named fun q=>((hnm mapN).1 q).2 rfl
 have HO:=Lib.hid (HOPN.out D1 w1 st.count h1);have HF1:=Lib.hid (And.intro k1 (And.intro st (And.intro hu hgone)))
 have hf:f=0∨f=4:=by
  unfold goneP at hg;simpa using hg
 clear h1 k1 st hu hnm hgone hg HD HOPN;rcases hf with rfl | rfl
 all_goals
  go_wp2_with fail;refine HO.out.mono ?_;rintro e w2 (⟨gx,T,j,rfl,hT,-,hj,h2,k2⟩ | ⟨x,j,hx,-⟩);rotate_left
  ·cases hx
  obtain rfl:T=[]:=List.map_eq_nil_iff.1 hT;have HF2:=Lib.hid (And.intro h2 k2);clear h2 k2 hT HO;go_wp2;go_ret2;obtain⟨f1,f2,f3,f4⟩:=HF1.out;exact⟨gx,_,rfl,HF2.out.1,f1.trans HF2.out.2,f2.starts,f2.cap,by show D1.count+j≤_;have:=f2.count;omega,f3,f4⟩
end
end Go.Proofs.YtokbfellcadkpaaGreat
namespace Go.Proofs.YtokbfellcadkpaaGreat
open Go.RowKit Go.Shelf
set_option linter.unusedVariables false
set_option maxRecDepth 100000
section
variable {At : Lies} (api : DiskApi At) {w0 w w' : World} {gd gl gx r seed : Nat} {S S' : IxS} {L : LogS} {chs : List (List ByteArray)} {D D' : DiskS} {E E' B : List Nat}
theorem rbopen_nill (v:Value)(seed r:Nat)(w:World) : Calls Tryz.prog 9 #[v,.pointer none,.int .u64 (seed:Nat),.float .f64 r] w fun e w'=>(∃ b,e = .returned (.tuple #[.pointer none,.bool b,.int .i64 1]))∧Below w.heap.size w w':=by
 have HR:=tflread_nil (lnone_nil w) (-1);unfold Says at HR;have HR:=Lib.hid HR;go_enter Tryz.func9,Tryz.ntmps9;go_wp2_with fail;refine HR.out.mono ?_;rintro e w' ⟨rfl,rfl⟩;have HB:=Lib.hid (Below.refl w.heap.size w);go_wp2;go_ret3;exact⟨⟨_,rfl⟩,HB.out⟩
theorem rbopen_nild (api:DiskApi At)(nap:NamesApi)(iap:ImApi At)(h:LogSt At w0 gd gl L D E w)(ok:WfP D)(hct:D.count≤900000000)(hc:L.chunks≤200)(seed r:Nat) :
  Calls Tryz.prog 9 #[.pointer none,ptr gl,.int .u64 (seed:Nat),.float .f64 r] w fun e w'=>(∃ b,e = .returned (.tuple #[.pointer none,.bool b,.int .i64 1]))∧LogSt At w0 gd gl L D E w'∧Kept E w w':=by
 have HR:=Lib.hid (log_first_read api nap h ok (by omega) hc);have HLI:=Lib.hid (fun W=>lie_nil iap (ptr gl) seed r W);have HEM:=Lib.hid (fun W=>empty_nil seed r W);go_enter Tryz.func9,Tryz.ntmps9;go_wp2_with fail;refine HR.out.mono ?_;rintro e w1 ⟨k,hk,rfl,h1,k1⟩;have q1:¬ (k:Int)=1:=by omega
 have q2:((k:Int)==1)=false:=beq_eq_false_iff_ne.2 q1;have H1:=Lib.hid (And.intro h1 k1);clear h1 k1 HR hk h;go_wp2_with fail;refine(HLI.out w1).mono ?_;rintro e w2 ⟨rfl,b2⟩;have HF:=Lib.hid (And.intro (H1.out.1.below api b2) (H1.out.2.trans (Kept.of_below b2 (fun x hx=>H1.out.1.lt x (List.mem_cons_of_mem _ hx)))));clear b2 HLI q1 q2;go_wp2_with fail;refine(HEM.out w2).mono ?_;rintro e w' ⟨rfl,rfl⟩;go_wp2;go_ret3;exact⟨⟨_,rfl⟩,HF.out.1,HF.out.2⟩
theorem rbopen_down (api:DiskApi At)(nap:NamesApi)(iap:ImApi At)(h:LogSt At w0 gd gl L D E w)(ok:WfP D)(hd:D.down=true)(hct:D.count≤900000000)(hc:L.chunks≤200)(seed r:Nat) :
  Calls Tryz.prog 9 #[ptr gd,ptr gl,.int .u64 (seed:Nat),.float .f64 r] w fun e w'=>(∃ b,e = .returned (.tuple #[.pointer none,.bool b,.int .i64 61]))∧∃ D',LogSt At w0 gd gl L D' E w'∧Kept E w w':=by
 have hsz:sizeS D mapN=(0,61):=by unfold sizeS;rw[if_pos hd]
 have hrd:rdW D mapN=(ByteArray.empty,61,D):=by
  unfold rdW;rw[hsz];rfl
 have hle:loadE D≠0:=by
  unfold loadE;rw[hrd];simp
 have hld:loadD D=D:=by unfold loadD;rw[hrd]
 have HR:=Lib.hid (log_first_read api nap h ok (by omega) hc);have HLI:=Lib.hid (fun W (hW:LogSt At w0 gd gl L D E W)=>lie_no api iap hW ok hct hle seed r);rw[hld] at HLI;have HEM:=Lib.hid (fun W (hW:LogSt At w0 gd gl L D E W)=>empty_down api hW.1 ok hd seed r);clear hsz hrd hle hld;go_enter Tryz.func9,Tryz.ntmps9;go_wp2_with fail;refine HR.out.mono ?_;rintro e w1 ⟨k,hk,rfl,h1,k1⟩;have q1:¬ (k:Int)=1:=by omega
 have q2:((k:Int)==1)=false:=beq_eq_false_iff_ne.2 q1;have HL1:=Lib.hid (HLI.out w1 h1);have HK1:=Lib.hid k1;clear h1 k1 HR hk h HLI;go_wp2_with fail;refine HL1.out.mono ?_;rintro e w2 ⟨rfl,h2,k2⟩;have HE2:=Lib.hid (HEM.out w2 h2);have H2:=Lib.hid (And.intro h2 (HK1.out.trans k2));clear h2 k2 HL1 HEM q1 q2;go_wp2_with fail;refine HE2.out.mono ?_;rintro e w3 ⟨rfl,h3,k3⟩;have HF:=Lib.hid (And.intro (⟨h3,k3.blok H2.out.1.2.1 List.mem_cons_self,H2.out.1.2.2.1,H2.out.1.2.2.2⟩:LogSt At w0 gd gl L D E w3) (H2.out.2.trans (k3.less (fun x hx=>List.mem_cons_of_mem _ hx))));clear h3 k3 HE2;go_wp2;go_ret3;exact⟨⟨_,rfl⟩,D,HF.out.1,HF.out.2⟩
structure PxEnd (At:Lies)(w0:World)(gd gl gx r seed:Nat)(S:IxS)(L:LogS)(chs:List (List ByteArray))(D:DiskS)(E:List Nat)(w:World)(S':IxS)(D':DiskS)(w':World) : Prop where
 sx:SxAt At w0 gd gl gx r S' L chs D' E w'
 kept:Kept E w w'
 m:S'.m=S.m
 T:S'.T=S.T
 mem:∀ y,y∈S'.mem↔∃ x∈allAt 0 chs,S.m.check≤(x.1:Int)∧y∈entP seed x
 cap:D'.cap=D.cap
 starts:D'.starts=D.starts
 count:D'.count≤D.count+200*((allAt 0 chs).length+1)
 used:usedS D'.l≤usedS D.l
 map:fileOf D'.l mapN=fileOf D.l mapN
theorem px_man (api:DiskApi At)(h:PxAt At w0 gd gl gx r S L chs D E w) : Calls Tryz.prog 11 #[ptr gx] w (ManEnd w S.m.next S.m.check S.m.seed S.m.lv):=xmanifest_run api h.ix h.ok
end
section
variable {At : Lies} (api : DiskApi At) (nap : NamesApi) (iap : ImApi At) (cap : ChunksApi) {w0 w w' : World} {gd gl gx r seed : Nat} {S S' : IxS} {L : LogS} {chs : List (List ByteArray)} {D D' : DiskS} {E E' B : List Nat}
def Rest3 (At:Lies)(w0:World)(gd gl gx r seed:Nat)(S:IxS)(L:LogS)(chs:List (List ByteArray))(D:DiskS)(E:List Nat)(w:World) : Prop :=
 ∀ w1 A c,LvsNew w1 w.heap.size (.slice A S.m.lv.length c) S.m.lv→Below w.heap.size w w1 →
  let w2:=w1.alloc (.cells #[.int .i64 S.m.next,.int .i64 S.m.check,.int .u64 (S.m.seed:Nat),.slice A S.m.lv.length c] 40)
  Calls Tryz.prog 31 #[ptr gd,.agg #[.int .i64 S.m.next,.int .i64 S.m.check,.int .u64 (S.m.seed:Nat),.slice A S.m.lv.length c]] w2 fun e w3=>e = .returned (.int .i64 0) ∧
   Blok w3 w1.heap.size 40 #[.int .i64 S.m.next,.int .i64 S.m.check,.int .u64 (S.m.seed:Nat),.slice A S.m.lv.length c] ∧
   Calls Tryz.prog 32 #[ptr gx,ptr gl,.agg #[.int .i64 S.m.next,.int .i64 S.m.check,.int .u64 (S.m.seed:Nat),.slice A S.m.lv.length c]] w3 fun e w4=>e = .returned (.int .i64 0)∧∃ S' D',PxEnd At w0 gd gl gx r seed S L chs D E w S' D' w4
include api nap iap cap in
theorem px_rest (h:PxAt At w0 gd gl gx r S L chs D E w)(hm0:S.mem=[])(hse:S.m.seed=seed)(cc:Nat)(hcc:S.m.check=(cc:Nat))(hc9:cc≤900000)(hw:∀ x∈allAt 0 chs,bgOk x.2=true)(hent:(entC seed (allAt 0 chs)).length≤1000)(hct:D.count≤840000000)(hs:seed<18446744073709551616)(hlv:S.m.lv.length≤100000) :
  Rest3 At w0 gd gl gx r seed S L chs D E w:=by
 intro w1 A c hnew b1;obtain⟨G,hG,hkeep⟩:=hnew.keep;have h1:=h.more api b1 (B:=G) (fun b hb=>hG b hb);have hb2:=(Below.refl w1.heap.size w1).alloc (Nat.le_refl _) (.cells #[.int .i64 S.m.next,.int .i64 S.m.check,.int .u64 (S.m.seed:Nat),.slice A S.m.lv.length c] 40);have hB2:=Blok.new w1 40 #[.int .i64 S.m.next,.int .i64 S.m.check,.int .u64 (S.m.seed:Nat),.slice A S.m.lv.length c];have h2:=h1.more api hb2 (B:=[w1.heap.size]) (fun x hx=>by rw[List.mem_singleton.1 hx];exact⟨Nat.le_refl _,hB2.lt⟩);have hlv2:LvKeep (w1.alloc (.cells #[.int .i64 S.m.next,.int .i64 S.m.check,.int .u64 (S.m.seed:Nat),.slice A S.m.lv.length c] 40)) (.slice A S.m.lv.length c) S.m.lv G:=hkeep.step (Kept.of_below hb2 (fun x hx=>(hG x hx).2));have hk2:Kept E w (w1.alloc (.cells #[.int .i64 S.m.next,.int .i64 S.m.check,.int .u64 (S.m.seed:Nat),.slice A S.m.lv.length c] 40)):=(Kept.of_below b1 (fun x hx=>h.ix.lt x (List.mem_cons_of_mem _ hx))).trans (Kept.of_below hb2 (fun x hx=>h1.ix.lt x (List.mem_cons_of_mem _ (List.mem_append_right _ hx))));intro w2;refine(px_clean iap h2 (G:=G) (fun b hb=>List.mem_cons_of_mem _ (List.mem_append_right _ (List.mem_append_left _ hb))) hlv2 rfl rfl hlv).mono ?_;rintro e w3 ⟨D3,rfl,h3,k3,st,hu,hmp⟩;have hB3:=k3.blok hB2 (List.mem_append_left _ List.mem_cons_self);refine⟨rfl,hB3, ?_⟩;have hfl:=rfill_ok api nap cap h3 hm0 cc hc9 S.m.next A S.m.lv.length c hs hw hent (by rw[st.count];omega);rw[← hcc] at hfl;rw[hse];refine hfl.mono ?_;rintro e w4 ⟨rfl,S',c',h4,k4,m4,t4,f4,n4⟩;refine⟨rfl,S',_,⟨h4.less (fun x hx=>List.mem_append_right _ (List.mem_append_right _ hx)),hk2.trans ((k3.less (fun x hx=>List.mem_append_right _ (List.mem_append_right _ hx))).trans (k4.less (fun x hx=>List.mem_append_right _ (List.mem_append_right _ hx)))),m4,t4,f4,st.cap,st.starts, ?_,hu,hmp⟩⟩;have:=st.count;show c'≤_;omega
include api nap iap cap in
set_option maxHeartbeats 1000000 in
theorem rbopen_lies (h:LgAt At w0 gd gl L chs D E w)(ok:WfP D)(hct:D.count≤800000000)(hmay:loadE D=0→MayM (loadM D)∧∀ x∈(loadM D).lv.flatten,openE D x=0→(tgL (rdW D (ptT x)).1).length≤10000)
  (hyes:¬ (loadE D≠0∨(loadM D).seed≠seed∨((endS chs:Nat):Int)<(loadM D).check∨∃ x∈(loadM D).lv.flatten,openE D x≠0)) (hw:∀ x∈allAt 0 chs,bgOk x.2=true) (hent:(entC seed (allAt 0 chs)).length≤1000) (hs:seed<18446744073709551616) :
  Calls Tryz.prog 9 #[ptr gd,ptr gl,.int .u64 (seed:Nat),.float .f64 r] w fun e w'=>∃ gx T S' D' j,e = .returned (.tuple #[ptr gx,.bool false,.int .i64 0])∧T.map (fun t=>(t.n:Int))=(loadM D).lv.flatten∧(∀ t∈T,HasT D t.n t.l)∧j≤81∧Kept E w w' ∧
   ∃ v,Kept E w v∧PxEnd At w0 gd gl gx r seed ⟨loadM D,T,[]⟩ L chs { D with count:=D.count+j } E v S' D' w':=by
 have hmany:=h.good.many;have HR:=Lib.hid (log_first_read api nap h.st ok (by omega) (by rw[h.gl.nch];exact hmany));have HLI:=Lib.hid (fun W (hW:LogSt At w0 gd gl L D E W)=>lie_any api nap iap (⟨hW,h.fl,h.good,h.gl⟩:LgAt At w0 gd gl L chs D E W) (by omega) hmay seed r);have hle:=endS_le h.good;have HMY:=Lib.hid (fun q=>(hmay q).1);have HYES:=Lib.hid hyes
 have HPR:=Lib.hid (fun(gx:Nat) (T:List TbS) (j:Nat) (W:World) (hj:j≤81) (hse:(loadM D).seed=seed) (hck:(loadM D).check≤((endS chs:Nat):Int)) (h0:loadE D=0) (hW:PxAt At w0 gd gl gx r ⟨loadM D,T,[]⟩ L chs { D with count:=D.count+j } E W)=>(by
  have hm:=(hmay h0).1;have h3:=hm.2.2.1;obtain⟨cc,hcc⟩:∃ cc:Nat,(loadM D).check=(cc:Nat):=⟨(loadM D).check.toNat,by omega⟩
  exact px_rest api nap iap cap hW rfl hse cc hcc (by omega) hw hent (by show D.count+j≤_;omega) hs (by have:=hm.2.2.2.2.1.1;simp only at this ⊢;omega):Rest3 At w0 gd gl gx r seed ⟨loadM D,T,[]⟩ L chs { D with count:=D.count+j } E W))
 unfold Rest3 at HPR;have HMN:=Lib.hid (fun(gx:Nat) (T:List TbS) (j:Nat) (W:World) (hW:PxAt At w0 gd gl gx r ⟨loadM D,T,[]⟩ L chs { D with count:=D.count+j } E W)=>px_man api hW);unfold ManEnd manV at HMN;clear hmay hyes h hle hmany;go_enter Tryz.func9,Tryz.ntmps9;go_wp2_with fail;refine HR.out.mono ?_;rintro e w1 ⟨k,hk,rfl,h1,k1⟩;have q1:¬ (k:Int)=1:=by omega
 have q2:((k:Int)==1)=false:=beq_eq_false_iff_ne.2 q1;have HL1:=Lib.hid (HLI.out w1 h1);have HK1:=Lib.hid k1;clear h1 k1 HR hk HLI;go_wp2_with fail;refine HL1.out.mono ?_;rintro e w2 (⟨gx,T,j,rfl,l1,l2,l3,l4,l5,l6,h2,k2⟩ | ⟨j,rfl,hno,-⟩);rotate_left
 ·exact absurd hno HYES.out
 have HM2:=Lib.hid (HMN.out gx T j w2 h2);have HP2:=Lib.hid (HPR.out gx T j w2 l6 l2 l3 l1 h2);have HF2:=Lib.hid (And.intro l4 (And.intro l5 (And.intro l6 (HK1.out.trans k2))));clear l1 l2 l3 l4 l5 l6 h2 k2 HL1 HMN HPR q1 q2 HYES HMY;obtain⟨lm,hlm⟩:∃ lm,lm=loadM D:=⟨_,rfl⟩
 rw[← hlm] at HM2 HP2 HF2;obtain⟨x0,x1,x2,R⟩:=lm;have HLM:=Lib.hid hlm;clear hlm;go_wp2_with fail;refine HM2.out.mono ?_;rintro e w3 ⟨A,c,rfl,l3,b3⟩;have HC3:=HP2.out w3 A c l3 b3;have hB3:=Blok.new w3 40 #[.int .i64 x0,.int .i64 x1,.int .u64 (x2:Nat),.slice A R.length c];obtain⟨w4,hw4⟩:∃ w4,w3.alloc (.cells #[.int .i64 x0,.int .i64 x1,.int .u64 (x2:Nat),.slice A R.length c] 40)=w4:=⟨_,rfl⟩
 rw[hw4] at HC3 hB3;have HC3:=Lib.hid HC3;have z0:=hB3.cell 0;have z1:=hB3.cell 1;have z2:=hB3.cell 2;have z3:=hB3.cell 3;clear l3 b3 HM2 HP2 hB3;go_wp2_with fail;refine HC3.out.mono ?_;rintro e w5 ⟨rfl,hB5,hfill⟩;have HFL:=Lib.hid hfill;have y0:=hB5.cell 0;have y1:=hB5.cell 1;have y2:=hB5.cell 2;have y3:=hB5.cell 3;clear hfill hB5 HC3 z0 z1 z2 z3;go_wp2_with fail;refine HFL.out.mono ?_;rintro e w6 ⟨rfl,S',D',hp⟩;have HP:=Lib.hid hp;clear hp HFL y0 y1 y2 y3;go_wp2;go_ret3;obtain⟨f1,f2,f3,f4⟩:=HF2.out;rw[← HLM.out];exact⟨gx,T,S',D',j,rfl,f1,f2,f3,f4.trans HP.out.kept,w2,f4,HP.out⟩
end
end Go.Proofs.YtokbfellcadkpaaGreat
namespace Go.Proofs.YtokbfellcadkpaaGreat
open Go.RowKit Go.Shelf
set_option linter.unusedVariables false
set_option maxRecDepth 100000
section
variable {At : Lies} (api : DiskApi At) (nap : NamesApi) (iap : ImApi At) (cap : ChunksApi) {w0 w w' : World} {gd gl gx r seed : Nat} {S S' : IxS} {L : LogS} {chs : List (List ByteArray)} {D D' : DiskS} {E E' B : List Nat}
include api nap iap cap in
set_option maxHeartbeats 1000000 in
theorem rbopen_anew (h:LgAt At w0 gd gl L chs D E w)(ok:WfP D)(hct:D.count≤800000000)(hmay:loadE D=0→MayM (loadM D)∧∀ x∈(loadM D).lv.flatten,openE D x=0→(tgL (rdW D (ptT x)).1).length≤10000)
  (hyes:¬ (loadE D=0∧(loadM D).seed=seed∧(loadM D).check≤((endS chs:Nat):Int)∧∀ x∈(loadM D).lv.flatten,openE D x=0)) (hw:∀ x∈allAt 0 chs,bgOk x.2=true) (hent:(entC seed (allAt 0 chs)).length≤1000) (hs:seed<18446744073709551616) :
  Calls Tryz.prog 9 #[ptr gd,ptr gl,.int .u64 (seed:Nat),.float .f64 r] w fun e w'=>∃ gx S' D',e = .returned (.tuple #[ptr gx,.bool true,.int .i64 0])∧Kept E w w' ∧
   ∃ v D2,PxEnd At w0 gd gl gx r seed ⟨bareM seed,[],[]⟩ L chs D2 E v S' D' w'∧D2.starts=D.starts∧D2.cap=D.cap∧D2.count≤D.count+161∧usedS D2.l≤usedS D.l∧fileOf D2.l mapN=none:=by
 have hmany:=h.good.many;have hup:=h.fl.up.down;have HR:=Lib.hid (log_first_read api nap h.st ok (by omega) (by rw[h.gl.nch];exact hmany));have HLI:=Lib.hid (fun W (hW:LogSt At w0 gd gl L D E W)=>lie_any api nap iap (⟨hW,h.fl,h.good,h.gl⟩:LgAt At w0 gd gl L chs D E W) (by omega) hmay seed r)
 have HYES:=Lib.hid (fun(gx:Nat) (T:List TbS) (j:Nat) (h0:loadE D=0) (hse:(loadM D).seed=seed) (hck:(loadM D).check≤((endS chs:Nat):Int)) (hT:T.map (fun t:TbS=>(t.n:Int))=(loadM D).lv.flatten) (hH:∀ t∈T,HasT D t.n t.l)=>(hyes ⟨h0,hse,hck,fun x hx=>by
  rw[← hT] at hx;obtain⟨t,ht,rfl⟩:=List.mem_map.1 hx;exact(opens_yes hup (hH t ht)).1⟩:False))
 have HEM:=Lib.hid (fun(j:Nat) (W:World) (hj:j≤81) (hW:LgAt At w0 gd gl L chs { D with count:=D.count+j } E W)=>empty_ok api nap hW (by show D.count+j≤_;omega) seed r hs)
 have HPR:=Lib.hid (fun(gx:Nat) (D2:DiskS) (W:World) (hc2:D2.count≤D.count+161) (hW:PxAt At w0 gd gl gx r ⟨bareM seed,[],[]⟩ L chs D2 E W) =>
  (px_rest api nap iap cap hW rfl rfl 0 rfl (by omega) hw hent (by omega) hs (Nat.zero_le _):Rest3 At w0 gd gl gx r seed ⟨bareM seed,[],[]⟩ L chs D2 E W))
 have HMN:=Lib.hid (fun(gx:Nat) (D2:DiskS) (W:World) (hW:PxAt At w0 gd gl gx r ⟨bareM seed,[],[]⟩ L chs D2 E W)=>px_man api hW);unfold Rest3 at HPR;unfold ManEnd manV at HMN;have hb0:(bareM seed).next=0:=rfl;have hb1:(bareM seed).check=0:=rfl;have hb2:(bareM seed).seed=seed:=rfl;have hb3:(bareM seed).lv=[]:=rfl;simp only[hb0,hb1,hb2,hb3,List.length_nil] at HPR HMN;clear hmay hyes h hmany hb0 hb1 hb2 hb3 hup;go_enter Tryz.func9,Tryz.ntmps9;go_wp2_with fail;refine HR.out.mono ?_;rintro e w1 ⟨k,hk,rfl,h1,k1⟩;have q1:¬ (k:Int)=1:=by omega
 have q2:((k:Int)==1)=false:=beq_eq_false_iff_ne.2 q1;have HL1:=Lib.hid (HLI.out w1 h1);have HK1:=Lib.hid k1;clear h1 k1 HR hk HLI;go_wp2_with fail;refine HL1.out.mono ?_;rintro e w2 (⟨gx,T,j,rfl,l1,l2,l3,l4,l5,-⟩ | ⟨j,rfl,-,hj,h2,k2⟩)
 ·exact(HYES.out gx T j l1 l2 l3 l4 l5).elim
 have HE2:=Lib.hid (HEM.out j w2 hj h2);have HK2:=Lib.hid (HK1.out.trans k2);clear h2 k2 HL1 HEM q1 q2 HYES HK1;go_wp2_with fail;refine HE2.out.mono ?_;rintro e w3 ⟨gx,D2,rfl,h3,k3,e1,e2,e3,e4,e5⟩
 have hc2:D2.count≤D.count+161:=by
  have:D2.count≤D.count+j+80:=e3;omega
 have HM3:=Lib.hid (HMN.out gx D2 w3 h3);have HP3:=Lib.hid (HPR.out gx D2 w3 hc2 h3);have HF3:=Lib.hid (And.intro (HK2.out.trans k3) (And.intro (show D2.starts=D.starts from e1) (And.intro (show D2.cap=D.cap from e2) (And.intro hc2 (And.intro (show usedS D2.l≤usedS D.l from e4) e5)))));clear h3 k3 e1 e2 e3 e4 e5 hc2 HE2 HMN HPR HK2 hj;go_wp2_with fail;refine HM3.out.mono ?_;rintro e w4 ⟨A,c,rfl,l4,b4⟩;have HC4:=HP3.out w4 A c l4 b4;have hB4:=Blok.new w4 40 #[.int .i64 0,.int .i64 0,.int .u64 (seed:Nat),.slice A 0 c];obtain⟨w5,hw5⟩:∃ w5,w4.alloc (.cells #[.int .i64 0,.int .i64 0,.int .u64 (seed:Nat),.slice A 0 c] 40)=w5:=⟨_,rfl⟩
 rw[hw5] at HC4 hB4;have HC4:=Lib.hid HC4;have z0:=hB4.cell 0;have z1:=hB4.cell 1;have z2:=hB4.cell 2;have z3:=hB4.cell 3;clear l4 b4 HM3 HP3 hB4;go_wp2_with fail;refine HC4.out.mono ?_;rintro e w6 ⟨rfl,hB6,hfill⟩;have HFL:=Lib.hid hfill;have y0:=hB6.cell 0;have y1:=hB6.cell 1;have y2:=hB6.cell 2;have y3:=hB6.cell 3;clear hfill hB6 HC4 z0 z1 z2 z3;go_wp2_with fail;refine HFL.out.mono ?_;rintro e w7 ⟨rfl,S',D',hp⟩;have HP:=Lib.hid hp;clear hp HFL y0 y1 y2 y3;go_wp2;go_ret3;obtain⟨f1,f2,f3,f4,f5,f6⟩:=HF3.out;exact⟨gx,S',D',rfl,f1.trans HP.out.kept,w3,D2,HP.out,f2,f3,f4,f5,f6⟩
include api nap iap cap in
set_option maxHeartbeats 1000000 in
theorem rbopen_broke (h:LgAt At w0 gd gl L chs D E w)(ok:WfP D)(hct:D.count≤800000000)(hle:fileOf D.l mapN=none){q:Nat}{p:ByteArray}(hall:allAt 0 chs=[(q,p)])(hw:bgOk p=false)(hs:seed<18446744073709551616) :
  Calls Tryz.prog 9 #[ptr gd,ptr gl,.int .u64 (seed:Nat),.float .f64 r] w fun e w'=>(∃ b,e = .returned (.tuple #[.pointer none,.bool b,.int .i64 63]))∧∃ D',LgAt At w0 gd gl L chs D' E w'∧Kept E w w':=by
 have hmany:=h.good.many;have hup:=h.fl.up.down;obtain⟨hl1,hl2⟩:=load_gone hup hle;have HR:=Lib.hid (log_first_read api nap h.st ok (by omega) (by rw[h.gl.nch];exact hmany));have HLI:=Lib.hid (fun W (hW:LogSt At w0 gd gl L D E W)=>lie_no api iap hW ok (by omega) hl1 seed r);rw[hl2] at HLI;have HEM:=Lib.hid (fun(W:World) (hW:LogSt At w0 gd gl L D E W)=>empty_ok api nap (⟨hW,h.fl,h.good,h.gl⟩:LgAt At w0 gd gl L chs D E W) (by omega) seed r hs)
 have HPR:=Lib.hid (fun(gx:Nat) (D2:DiskS) (W:World) (hc2:D2.count≤D.count+161) (hW:PxAt At w0 gd gl gx r ⟨bareM seed,[],[]⟩ L chs D2 E W) (w1:World) (A:Option Addr) (c:Nat) (hnew:LvsNew w1 W.heap.size (.slice A 0 c) []) (b1:Below W.heap.size W w1)=>(by
  obtain⟨G,hG,hkeep⟩:=hnew.keep;have h1:=hW.more api b1 (B:=G) (fun b hb=>hG b hb);have hb2:=(Below.refl w1.heap.size w1).alloc (Nat.le_refl _) (.cells #[.int .i64 0,.int .i64 0,.int .u64 (seed:Nat),.slice A 0 c] 40);have hB2:=Blok.new w1 40 #[.int .i64 0,.int .i64 0,.int .u64 (seed:Nat),.slice A 0 c];have h2:=h1.more api hb2 (B:=[w1.heap.size]) (fun x hx=>by rw[List.mem_singleton.1 hx];exact⟨Nat.le_refl _,hB2.lt⟩);have hlv2:=hkeep.step (Kept.of_below hb2 (fun x hx=>(hG x hx).2));have hk2:Kept E W (w1.alloc (.cells #[.int .i64 0,.int .i64 0,.int .u64 (seed:Nat),.slice A 0 c] 40)):=(Kept.of_below b1 (fun x hx=>hW.ix.lt x (List.mem_cons_of_mem _ hx))).trans (Kept.of_below hb2 (fun x hx=>h1.ix.lt x (List.mem_cons_of_mem _ (List.mem_append_right _ hx))));refine(px_clean iap h2 (n:=0) (c:=0) (d:=seed) (R:=[]) (G:=G) (fun b hb=>List.mem_cons_of_mem _ (List.mem_append_right _ (List.mem_append_left _ hb))) hlv2 rfl rfl (Nat.zero_le _)).mono ?_;rintro e w3 ⟨D3,rfl,h3,k3,st,hu,hmp⟩;have hB3:=k3.blok hB2 (List.mem_append_left _ List.mem_cons_self);refine⟨rfl,hB3, ?_⟩;refine(rfill_no api nap cap h3 0 A 0 c hall hw (by rw[st.count];omega)).mono ?_;rintro e w4 ⟨rfl,c',h4,k4⟩;exact⟨rfl,⟨_,(h4.less (fun x hx=>List.mem_append_right _ (List.mem_append_right _ hx))).leave⟩,hk2.trans ((k3.less (fun x hx=>List.mem_append_right _ (List.mem_append_right _ hx))).trans (k4.less (fun x hx=>List.mem_append_right _ (List.mem_append_right _ hx))))⟩ :
  Calls Tryz.prog 31 #[ptr gd,.agg #[.int .i64 0,.int .i64 0,.int .u64 (seed:Nat),.slice A 0 c]] (w1.alloc (.cells #[.int .i64 0,.int .i64 0,.int .u64 (seed:Nat),.slice A 0 c] 40)) fun e w3=>e = .returned (.int .i64 0) ∧
   Blok w3 w1.heap.size 40 #[.int .i64 0,.int .i64 0,.int .u64 (seed:Nat),.slice A 0 c] ∧
   Calls Tryz.prog 32 #[ptr gx,ptr gl,.agg #[.int .i64 0,.int .i64 0,.int .u64 (seed:Nat),.slice A 0 c]] w3 fun e w4=>e = .returned (.int .i64 63)∧(∃ D',LgAt At w0 gd gl L chs D' E w4)∧Kept E W w4))
 have HMN:=Lib.hid (fun(gx:Nat) (D2:DiskS) (W:World) (hW:PxAt At w0 gd gl gx r ⟨bareM seed,[],[]⟩ L chs D2 E W)=>px_man api hW);unfold ManEnd manV at HMN;have hb0:(bareM seed).next=0:=rfl;have hb1:(bareM seed).check=0:=rfl;have hb2:(bareM seed).seed=seed:=rfl;have hb3:(bareM seed).lv=[]:=rfl;simp only[hb0,hb1,hb2,hb3,List.length_nil] at HMN;clear h hmany hb0 hb1 hb2 hb3 hup hl1 hl2 hle hall hw;go_enter Tryz.func9,Tryz.ntmps9;go_wp2_with fail;refine HR.out.mono ?_;rintro e w1 ⟨k,hk,rfl,h1,k1⟩;have q1:¬ (k:Int)=1:=by omega
 have q2:((k:Int)==1)=false:=beq_eq_false_iff_ne.2 q1;have HL1:=Lib.hid (HLI.out w1 h1);have HK1:=Lib.hid k1;clear h1 k1 HR hk HLI;go_wp2_with fail;refine HL1.out.mono ?_;rintro e w2 ⟨rfl,h2,k2⟩;have HE2:=Lib.hid (HEM.out w2 h2);have HK2:=Lib.hid (HK1.out.trans k2);clear h2 k2 HL1 HEM q1 q2 HK1;go_wp2_with fail;refine HE2.out.mono ?_;rintro e w3 ⟨gx,D2,rfl,h3,k3,e1,e2,e3,e4,e5⟩;have hc2:D2.count≤D.count+161:=by omega
 have HM3:=Lib.hid (HMN.out gx D2 w3 h3);have HP3:=Lib.hid (HPR.out gx D2 w3 hc2 h3);have HF3:=Lib.hid (HK2.out.trans k3);clear h3 k3 e1 e2 e3 e4 e5 hc2 HE2 HMN HPR HK2;go_wp2_with fail;refine HM3.out.mono ?_;rintro e w4 ⟨A,c,rfl,l4,b4⟩;have HC4:=HP3.out w4 A c l4 b4;have hB4:=Blok.new w4 40 #[.int .i64 0,.int .i64 0,.int .u64 (seed:Nat),.slice A 0 c];obtain⟨w5,hw5⟩:∃ w5,w4.alloc (.cells #[.int .i64 0,.int .i64 0,.int .u64 (seed:Nat),.slice A 0 c] 40)=w5:=⟨_,rfl⟩
 rw[hw5] at HC4 hB4;have HC4:=Lib.hid HC4;have z0:=hB4.cell 0;have z1:=hB4.cell 1;have z2:=hB4.cell 2;have z3:=hB4.cell 3;clear l4 b4 HM3 HP3 hB4;go_wp2_with fail;refine HC4.out.mono ?_;rintro e w6 ⟨rfl,hB6,hfill⟩;have HFL:=Lib.hid hfill;have y0:=hB6.cell 0;have y1:=hB6.cell 1;have y2:=hB6.cell 2;have y3:=hB6.cell 3;clear hfill hB6 HC4 z0 z1 z2 z3;go_wp2_with fail;refine HFL.out.mono ?_;rintro e w7 ⟨rfl,⟨D',hp⟩,kp⟩;have HP:=Lib.hid (And.intro hp (HF3.out.trans kp));clear hp kp HFL y0 y1 y2 y3;go_wp2;go_ret3;exact⟨⟨_,rfl⟩,D',HP.out.1,HP.out.2⟩
end
end Go.Proofs.YtokbfellcadkpaaGreat
namespace Go.Proofs.YtokbfellcadkpaaGreat
set_option maxRecDepth 100000
set_option linter.unusedVariables false
section
open Go.RowKit Go.Shelf
theorem has_uniq {D:DiskS}{n:Int}{l l':List EntS}(h:HasT D n l)(k:HasT D n l') : l=l':=by
 obtain⟨f,f1,-,f3⟩:=h;obtain⟨g,g1,-,g3⟩:=k;rw[f1] at g1;obtain rfl:=Option.some.inj g1;rw[← f3,← g3]
theorem rbapi {At:Lies}(api:DiskApi At)(nap:NamesApi)(iap:ImApi At)(cap:ChunksApi) : RbApi At where
 nild:=fun seed r h ok hct hc _ _=>rbopen_nild api nap iap h ok hct hc seed r
 nill:=fun g seed r w _=>rbopen_nill (ptr g) seed r w
 down:=fun seed r h ok hd hct hc _ _=>rbopen_down api nap iap h ok hd hct hc seed r
 keep:=by
  intro w0 w gd gl L chs D E seed r S h ok rb wh hlen hent hct hr;have hd:=h.fl.up.down;obtain⟨l1,l2,-⟩:=load_whole hd ok.may ok.seed wh.map;have hflat:(loadM D).lv.flatten=S.m.lv.flatten:=by rw[l2];exact trim_flat S.m
  have hck:(loadM D).check=S.m.check:=by rw[l2];rfl
  have hsd:(loadM D).seed=S.m.seed:=by rw[l2];rfl
  refine(rbopen_lies api nap iap cap h h.fl.up.wf hct (fun _=>⟨by rw[l2];exact mayM_trim ok.may,fun x hx _=>?_⟩) ?_ rb.whole hent (by rw[← rb.sd];exact ok.seed)).mono ?_
  ·rw[hflat] at hx;obtain⟨t,ht,rfl⟩:=(ok.nums x).1 hx;rw[(opens_yes hd (wh.has t ht)).2];exact hlen t ht
  ·rintro (q | q | q | ⟨x,hx,q⟩)
   ·exact q l1
   ·exact q (hsd.trans rb.sd)
   ·have:=rb.check;rw[hck] at q;omega
   ·rw[hflat] at hx;obtain⟨t,ht,rfl⟩:=(ok.nums x).1 hx;exact q (opens_yes hd (wh.has t ht)).1
  ·rintro e w' ⟨gx,T,S',D',j,rfl,hT,hH,hj,hk,v,hkv,px⟩;have hm:S'.m=trimM S.m:=px.m.trans l2;have hST:S'.T=T:=px.T;rw[hflat] at hT
   have hN:T.length=S.T.length:=by
    have h1:=congrArg List.length hT;rw[List.length_map] at h1;have:=ok.many;omega
   have hto:∀ t∈T,∃ u∈S.T,u.l=t.l:=fun t ht=>by
    have:(t.n:Int)∈S.m.lv.flatten:=by rw[← hT];exact List.mem_map.2 ⟨t,ht,rfl⟩
    obtain⟨u,hu,en⟩:=(ok.nums _).1 this;refine⟨u,hu, ?_⟩;have h2:=wh.has u hu;rw[en] at h2;exact has_uniq h2 (hH t ht)
   have hfrom:∀ u∈S.T,∃ t∈T,t.l=u.l:=fun u hu=>by
    have:(u.n:Int)∈T.map fun t:TbS=>(t.n:Int):=by rw[hT];exact(ok.nums _).2 ⟨u,hu,rfl⟩
    obtain⟨t,ht,en⟩:=List.mem_map.1 this;refine⟨t,ht, ?_⟩;have h2:=hH t ht;rw[en] at h2;exact has_uniq h2 (wh.has u hu)
   refine⟨gx,S',D',rfl,⟨px.sx,hk, ?_,px.cap,px.starts, ?_,px.used⟩,⟨?_,fun t ht=>px.sx.ok.has t ht⟩,hm⟩
   ·refine rb.opened (by rw[hm];rfl) (by rw[hm];rfl) (fun y=>?_) (fun y=>?_) (by rw[hST,hN];exact Nat.le_refl _)
    ·rw[hST];constructor
     ·rintro ⟨t,ht,hy⟩;obtain⟨u,hu,e⟩:=hto t ht;exact⟨u,hu,by rw[e];exact hy⟩
     ·rintro ⟨u,hu,hy⟩;obtain⟨t,ht,e⟩:=hfrom u hu;exact⟨t,ht,by rw[e];exact hy⟩
    ·rw[px.mem];simp only[hck]
   ·have:=px.count;simp only at this;omega
   ·have h1:fileOf D'.l mapN=fileOf D.l mapN:=px.map;rw[h1,wh.map,hm,mfB_trim]
 anew:=by
  intro w0 w gd gl L chs D E seed r h hw hn hent hct hs hr;refine(rbopen_anew api nap iap cap h h.fl.up.wf hct (fun h0=>?_) ?_ hw hent hs).mono ?_
  ·rcases hn with q | ⟨-,q1,q2,-⟩
   ·exact absurd h0 q
   ·exact⟨q1,q2⟩
  ·rintro ⟨h0,h1,h2,h3⟩;rcases hn with q | ⟨-,-,-,q | q | ⟨x,hx,q⟩⟩
   ·exact q h0
   ·exact q h1
   ·omega
   ·exact q (h3 x hx)
  ·rintro e w' ⟨gx,S',D',rfl,hk,v,D2,px,e1,e2,e3,e4,e5⟩;refine⟨gx,S',D',rfl,⟨px.sx,hk,rb_anew hw (by rw[px.m];rfl) (by rw[px.m];rfl) px.T (fun y=>?_),px.cap.trans e2,px.starts.trans e1, ?_,Nat.le_trans px.used e4⟩,px.map.trans e5,px.T,px.m⟩
   ·rw[px.mem];exact⟨fun⟨x,x1,_,x2⟩=>⟨x,x1,x2⟩,fun⟨x,x1,x2⟩=>⟨x,x1,by show(0:Int)≤_;omega,x2⟩⟩
   ·have:=px.count;omega
 broke:=by
  intro w0 w gd gl L chs D E seed r q p h hall hw hmap hct hs hr;exact rbopen_broke api nap iap cap h h.fl.up.wf hct hmap hall hw hs
end
end Go.Proofs.YtokbfellcadkpaaGreat
namespace Go.Proofs.YtokbfellcadkpaaGreat
open Go.RowKit Go.Shelf
set_option linter.unusedVariables false
set_option maxRecDepth 100000
section
variable {At : Lies} (api : DiskApi At) (nap : NamesApi) (iap : ImApi At) (cap : ChunksApi) (rapi : RbApi At) {w0 w w' : World} {gd gl : Nat} {E : List Nat}
theorem log_crash (api:DiskApi At)(h:LogSt At w0 gd gl log00 (newS 20000) E w) : Calls Tryz.prog 20 #[ptr gd,.slice none 0 0] w fun e w'=>∃ D',e = .returned (.int .i64 0)∧D'.down=true∧WfP D'∧D'.count=0∧LogSt At w0 gd gl log00 D' E w'∧Kept E w w':=by
 have u:=upd_new (c:=20000) (by decide);have hC:=h.1.disk api (fun F hf=>api.crash (.slice none 0 0) [] hf u.wf.ok (Or.inl ⟨rfl,none,0,rfl⟩) (fun b hb=>by cases hb) (by decide));have e1:crashS (newS 20000) []=(0,sinkS (newS 20000) []):=by unfold crashS;rw[if_neg (by simp[u.down])]
 have hw:=wp_crash u.wf [];rw[e1] at hC hw;refine hC.mono ?_;rintro e w' ⟨rfl,d,k⟩;exact⟨_,rfl,rfl,hw,rfl,⟨d,k.blok h.2.1 List.mem_cons_self,h.2.2.1,h.2.2.2⟩,k.less (fun b hb=>List.mem_cons_of_mem _ hb)⟩
include api nap iap cap rapi
namespace RbNoneW
set_option maxHeartbeats 2000000 in
theorem walk (a0:Int)(a1:Nat)(w0:(Lit.int .u64 a0).wf=true)(w1:a1<18446744073709551616)(W:World) : Calls Tryz.prog 5 #[.int .u64 a0,.float .f64 a1] W fun e w'=>e = .returned (.bool true)∧Below W.heap.size W w':=by
 obtain⟨sd,rfl,hs⟩:=u64_nat w0;have HNEW:=Lib.hid (show Calls Tryz.prog 7 #[.int .i64 20000] W fun e w'=>∃ g,e = .returned (.tuple #[ptr g,.int .i64 0])∧DS At W g (newS 20000) [] w' from im_new api W 20000 (by decide));have HLG:=Lib.hid (fun w g (h:DS At W g (newS 20000) [] w)=>log_new api nap cap h (by decide));have HO1:=Lib.hid (fun w gd gl (h:LogSt At W gd gl log00 (newS 20000) [] w)=>rapi.nild sd a1 h (wp_new (by decide)) (by show 0≤_;omega) (by show 0≤_;omega) hs w1);have HO2:=Lib.hid (fun w g=>rapi.nill g sd a1 w hs);have HCR:=Lib.hid (fun w gd gl (h:LogSt At W gd gl log00 (newS 20000) [] w)=>log_crash api h);have HO3:=Lib.hid (fun w gd gl D (h:LogSt At W gd gl log00 D [] w) (hd:D.down=true) (ok:WfP D) (hc:D.count=0)=>rapi.down sd a1 h ok hd (by omega) (by show 0≤_;omega) hs w1);have HEX:=Lib.hid (fun w=>whole_true api nap iap cap rapi w);clear w0 w1 hs;go_enter Tryz.func5,Tryz.ntmps5;go_wp2_with fail;refine HNEW.out.mono ?_;rintro e wa ⟨gd,rfl,hD⟩;have H1:=Lib.hid (HLG.out wa gd hD);clear hD HLG HNEW;go_wp2_with fail;refine H1.out.mono ?_;rintro e wb ⟨gl,rfl,-,hl,-⟩;have H2:=Lib.hid (HO1.out wb gd gl hl);clear hl HO1 H1;go_wp2_with fail;refine H2.out.mono ?_;rintro e wc ⟨⟨b1,rfl⟩,hc,-⟩;have HC:=Lib.hid hc;clear hc H2;go_wp2_with fail;refine(HO2.out wc gd).mono ?_;rintro e wd ⟨⟨b2,rfl⟩,bd⟩;have H3:=Lib.hid (HCR.out wd gd gl (HC.out.below api bd));clear bd HO2 HC HCR;go_wp2_with fail;refine H3.out.mono ?_;rintro e we ⟨D',rfl,d1,d2,d3,he,-⟩;have H4:=Lib.hid (HO3.out we gd gl D' he d1 d2 d3);clear d1 d2 d3 he HO3 H3;go_wp2_with fail;refine H4.out.mono ?_;rintro e wf ⟨⟨b3,rfl⟩,D2,hf,-⟩;have HBB:=Lib.hid (show Below W.heap.size W wf from hf.1.kept);have HE:=Lib.hid (HEX.out wf);clear hf H4 HEX;go_wp2_with fail;refine HE.out.mono ?_;rintro e wg ⟨rfl,hb⟩;have HB:=Lib.hid (bj HBB.out hb);clear hb HE;go_wp2;go_ret;exact⟨rfl,HB.out⟩
end RbNoneW
namespace RbForeignW
end RbForeignW
end
end Go.Proofs.YtokbfellcadkpaaGreat
