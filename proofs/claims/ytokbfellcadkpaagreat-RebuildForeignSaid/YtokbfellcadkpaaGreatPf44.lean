/- ZfPtDisk, ZfIxDisk, ZfIxMath, ZfIxMem -/
import Derived.Test.YtokbfellcadkpaaGreatPf23
import Derived.Test.YtokbfellcadkpaaGreatPf43
import Derived.Test.YtokbfellcadkpaaGreatPf15
import Derived.Test.YtokbfellcadkpaaGreatPf10
import Derived.Test.YtokbfellcadkpaaGreatPf05
import Derived.Test.YtokbfellcadkpaaGreatPf13
import Derived.Test.YtokbfellcadkpaaGreatPf14
import Derived.Test.YtokbfellcadkpaaGreatPf06
namespace Go.Proofs.YtokbfellcadkpaaGreat
set_option maxRecDepth 100000
set_option linter.unusedVariables false
section
structure Wrote (D E:DiskS)(n:Nat)(l:List EntS)(t:ByteArray) : Prop where
 up:UpD E
 count:E.count=D.count
 cap:E.cap=D.cap
 used:usedS E.l=usedS D.l+t.size+(tbB l).size
 many:E.l.length=D.l.length+2
 table:fileOf E.l (ptT n)=some ⟨ptT n,tbB l,(tbB l).size⟩
 bloom:fileOf E.l (ptB n)=some ⟨ptB n,t,t.size⟩
 other:∀ m,m≠ptT n→m≠ptB n→fileOf E.l m=fileOf D.l m
theorem write_ok {D:DiskS}(h:UpD D){n:Nat}(hn:n≤999999){l:List EntS}(hok:tbOk l=true){t:ByteArray}(hm:D.l.length<390)(h1:fileOf D.l (ptT n)=none)(h2:fileOf D.l (ptB n)=none)(hr:usedS D.l+t.size+(tbB l).size+6000≤D.cap) : ∃ E,writeP D n l t=(0,E)∧Wrote D E n l t:=by
 obtain⟨n1,n2⟩:=pt_name hn;have hne:=pt_ne hn hn;obtain⟨D1,e1,L1⟩:=lay_ok (s:=t) h (by omega) n2 h2 (by omega);obtain⟨D2,e2,L2⟩:=lay_ok (s:=tbB l) L1.up (by rw[L1.many];omega) n1 (by rw[L1.file,if_neg (fun e=>hne e.symm)];exact h1) (by rw[L1.used,L1.cap];omega);refine⟨D2, ?_,L2.up,by rw[L2.count,L1.count],by rw[L2.cap,L1.cap],by rw[L2.used,L1.used],by rw[L2.many,L1.many],by rw[L2.file,if_pos rfl],by rw[L2.file,if_neg hne,L1.file,if_pos rfl],fun m q1 q2=>by rw[L2.file,if_neg q1,L1.file,if_neg q2]⟩;unfold writeP;rw[if_neg (by rw[not_or];exact⟨pt_full hn,by simp[hok]⟩),if_neg (by simp[h.down]),if_neg (by omega),e1];simp only;rw[if_neg (by decide),e2];simp only;rw[if_neg (by decide)]
theorem write_full {D:DiskS}(h:UpD D){n:Nat}(hn:n≤999999){l:List EntS}(hok:tbOk l=true){t:ByteArray}(hr:D.cap<usedS D.l+t.size+(tbB l).size+6000) : writeP D n l t=(60,D):=by
 unfold writeP;rw[if_neg (by rw[not_or];exact⟨pt_full hn,by simp[hok]⟩),if_neg (by simp[h.down]),if_pos (by omega)]
theorem Wrote.has {D E:DiskS}{n:Nat}{l:List EntS}{t:ByteArray}(h:Wrote D E n l t)(hl:l.length≤89478484)(hx:∀ x∈l,EntOk x)(hok:tbOk l=true) : HasT E n l:=by
 obtain⟨k1,k2,k3⟩:=tb_back hl hx hok;exact⟨_,h.table,k1,k3⟩
theorem dropP_both {D:DiskS}(h:UpD D){n:Nat}(hn:n≤999999){f g:FileS}(h1:fileOf D.l (ptT n)=some f)(h2:fileOf D.l (ptB n)=some g) : ∃ E,dropP D n=(0,E)∧UpD E∧E.cap=D.cap∧E.count=D.count∧E.l.length+2=D.l.length∧usedS E.l+f.data.size+g.data.size=usedS D.l:=by
 obtain⟨D1,e1,u1,c1,p1,l1,s1,z1,o1⟩:=deleteS_of h h1;have g1:fileOf D1.l (ptB n)=some g:=by rw[o1 _ (pt_ne hn hn)];exact h2
 obtain⟨D2,e2,u2,c2,p2,l2,s2,z2,o2⟩:=deleteS_of u1 g1;refine⟨D2, ?_,u2,by rw[p2,p1],by rw[c2,c1],by omega,by omega⟩;unfold dropP;rw[e1];simp only;rw[e2,if_neg (by decide)];simp only;rw[if_neg (by decide)]
structure StaysD (D E:DiskS) : Prop where
 starts:E.starts=D.starts
 cap:E.cap=D.cap
 count:E.count=D.count
theorem StaysD.refl (D:DiskS) : StaysD D D:=⟨rfl,rfl,rfl⟩
theorem StaysD.trans {D E F:DiskS}(h:StaysD D E)(k:StaysD E F) : StaysD D F:=⟨k.starts.trans h.starts,k.cap.trans h.cap,k.count.trans h.count⟩
theorem sd_done {D E F:DiskS}(h:StaysD D E)(k:StaysD D F) : StaysD D (doneS E F).2:=by
 unfold doneS;split
 ·exact⟨k.starts,k.cap,k.count⟩
 ·exact⟨h.starts,h.cap,h.count⟩
theorem sd_create (D:DiskS)(n:ByteArray) : StaysD D (createS D n).2:=by
 unfold createS;split
 ·exact StaysD.refl D
 ·split
  ·exact StaysD.refl D
  ·split
   ·exact StaysD.refl D
   ·split
    ·exact StaysD.refl D
    ·exact sd_done (StaysD.refl D) ⟨rfl,rfl,rfl⟩
theorem sd_append (D:DiskS)(n s:ByteArray) : StaysD D (appendS D n s).2:=by
 unfold appendS;split
 ·exact StaysD.refl D
 ·split
  ·split
   ·exact StaysD.refl D
   ·split
    ·exact⟨rfl,rfl,rfl⟩
    ·exact⟨rfl,rfl,rfl⟩
  ·exact StaysD.refl D
theorem sd_sync (D:DiskS)(n:ByteArray) : StaysD D (syncS D n).2:=by
 unfold syncS;split
 ·exact StaysD.refl D
 ·split
  ·exact sd_done (StaysD.refl D) ⟨rfl,rfl,rfl⟩
  ·exact StaysD.refl D
theorem sd_delete (D:DiskS)(n:ByteArray) : StaysD D (deleteS D n).2:=by
 unfold deleteS;split
 ·exact StaysD.refl D
 ·split
  ·exact sd_done (StaysD.refl D) ⟨rfl,rfl,rfl⟩
  ·exact StaysD.refl D
theorem sd_lay (D:DiskS)(n s:ByteArray) : StaysD D (layP D n s).2:=by
 unfold layP;split
 ·exact sd_create D n
 ·split
  ·exact(sd_create D n).trans (sd_append _ n s)
  ·exact((sd_create D n).trans (sd_append _ n s)).trans (sd_sync _ n)
theorem sd_write (D:DiskS)(n:Int)(l:List EntS)(t:ByteArray) : StaysD D (writeP D n l t).2:=by
 unfold writeP;split
 ·exact StaysD.refl D
 ·split
  ·exact StaysD.refl D
  ·split
   ·exact StaysD.refl D
   ·split
    ·exact sd_lay D _ _
    ·split
     ·exact((sd_lay D _ _).trans (sd_lay _ _ _)).trans (sd_delete _ _)
     ·exact(sd_lay D _ _).trans (sd_lay _ _ _)
theorem fileOf_clear {n m:ByteArray}(hne:m≠n)(l:List FileS) : fileOf (clearL l n) m=fileOf l m:=by
 unfold clearL;split
 ·exact fileOf_drop_ne hne l
 ·rfl
theorem clear_names {l:List FileS}{n:ByteArray}{x:FileS}(h:x∈clearL l n) : x∈l:=by
 unfold clearL at h;split at h
 ·exact drop_mem h
 ·exact h
theorem clear_none {l:List FileS}{n:ByteArray}(hd:(l.map FileS.name).Nodup) : fileOf (clearL l n) n=none:=by
 unfold clearL;split
 ·refine fileOf_none.2 fun f hf e=>?_
  have h1:f.name∈(dropS l (findS l n)).map FileS.name:=List.mem_map.2 ⟨f,hf,rfl⟩;rw[drop_names n l hd] at h1;have h2:=(List.mem_filter.1 h1).2;rw[e] at h2;simp at h2
 ·rename_i h;exact Classical.byContradiction fun q=>h (fileOf_lt.2 q)
theorem drop_nodup {l:List FileS}{i:Nat}(h:(l.map FileS.name).Nodup) : ((dropS l i).map FileS.name).Nodup:=by
 refine List.Sublist.nodup (List.Sublist.map _ ?_) h;unfold dropS;have e:l=l.take i++l.drop i:=(List.take_append_drop i l).symm
 conv=>rhs;rw[e]
 refine List.Sublist.append_left ?_ _;rw[← List.drop_drop];exact List.drop_sublist 1 _
theorem rise_nodup {l:List FileS}(h:l.Pairwise (fun f g=>lessB f.name g.name=true))(hn:∀ n,lessB n n=false) : (l.map FileS.name).Nodup:=by
 unfold List.Nodup;rw[List.pairwise_map];exact h.imp fun {a b} hab e=>by rw[e,hn] at hab;cases hab
theorem rename_ok {D:DiskS}(h:UpD D)(hd:(namesS D).Nodup){n m:ByteArray}{f:FileS}(hf:fileOf D.l n=some f)(hm:nameB m=true)(hne:n≠m) :
  ∃ E,renameS D n m=(0,E)∧UpD E∧StaysD D E∧usedS E.l≤usedS D.l∧E.l.length≤D.l.length∧fileOf E.l m=some ⟨m,f.data,f.synced⟩∧fileOf E.l n=none∧(∀ k,k≠m→k≠n→fileOf E.l k=fileOf D.l k)∧∀ x∈namesS E,x=m∨(x∈namesS D∧x≠n):=by
 have hlt:findS D.l n<D.l.length:=fileOf_lt.2 (by rw[hf];simp);have hk:D.l[findS D.l n]? = some f:=by rw[fileOf_at];exact hf
 have e:renameS D n m=(0, { D with l:=layS (clearL (dropS D.l (findS D.l n)) m) ⟨m,f.data,f.synced⟩ }):=by
  unfold renameS doneS goesS;rw[if_neg (by simp[h.down]),if_pos hlt,if_neg (by simp[hm]),h.fails,if_pos (by decide),if_neg hne,renameL_at hk]
 have w:=wp_rename h.wf n m;rw[e] at w;have hnd:=drop_nodup (i:=findS D.l n) hd;have hc:fileOf (clearL (dropS D.l (findS D.l n)) m) m=none:=clear_none hnd;have g1:∀ k,fileOf (layS (clearL (dropS D.l (findS D.l n)) m) ⟨m,f.data,f.synced⟩) k=if k=m then some ⟨m,f.data,f.synced⟩ else fileOf (clearL (dropS D.l (findS D.l n)) m) k:=fun k=>fileOf_lay (f:=⟨m,f.data,f.synced⟩) hc k
 have hnn:fileOf (dropS D.l (findS D.l n)) n=none:=by
  refine fileOf_none.2 fun x hx ex=>?_
  have h1:x.name∈(dropS D.l (findS D.l n)).map FileS.name:=List.mem_map.2 ⟨x,hx,rfl⟩;rw[drop_names n D.l hd] at h1;have h2:=(List.mem_filter.1 h1).2;rw[ex] at h2;simp at h2
 refine⟨_,e,⟨h.down,h.fails,w⟩,⟨rfl,rfl,rfl⟩, ?_, ?_,by show fileOf (layS _ _) m=_;rw[g1,if_pos rfl],by show fileOf (layS _ _) n=_;rw[g1,if_neg hne,fileOf_clear hne,hnn],fun k k1 k2=>by show fileOf (layS _ _) k=_;rw[g1,if_neg k1,fileOf_clear k1,fileOf_drop_ne k2],fun x hx=>?_⟩
 ·show usedS (layS _ _)≤_;rw[used_lay];have:=used_drop hk;have:=used_clear (dropS D.l (findS D.l n)) m;show _+f.data.size≤_;omega
 ·show(layS _ _).length≤_;rw[lay_length];have:=dropS_length hlt;have:=clearL_length (dropS D.l (findS D.l n)) m;omega
 ·obtain⟨y,hy,rfl⟩:=List.mem_map.1 (show x∈(layS (clearL (dropS D.l (findS D.l n)) m) ⟨m,f.data,f.synced⟩).map FileS.name from hx);rcases lay_mem hy with hy | rfl
  ·have h1:y.name∈(dropS D.l (findS D.l n)).map FileS.name:=List.mem_map.2 ⟨y,clear_names hy,rfl⟩;rw[drop_names n D.l hd] at h1;obtain⟨q1,q2⟩:=List.mem_filter.1 h1;exact Or.inr ⟨q1,by simpa using q2⟩
  ·exact Or.inl rfl
theorem names_sink (D:DiskS)(k:List Int) : namesS (sinkS D k)=namesS D:=by
 show(crashL D.l k).map FileS.name=D.l.map FileS.name;unfold crashL;refine List.ext_getElem? fun i=>?_
 rw[List.getElem?_map,List.getElem?_mapIdx,List.getElem?_map];cases D.l[i]?<;>rfl
theorem names_append (D:DiskS)(n s:ByteArray) : namesS (appendS D n s).2=namesS D:=by
 unfold appendS;split
 ·rfl
 ·split
  ·split
   ·rfl
   ·split
    ·show(setF D.l _ _).map FileS.name=_;exact setF_names _ (by intro f;rfl) _ _
    ·rw[names_sink];show(setF D.l _ _).map FileS.name=_;exact setF_names _ (by intro f;rfl) _ _
  ·rfl
theorem names_sync (D:DiskS)(n:ByteArray) : namesS (syncS D n).2=namesS D:=by
 unfold syncS;split
 ·rfl
 ·split
  ·unfold doneS;split
   ·show(setF D.l _ _).map FileS.name=_;exact setF_names _ (by intro f;rfl) _ _
   ·exact names_sink _ _
  ·rfl
theorem names_create (D:DiskS)(n:ByteArray) : namesS (createS D n).2=namesS D∨(fileOf D.l n=none∧(namesS (createS D n).2).Perm (n::namesS D)):=by
 unfold createS;split
 ·exact Or.inl rfl
 ·split
  ·exact Or.inl rfl
  ·split
   ·exact Or.inl rfl
   ·rename_i hf;split
    ·exact Or.inl rfl
    ·unfold doneS;split
     ·refine Or.inr ⟨Classical.byContradiction fun q=>hf (fileOf_lt.2 q), ?_⟩;show((layS D.l ⟨n,ByteArray.empty,0⟩).map FileS.name).Perm _;unfold layS;generalize aheadS D.l n=k;have e:namesS D=(D.l.take k).map FileS.name++(D.l.drop k).map FileS.name:=by rw[← List.map_append,List.take_append_drop]
      rw[e,List.map_append,List.map_append];show((D.l.take k).map FileS.name++[n]++(D.l.drop k).map FileS.name).Perm _;rw[List.append_assoc];exact List.perm_middle
     ·exact Or.inl (names_sink _ _)
theorem names_lay (D:DiskS)(n s:ByteArray) : namesS (layP D n s).2=namesS (createS D n).2:=by
 unfold layP;split
 ·rfl
 ·split
  ·exact names_append _ _ _
  ·rw[names_sync,names_append]
theorem lay_name {D:DiskS}{n s x:ByteArray}(hx:x∈namesS (layP D n s).2) : x=n∨x∈namesS D:=by
 rw[names_lay] at hx;rcases names_create D n with e | ⟨-,e⟩
 ·rw[e] at hx;exact Or.inr hx
 ·exact List.mem_cons.1 (e.mem_iff.1 hx)
theorem lay_nodup {D:DiskS}{n s:ByteArray}(h:(namesS D).Nodup) : (namesS (layP D n s).2).Nodup:=by
 rw[names_lay];rcases names_create D n with e | ⟨k,e⟩
 ·rw[e];exact h
 ·refine e.nodup_iff.2 (List.nodup_cons.2 ⟨fun hm=>?_,h⟩);obtain⟨f,hf,en⟩:=List.mem_map.1 hm;exact fileOf_none.1 k f hf en
theorem swap_ok {D:DiskS}(h:UpD D)(hd:(namesS D).Nodup){m:ManS}(hm:MayM m)(hnew:fileOf D.l newN=none)(hlen:D.l.length<399)(hroom:usedS D.l+(mfB m).size+6000≤D.cap) :
  ∃ E,swapP D m=(0,E)∧UpD E∧StaysD D E∧usedS E.l≤usedS D.l+(mfB m).size∧E.l.length≤D.l.length+1∧fileOf E.l mapN=some ⟨mapN,mfB m,(mfB m).size⟩∧fileOf E.l newN=none∧(∀ k,k≠mapN→k≠newN→fileOf E.l k=fileOf D.l k)∧∀ x∈namesS E,x=mapN∨x∈namesS D:=by
 have e0:=deleteS_no h.down hnew;obtain⟨E1,e1,L1⟩:=lay_ok (s:=mfB m) h (by omega) new_name hnew (by omega);obtain⟨E2,e2,u2,s2,q2,l2,f2,n2,o2,x2⟩:=rename_ok L1.up (by have:=lay_nodup (n:=newN) (s:=mfB m) hd;rw[e1] at this;exact this) (n:=newN) (m:=mapN) (f:=⟨newN,mfB m,(mfB m).size⟩) (by rw[L1.file,if_pos rfl]) map_name (fun e=>map_new e.symm);refine⟨E2, ?_,u2, ?_,by rw[L1.used] at q2;exact q2,by rw[L1.many] at l2;exact l2,f2,n2,fun k k1 k2=>by rw[o2 k k1 k2,L1.file,if_neg k2],fun x hx=>?_⟩
 ·unfold swapP;rw[if_neg (by simpa using hm),if_neg (by simp[h.down]),e0];simp only;rw[if_neg (by decide),if_neg (by omega),e1];simp only;rw[if_neg (by decide)];exact e2
 ·have s1:=sd_lay D newN (mfB m);rw[e1] at s1;exact s1.trans s2
 ·rcases x2 x hx with e | ⟨e,k⟩
  ·exact Or.inl e
  ·have hx1:x∈namesS (layP D newN (mfB m)).2:=by rw[e1];exact e
   rcases lay_name hx1 with e | e
   ·exact absurd e k
   ·exact Or.inr e
structure TbS where
 n:Nat
 l:List EntS
 t:ByteArray
structure IxS where
 m:ManS
 T:List TbS
 mem:List EntS
def IxHas (S:IxS)(x:EntS) : Prop:=x∈S.mem∨∃ t∈S.T,x∈t.l
structure IxOk (D:DiskS)(S:IxS) : Prop where
 may:MayM S.m
 seed:S.m.seed<18446744073709551616
 nums:∀ n:Int,n∈S.m.lv.flatten↔∃ t∈S.T,(t.n:Int)=n
 uniq:(S.T.map TbS.n).Nodup
 has:∀ t∈S.T,HasT D t.n t.l
 keep:∀ t∈S.T,keepsP t.t t.l=true
 rise:RiseE S.mem
 ok:∀ x∈S.mem,EntOk x
 mayE:∀ x∈S.mem,Go.Proofs.YtokbfellcadkpaaGreat.mayE x=true
theorem IxOk.num_le {D:DiskS}{S:IxS}(h:IxOk D S){t:TbS}(ht:t∈S.T) : t.n<1000000∧(t.n:Int)<S.m.next:=by
 have h1:=h.may.2.2.2.2.2 _ ((h.nums _).2 ⟨t,ht,rfl⟩);have h2:=h.may.2.1;omega
theorem IxOk.many {D:DiskS}{S:IxS}(h:IxOk D S) : S.T.length=S.m.lv.flatten.length:=by
 have hp:(S.T.map fun t=>(t.n:Int)).Perm S.m.lv.flatten:=by
  refine(List.perm_ext_iff_of_nodup ?_ h.may.2.2.2.2.1.2.2.2).2 fun n=>?_
  ·have:=h.uniq;rw[show(S.T.map fun t=>(t.n:Int))=(S.T.map TbS.n).map (fun n:Nat=>(n:Int)) by rw[List.map_map];rfl];unfold List.Nodup at this ⊢;rw[List.pairwise_map];exact this.imp fun {a b} hab e=>hab (by omega)
  ·rw[h.nums n,List.mem_map]
 have:=hp.length_eq;rw[List.length_map] at this;exact this
theorem IxOk.many_le {D:DiskS}{S:IxS}(h:IxOk D S) : S.T.length≤40:=by rw[h.many];exact h.may.2.2.2.2.1.2.1
theorem IxOk.count {D:DiskS}{S:IxS}(h:IxOk D S)(k:Nat) : IxOk { D with count:=k } S:=⟨h.may,h.seed,h.nums,h.uniq,fun t ht=>(h.has t ht).count k,h.keep,h.rise,h.ok,h.mayE⟩
theorem IxOk.add {D:DiskS}{S:IxS}(h:IxOk D S){x:EntS}(hx:EntOk x)(hm:Go.Proofs.YtokbfellcadkpaaGreat.mayE x=true) : IxOk D { S with mem:=layEn S.mem x }:=by
 refine⟨h.may,h.seed,h.nums,h.uniq,h.has,h.keep,rise_layE h.rise x,fun y hy=>?_,fun y hy=>?_⟩
 ·rcases mem_layE hy with k | rfl
  ·exact h.ok y k
  ·exact hx
 ·rcases mem_layE hy with k | rfl
  ·exact h.mayE y k
  ·exact hm
def stayT (T:List TbS)(R:LvL) : List TbS:=T.filter fun t=>decide ((t.n:Int)∈R.flatten)
def laidX (S:IxS)(R:LvL)(check:Int)(x:TbS)(mem:List EntS) : IxS:=⟨⟨S.m.next+1,check,S.m.seed,R⟩,stayT S.T R++[x],mem⟩
theorem addL_mem {L:LvL}{n:Int}(h:addLE L n=0)(x:Int) : x∈(addL L n).flatten↔x=n∨x∈L.flatten:=by
 have hv:MayBe L:=by
  unfold addLE at h;split at h
  ·cases h
  ·rename_i c;exact of_decide_eq_true (by cases hq:validL L with | true=>exact hq | false=>exact absurd (Or.inl hq) c)
 unfold addL;rw[if_pos h,trimL_flatten];have hp:=putL_perm n (L:=wideL L) (k:=0) (by rw[wideL_length hv.1];omega);rw[hp.mem_iff,List.mem_cons,wideL_flatten]
theorem addLE_parts {L:LvL}{n:Int}(hv:MayBe L)(h0:0≤n)(hn:∀ x∈L.flatten,x<n) : addLE L n=if L.flatten.length=40 then 60 else 0:=by
 unfold addLE;rw[if_neg];rintro (h | h | h)
 ·rw[show validL L=true from decide_eq_true hv] at h;cases h
 ·omega
 ·have:=hn n h;omega
theorem tbOk_of {l:List EntS}(hr:RiseE l)(hm:∀ x∈l,Go.Proofs.YtokbfellcadkpaaGreat.mayE x=true) : tbOk l=true:=by
 unfold tbOk;rw[Bool.and_eq_true,List.all_eq_true];exact⟨hr.sorted,hm⟩
theorem nodup_len {α:Type}[DecidableEq α] : ∀ {a b:List α},a.Nodup→(∀ x∈a,x∈b)→a.length≤b.length
 | [],b,_,_=>Nat.zero_le _
 | x::a,b,hd,h=>by
   obtain⟨h1,h2⟩:=List.nodup_cons.1 hd;have hx:=h x List.mem_cons_self;have ih:=nodup_len (b:=b.erase x) h2 fun y hy=>(List.mem_erase_of_ne (fun e:y=x=>h1 (by rw[← e];exact hy))).2 (h y (List.mem_cons_of_mem _ hy))
   rw[List.length_erase_of_mem hx] at ih;have:=List.length_pos_of_mem hx;rw[List.length_cons];omega
theorem rise_len {a b:List EntS}(hr:RiseE a)(h:∀ x∈a,x∈b) : a.length≤b.length :=
 nodup_len (hr.imp fun {x y} hxy e=>by rw[e,lessE_irrefl] at hxy;cases hxy) h
end
end Go.Proofs.YtokbfellcadkpaaGreat
namespace Go.Proofs.YtokbfellcadkpaaGreat
open Go.RowKit
set_option linter.unusedVariables false
set_option maxRecDepth 100000
section
variable {At : Lies} {w0 w w' : World} {gd : Nat} {D D' : DiskS} {E E' B : List Nat}
theorem DS.turn (api:DiskApi At)(h:DS At w0 gd D E w)(ht:Touch B w w')(hB:∀ b∈B,b∈E∧w0.heap.size≤b)(hE:∀ b∈E',b∈E∨(w.heap.size≤b∧b<w'.heap.size)) : DS At w0 gd D E' w':=by
 obtain⟨F,h1,h2,h3⟩:=h;refine⟨F,api.touch h1 ht (fun x hx hm=>(h3 x (hB x hm).1).1 hx),h2.trans (ht.below h2.size (fun x hx=>(hB x hx).2)),fun b hb=>?_⟩;rcases hE b hb with k | ⟨k1,k2⟩
 ·exact⟨(h3 b k).1,Nat.lt_of_lt_of_le (h3 b k).2 ht.size⟩
 ·exact⟨fun hf=>by have:=(api.low h1 b hf).2;omega,k2⟩
end
def LvKeep (w:World)(v:Value)(R:LvL)(G:List Nat) : Prop:=∀ W,Kept G w W→LvsHas W v R
section
variable {w w' : World} {v : Value} {R : LvL} {G G' E : List Nat}
theorem LvKeep.now (h:LvKeep w v R G) : LvsHas w v R:=h w (Kept.refl _ _)
theorem LvKeep.step (h:LvKeep w v R G)(hk:Kept G w w') : LvKeep w' v R G:=fun W k=>h W (hk.trans k)
theorem LvKeep.more (h:LvKeep w v R G)(hG:∀ b∈G,b∈G') : LvKeep w v R G':=fun W k=>h W (k.less hG)
end
theorem Kept.lvs {G:List Nat}{w w':World}{base:Nat}{v:Value}{M:List LvS}(h:Kept G w w')(hr:LvRow w base v M)(hv:∀ b∈ownL v,b∈G) : LvRow w' base v M:=by
 refine⟨hr.1, ?_⟩;rcases hr.2 with h0 | ⟨g,cap,cur,e,hg,hh,r⟩
 ·exact Or.inl h0
 ·exact Or.inr ⟨g,cap,cur,e,hg,(h.block g (hv g (ownL_mem.2 (by rw[e];rfl)))).trans hh,r⟩
theorem Kept.irow {G:List Nat}{w w':World}{base:Nat}{v:Value}{l:List Int}(h:Kept G w w')(hr:IRow w base v l)(hv:∀ b∈ownL v,b∈G) : IRow w' base v l:=by
 refine⟨hr.1, ?_⟩;rcases hr.2 with h0 | ⟨g,cap,cur,e,hg,hh,r⟩
 ·exact Or.inl h0
 ·exact Or.inr ⟨g,cap,cur,e,hg,(h.block g (hv g (ownL_mem.2 (by rw[e];rfl)))).trans hh,r⟩
theorem LvsNew.keep {w:World}{base:Nat}{v:Value}{R:LvL}(h:LvsNew w base v R) : ∃ G,(∀ b∈G,base≤b∧b<w.heap.size)∧LvKeep w v R G:=by
 obtain⟨M,h1,h2,h3⟩:=h;refine⟨ownL v++M.flatMap (fun x=>ownL x.v),fun b hb=>?_,fun W k=>⟨M,LvRow.in_ (k.lvs h1 (fun b hb=>List.mem_append_left _ hb)) (fun x hx=>IRow.in_ (k.irow (h2 x hx) (fun b hb=>List.mem_append_right _ (List.mem_flatMap.2 ⟨x,hx,hb⟩)))),h3⟩⟩;rcases List.mem_append.1 hb with hb | hb
 ·exact h1.lt b (ownL_mem.1 hb)
 ·obtain⟨x,hx,hb⟩:=List.mem_flatMap.1 hb;exact(h2 x hx).lt b (ownL_mem.1 hb)
theorem TabAt.keep {w w':World}{base g:Nat}{F E:List Nat}{l:List EntS}(h:TabAt w base g F l)(hk:Kept E w w')(hF:∀ b∈F,b∈E) : TabAt w' base g F l:=by
 obtain⟨v,h1,h2,h3,h4,h5,h6,h7⟩:=h;exact⟨v,hk.blok h1 (hF g h4),hk.row h2 (fun b hb=>hF b (h3 b (ownL_mem.1 hb))),h3,h4,fun x hx=>⟨(h5 x hx).1,Nat.lt_of_lt_of_le (h5 x hx).2 hk.size⟩,h6,h7⟩
abbrev PRow (w:World)(base:Nat)(v:Value)(ps:List Nat) : Prop:=w.ownsRow base 164 1 v ps.length (ps.map ptr)
theorem PRow.nil (w:World)(base:Nat) : PRow w base (.slice none 0 0) []:=World.ownsRow_nil _ _ _ _
theorem Kept.prow {G:List Nat}{w w':World}{base:Nat}{v:Value}{ps:List Nat}(h:Kept G w w')(hr:PRow w base v ps)(hv:∀ b∈ownL v,b∈G) : PRow w' base v ps:=by
 refine⟨hr.1, ?_⟩;rcases hr.2 with h0 | ⟨g,cap,cur,e,hg,hh,r⟩
 ·exact Or.inl h0
 ·exact Or.inr ⟨g,cap,cur,e,hg,(h.block g (hv g (ownL_mem.2 (by rw[e];rfl)))).trans hh,r⟩
theorem PRow.below {w w':World}{base B:Nat}{v:Value}{ps:List Nat}(h:PRow w base v ps)(hb:Below B w w')(hB:w.heap.size≤B) : PRow w' base v ps:=by
 refine⟨h.1, ?_⟩;rcases h.2 with h0 | ⟨g,cap,cur,hv,hg,hh,r⟩
 ·exact Or.inl h0
 ·obtain⟨hlt,_⟩:=Array.getElem?_eq_some_iff.1 hh;exact Or.inr ⟨g,cap,cur,hv,hg,(hb.block g (Nat.lt_of_lt_of_le hlt hB)).trans hh,r⟩
theorem PRow.form {w:World}{base:Nat}{v:Value}{ps:List Nat}(h:PRow w base v ps) : ∃ A cap,v = .slice A ps.length cap∧ps.length≤cap∧cap≤maxLen∧∀ i g,ps[i]? = some g→∃ b,A=some ⟨b,0,none⟩∧v.ownBlock=some b∧b<w.heap.size∧w.cell? ⟨b,i,none⟩=some (ptr g):=by
 obtain⟨A,cap,rfl,h1,h2,h3,h4⟩:=own_form h;refine⟨A,cap,rfl,h1,h2,fun i g hi=>?_⟩;have hlt:=(List.getElem?_eq_some_iff.1 hi).1;obtain⟨b,rfl,hb,hbw⟩:=h3 (by omega);refine⟨b,rfl,rfl,hbw,(h.cellAt i (by omega)).trans ?_⟩;show(ps.map ptr)[i]? = _;rw[List.getElem?_map,hi];rfl
def TabsAt (w:World)(gd:Nat)(ps:List Nat)(T:List TbS)(G:List Nat) : Prop :=
 ps.length=T.length∧∀ (i:Nat) (g:Nat) (t:TbS),ps[i]? = some g→T[i]? = some t→∃ H,PtAt w g gd t.n t.l t.t H∧∀ b∈H,b∈G
section
variable {w w' : World} {gd : Nat} {ps : List Nat} {T : List TbS} {G G' E : List Nat}
theorem TabsAt.keep (h:TabsAt w gd ps T G)(hk:Kept E w w')(hG:∀ b∈G,b∈E) : TabsAt w' gd ps T G:=⟨h.1,fun i g t h1 h2=>by
 obtain⟨H,q1,q2⟩:=h.2 i g t h1 h2;exact⟨H,q1.keep hk (fun b hb=>hG b (q2 b hb)),q2⟩⟩
theorem TabsAt.more (h:TabsAt w gd ps T G)(hG:∀ b∈G,b∈G') : TabsAt w gd ps T G':=⟨h.1,fun i g t h1 h2=>by
 obtain⟨H,q1,q2⟩:=h.2 i g t h1 h2;exact⟨H,q1,fun b hb=>hG b (q2 b hb)⟩⟩
theorem TabsAt.nil (w:World)(gd:Nat) : TabsAt w gd [] [] []:=⟨rfl,fun i g t h=>by simp at h⟩
theorem TabsAt.snoc (h:TabsAt w gd ps T G){g:Nat}{t:TbS}{H:List Nat}(hp:PtAt w g gd t.n t.l t.t H) : TabsAt w gd (ps++[g]) (T++[t]) (H++G):=by
 refine⟨by rw[List.length_append,List.length_append,h.1];rfl,fun i x y hx hy=>?_⟩;have hl:=h.1;rcases Nat.lt_or_ge i ps.length with c | c
 ·rw[List.getElem?_append_left c] at hx;rw[List.getElem?_append_left (by omega)] at hy;obtain⟨K,q1,q2⟩:=h.2 i x y hx hy;exact⟨K,q1,fun b hb=>List.mem_append_right _ (q2 b hb)⟩
 ·rw[List.getElem?_append_right c] at hx;rw[List.getElem?_append_right (by omega)] at hy
  have hi:i=ps.length:=by
   have:=(List.getElem?_eq_some_iff.1 hx).1;simp at this;omega
  subst hi;rw[Nat.sub_self] at hx;rw[hl,Nat.sub_self] at hy;obtain rfl:g=x:=by simpa using hx
  obtain rfl:t=y:=by simpa using hy
  exact⟨H,hp,fun b hb=>List.mem_append_left _ hb⟩
theorem TabsAt.filter (p:TbS→Bool) : ∀ {ps:List Nat} {T:List TbS},TabsAt w gd ps T G→TabsAt w gd (((ps.zip T).filter fun x=>p x.2).map Prod.fst) (T.filter p) G:=by
 intro ps T h;obtain⟨hl,hp⟩:=h
 have e:((ps.zip T).filter fun x=>p x.2).map Prod.snd=T.filter p:=by
  rw[show(fun x:Nat × TbS=>p x.2)=p ∘ Prod.snd from rfl,← List.filter_map,List.map_snd_zip (by omega)]
 have hm:∀ (i:Nat) (g:Nat) (t:TbS),(((ps.zip T).filter fun x=>p x.2).map Prod.fst)[i]? = some g→(T.filter p)[i]? = some t→(g,t)∈ps.zip T:=by
  intro i g t h1 h2;rw[← e] at h2;rw[List.getElem?_map] at h1 h2;obtain⟨x,hx,rfl⟩:=Option.map_eq_some_iff.1 h1;obtain⟨y,hy,rfl⟩:=Option.map_eq_some_iff.1 h2;rw[hx] at hy;obtain rfl:x=y:=Option.some.inj hy;exact(List.mem_filter.1 (List.mem_of_getElem? hx)).1
 refine⟨by rw[← e,List.length_map,List.length_map],fun i g t h1 h2=>?_⟩;obtain⟨j,hj⟩:=List.getElem?_of_mem (hm i g t h1 h2);rw[List.getElem?_zip_eq_some] at hj;exact hp j g t hj.1 hj.2
end
def IxM (w:World)(base gx gd r:Nat)(S:IxS)(Fm Gr Gk:List Nat) : Prop :=
 ∃ (gm:Nat) (lv tv:Value) (ps:List Nat),Blok w gx 89 #[ptr gx,ptr gd,.int .i64 S.m.next,.int .i64 S.m.check,.int .u64 (S.m.seed:Nat),lv,tv,.float .f64 r,mtp gm] ∧
  LvKeep w lv S.m.lv Gk∧PRow w base tv ps∧TabsAt w gd ps S.T Gk∧TabAt w base gm Fm S.mem∧gx∈Gr∧(∀ b∈ownL tv,b∈Gr)∧base≤gx
def IxAt (At:Lies)(w0:World)(gd gx r:Nat)(S:IxS)(D:DiskS)(E:List Nat)(w:World) : Prop :=
 ∃ Fm Gr Gk,DS At w0 gd D (Fm++(Gr++(Gk++E))) w∧IxM w w0.heap.size gx gd r S Fm Gr Gk∧(∀ b∈Fm,b ∉ Gr∧b ∉ Gk∧b ∉ E)∧(∀ b∈Gr,b ∉ Gk∧b ∉ E)∧(∀ b∈Gk,b ∉ E)∧∀ b∈Fm++Gr,w0.heap.size≤b
def IxEnd (At:Lies)(w0:World)(gd gx r:Nat)(v:Value)(S:IxS)(D:DiskS)(E:List Nat)(w:World)(e:Ending)(w':World) : Prop:=e = .returned v∧IxAt At w0 gd gx r S D E w'∧Kept E w w'
section
variable {At : Lies} {w0 w w' : World} {base gd gx r : Nat} {S S' : IxS} {D D' : DiskS} {E E' B Fm Gr Gk : List Nat}
theorem IxM.keep (h:IxM w base gx gd r S Fm Gr Gk)(hk:Kept (Fm++(Gr++Gk)) w w') : IxM w' base gx gd r S Fm Gr Gk:=by
 obtain⟨gm,lv,tv,ps,h1,h2,h3,h4,h5,h6,h7,h8⟩:=h;exact⟨gm,lv,tv,ps,hk.blok h1 (List.mem_append_right _ (List.mem_append_left _ h6)),h2.step (hk.less (fun b hb=>List.mem_append_right _ (List.mem_append_right _ hb))),hk.prow h3 (fun b hb=>List.mem_append_right _ (List.mem_append_left _ (h7 b hb))),h4.keep hk (fun b hb=>List.mem_append_right _ (List.mem_append_right _ hb)),h5.keep hk (fun b hb=>List.mem_append_left _ hb),h6,h7,h8⟩
theorem IxAt.ds (h:IxAt At w0 gd gx r S D E w) : DS At w0 gd D E w:=by
 obtain⟨Fm,Gr,Gk,h1,-⟩:=h;exact h1.less (fun b hb=>List.mem_append_right _ (List.mem_append_right _ (List.mem_append_right _ hb)))
theorem IxAt.kept (h:IxAt At w0 gd gx r S D E w) : Below w0.heap.size w0 w:=h.ds.kept
theorem IxAt.lt (h:IxAt At w0 gd gx r S D E w) : ∀ b∈E,b<w.heap.size:=h.ds.lt
theorem IxAt.turn (api:DiskApi At)(h:IxAt At w0 gd gx r S D E w)(ht:Touch B w w')(hB:∀ b∈B,b∈E∧w0.heap.size≤b)(hE:∀ b∈E',b∈E∨(w.heap.size≤b∧b<w'.heap.size)) : IxAt At w0 gd gx r S D E' w':=by
 obtain⟨Fm,Gr,Gk,h1,h2,h3,h4,h5,h6⟩:=h;have hlt:=h1.lt
 have hl:∀ b∈Fm++(Gr++Gk),b<w.heap.size∧b ∉ B:=fun b hb=>by
  refine⟨hlt b ?_,fun hm=>?_⟩
  ·rcases List.mem_append.1 hb with k | k
   ·exact List.mem_append_left _ k
   ·rcases List.mem_append.1 k with k | k
    ·exact List.mem_append_right _ (List.mem_append_left _ k)
    ·exact List.mem_append_right _ (List.mem_append_right _ (List.mem_append_left _ k))
  ·have hbE:=(hB b hm).1;rcases List.mem_append.1 hb with k | k
   ·exact(h3 b k).2.2 hbE
   ·rcases List.mem_append.1 k with k | k
    ·exact(h4 b k).2 hbE
    ·exact h5 b k hbE
 have hno:∀ b,b<w.heap.size→b ∉ E→b ∉ E':=fun b hb hn hm=>by
  rcases hE b hm with k | k
  ·exact hn k
  ·omega
 refine⟨Fm,Gr,Gk,h1.turn api ht (fun b hb=>⟨List.mem_append_right _ (List.mem_append_right _ (List.mem_append_right _ (hB b hb).1)),(hB b hb).2⟩) (fun b hb=>?_),h2.keep (Kept.of_touch ht hl),fun b hb=>⟨(h3 b hb).1,(h3 b hb).2.1,hno b (hl b (List.mem_append_left _ hb)).1 (h3 b hb).2.2⟩,fun b hb=>⟨(h4 b hb).1,hno b (hl b (List.mem_append_right _ (List.mem_append_left _ hb))).1 (h4 b hb).2⟩,fun b hb=>hno b (hl b (List.mem_append_right _ (List.mem_append_right _ hb))).1 (h5 b hb),h6⟩;rcases List.mem_append.1 hb with k | k
 ·exact Or.inl (List.mem_append_left _ k)
 ·rcases List.mem_append.1 k with k | k
  ·exact Or.inl (List.mem_append_right _ (List.mem_append_left _ k))
  ·rcases List.mem_append.1 k with k | k
   ·exact Or.inl (List.mem_append_right _ (List.mem_append_right _ (List.mem_append_left _ k)))
   ·rcases hE b k with q | q
    ·exact Or.inl (List.mem_append_right _ (List.mem_append_right _ (List.mem_append_right _ q)))
    ·exact Or.inr q
theorem IxAt.below (api:DiskApi At)(h:IxAt At w0 gd gx r S D E w)(hb:Below w.heap.size w w') : IxAt At w0 gd gx r S D E w':=h.turn api (Touch.of_below hb) (fun b hb=>by cases hb) (fun b hb=>Or.inl hb)
theorem IxAt.drew (api:DiskApi At)(h:IxAt At w0 gd gx r S D E w) : IxAt At w0 gd gx r S D E w.drew:=h.below api (Below.refl _ _).drew
theorem IxAt.less (h:IxAt At w0 gd gx r S D E w)(hE:∀ b∈E',b∈E) : IxAt At w0 gd gx r S D E' w:=by
 obtain⟨Fm,Gr,Gk,h1,h2,h3,h4,h5,h6⟩:=h;refine⟨Fm,Gr,Gk,h1.less (fun b hb=>?_),h2,fun b hb=>⟨(h3 b hb).1,(h3 b hb).2.1,fun k=>(h3 b hb).2.2 (hE b k)⟩,fun b hb=>⟨(h4 b hb).1,fun k=>(h4 b hb).2 (hE b k)⟩,fun b hb k=>h5 b hb (hE b k),h6⟩;rcases List.mem_append.1 hb with k | k
 ·exact List.mem_append_left _ k
 ·rcases List.mem_append.1 k with k | k
  ·exact List.mem_append_right _ (List.mem_append_left _ k)
  ·rcases List.mem_append.1 k with k | k
   ·exact List.mem_append_right _ (List.mem_append_right _ (List.mem_append_left _ k))
   ·exact List.mem_append_right _ (List.mem_append_right _ (List.mem_append_right _ (hE b k)))
theorem IxAt.more (api:DiskApi At)(h:IxAt At w0 gd gx r S D E w)(hb:Below w.heap.size w w')(hE:∀ b∈B,w.heap.size≤b∧b<w'.heap.size) : IxAt At w0 gd gx r S D (B++E) w' :=
 h.turn api (B:=[]) (Touch.of_below hb) (fun b hb=>by cases hb) (fun b hb=>(List.mem_append.1 hb).elim (fun k=>Or.inr (hE b k)) Or.inl)
theorem IxAt.quiet (h:IxAt At w0 gd gx r S D E w){P:Program}{f:FuncId}{args:Array Value}{Q:Ending→World→Prop}
  (hc:∀ E',(∀ b∈E,b∈E')→DS At w0 gd D E' w→Calls P f args w fun e w'=>DS At w0 gd D' E' w'∧Kept E' w w'∧Q e w'):Calls P f args w fun e w'=>IxAt At w0 gd gx r S D' E w'∧Kept E w w'∧Q e w':=by
 obtain⟨Fm,Gr,Gk,h1,h2,h3,h4,h5,h6⟩:=h;refine(hc _ (fun b hb=>List.mem_append_right _ (List.mem_append_right _ (List.mem_append_right _ hb))) h1).mono ?_;rintro e w' ⟨d,k,q⟩;refine⟨⟨Fm,Gr,Gk,d,h2.keep (k.less fun b hb=>?_),h3,h4,h5,h6⟩,k.less (fun b hb=>List.mem_append_right _ (List.mem_append_right _ (List.mem_append_right _ hb))),q⟩;rcases List.mem_append.1 hb with k | k
 ·exact List.mem_append_left _ k
 ·rcases List.mem_append.1 k with k | k
  ·exact List.mem_append_right _ (List.mem_append_left _ k)
  ·exact List.mem_append_right _ (List.mem_append_right _ (List.mem_append_left _ k))
end
end Go.Proofs.YtokbfellcadkpaaGreat
