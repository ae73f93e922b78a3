/- ZnDCore, ZnDNone, ZnDOps, ZnDSpoil, ZnDRead, ZnDLaid, ZnDSet -/
import Derived.Test.YtokbfellcadkpaaGreatPn24
import Derived.Test.YtokbfellcadkpaaGreatPn03
import Derived.Test.YtokbfellcadkpaaGreatPn16
import Derived.Deep.RegionLaw
import Derived.Maps.Own
namespace Go.Proofs.YtokbfellcadkpaaGreat
open Go.RowKit
set_option linter.unusedVariables false
set_option maxRecDepth 100000
section
variable {w : World} {base g mb : Nat} {vF : Value} {E : List Ent} {K : List Nat} {D : DiskS}
theorem PAt.cells (h:PAt w base g mb vF E K D) : w.cell? ⟨g,0,none⟩=some (ptr g)∧w.cell? ⟨g,1,none⟩=some (.int .i64 (D.cap:Nat))∧w.cell? ⟨g,2,none⟩=some (.map (some mb))∧w.cell? ⟨g,3,none⟩=some (.bool (!D.down)) ∧
  w.cell? ⟨g,4,none⟩=some (.int .i64 (D.count:Nat))∧w.cell? ⟨g,5,none⟩=some (.int .i64 (D.starts:Nat))∧w.cell? ⟨g,6,none⟩=some vF :=
 ⟨h.disk.cell 0,h.disk.cell 1,h.disk.cell 2,h.disk.cell 3,h.disk.cell 4,h.disk.cell 5,h.disk.cell 6⟩
theorem ent_at (h:PAt w base g mb vF E K D){n:ByteArray}(hf:findS D.l n<D.l.length) : ∃ x,E[findS D.l n]? = some x∧D.l[findS D.l n]? = some x.f∧x.f.name=n:=by
 obtain⟨f,hk,hn⟩:=find_at hf;have hk':=hk;generalize findS D.l n=k at *;rw[h.lst,List.getElem?_map] at hk';cases hx:E[k]? with
 | none=>rw[hx] at hk';cases hk'
 | some x =>
   rw[hx] at hk';obtain rfl:x.f=f:=by simpa using hk'
   exact⟨x,rfl,hk,hn⟩
theorem info_disk : (Tryz.prog.info? 74).map (·.size)=some 7:=by kernel_rfl
theorem same_in (d:Nat)(p:Addr)(w:World) : (Op.equalIn (d+1) 26 (.pointer (some p)) (.pointer (some p))).run Tryz.prog w = .ok true w:=by
 cases hq:Tryz.prog.info? 74 with
 | none=>have:=info_disk;rw[hq] at this;cases this
 | some i =>
   have hi:i.size=7:=by have:=info_disk;rw[hq] at this;simpa using this
   simp[Op.equalIn,run_underlying Tryz.underlying26,sizeOf,typeInfo,hq,sameAddr]
theorem same_ptr (p:Addr)(w:World) : (binOp .neq 26 (.pointer (some p)) (.pointer (some p))).run Tryz.prog w = .ok (.bool false) w:=by
 have he:(Op.equal 26 (.pointer (some p)) (.pointer (some p))).run Tryz.prog w = .ok true w:=same_in 9999 p w;simp only[binOp];simp[he]
set_option maxRecDepth 100000 in
theorem none_run (h:w.cell? ⟨g,0,none⟩=some (ptr g)) : Calls Tryz.prog 79 #[ptr g] w fun e w'=>e = .returned (.bool false)∧w=w':=by
 have hsp:=same_ptr ⟨g,0,none⟩;go_enter Tryz.func79,Tryz.ntmps79;go_wp2;go_ret;exact⟨rfl,rfl⟩
theorem none_nil (w:World) : Calls Tryz.prog 79 #[.pointer none] w fun e w'=>e = .returned (.bool true)∧w=w':=by
 go_enter Tryz.func79,Tryz.ntmps79;go_wp2;go_ret;exact⟨rfl,rfl⟩
def readyR (D:DiskS) : Nat:=if D.down then 61 else 0
theorem ready_run (h:PAt w base g mb vF E K D) : Calls Tryz.prog 75 #[ptr g] w fun e w'=>e = .returned (.int .i64 (readyR D:Nat))∧w=w':=by
 obtain⟨c0,c1,c2,c3,c4,c5,c6⟩:=h.cells;have hn:=Lib.hid (none_run c0);unfold readyR;cases hd:D.down
 all_goals
  rw[hd] at c3;clear hd h c1 c2 c4 c5 c6 c0;go_enter Tryz.func75,Tryz.ntmps75;go_wp2_with fail;refine hn.out.mono ?_;rintro e w' ⟨rfl,rfl⟩;go_wp2;go_ret;exact⟨rfl,rfl⟩
theorem isName_run (n:ByteArray)(w:World)(hn:n.size≤maxLen) : Calls Tryz.prog 180 #[.string n] w fun e w'=>e = .returned (.bool (nameB n))∧w=w':=by
 unfold maxLen at hn;by_cases h1:0<n.size
 ·by_cases h2:n.size≤12
  ·have e:nameB n=true:=by unfold nameB;rw[decide_eq_true h1,decide_eq_true h2];rfl
   have t0:decide ((1:Int)≤(n.size:Int))=true:=decide_eq_true (by omega);have t:decide ((n.size:Int)≤12)=true:=decide_eq_true (by omega);rw[e];clear e;go_enter Tryz.func180,Tryz.ntmps180;go_wp2;go_ret;exact⟨rfl,rfl⟩
  ·have e:nameB n=false:=by unfold nameB;rw[decide_eq_false h2,Bool.and_false]
   have t0:decide ((1:Int)≤(n.size:Int))=true:=decide_eq_true (by omega);have t:decide ((n.size:Int)≤12)=false:=decide_eq_false (by omega);rw[e];clear e;go_enter Tryz.func180,Tryz.ntmps180;go_wp2;go_ret;exact⟨rfl,rfl⟩
 ·have e:nameB n=false:=by unfold nameB;rw[decide_eq_false h1,Bool.false_and]
  have t:decide ((1:Int)≤(n.size:Int))=false:=decide_eq_false (by omega);have t2:n.size=0:=by omega
  rw[e];clear e;go_enter Tryz.func180,Tryz.ntmps180;go_wp2;go_ret;exact⟨rfl,rfl⟩
theorem look_yes (h:PAt w base g mb vF E K D){k:Nat}{x:Ent}(hk:E[k]? = some x)(hn:x.f.name.size≤maxLen) : Calls Tryz.prog 117 #[ptr g,.string x.f.name] w fun e w'=>e = .returned (.tuple #[ptr x.b,.int .i64 0])∧w=w':=by
 obtain⟨c0,c1,c2,c3,c4,c5,c6⟩:=h.cells;have hno:=Lib.hid (none_run c0);have hl:=h.map.look hn (b:=x.b) (List.mem_map.2 ⟨x,List.mem_of_getElem? hk,rfl⟩);generalize x.f.name=n at *;generalize x.b=b at *;clear hk h c1 c3 c4 c5 c6 c0;go_enter Tryz.func117,Tryz.ntmps117;go_wp2_with fail;refine hno.out.mono ?_;rintro e w' ⟨rfl,rfl⟩;go_wp2;go_ret2;exact⟨rfl,rfl⟩
theorem look_no (h:PAt w base g mb vF E K D){n:ByteArray}(hf:¬ findS D.l n<D.l.length)(hn:n.size≤maxLen) : Calls Tryz.prog 117 #[ptr g,.string n] w fun e w'=>e = .returned (.tuple #[.pointer none,.int .i64 4])∧w=w':=by
 obtain⟨c0,c1,c2,c3,c4,c5,c6⟩:=h.cells;have hno:=Lib.hid (none_run c0)
 have hl:=h.map.lookNo hn (fun y hy=>by
  obtain⟨x,hx,rfl⟩:=List.mem_map.1 hy;exact not_found hf x.f (by rw[h.lst];exact List.mem_map.2 ⟨x,hx,rfl⟩))
 clear hf h c1 c3 c4 c5 c6 c0;go_enter Tryz.func117,Tryz.ntmps117;go_wp2_with fail;refine hno.out.mono ?_;rintro e w' ⟨rfl,rfl⟩;go_wp2;go_ret2;exact⟨rfl,rfl⟩
theorem open_yes (h:PAt w base g mb vF E K D)(hd:D.down=false){k:Nat}{x:Ent}(hk:E[k]? = some x)(hn:x.f.name.size≤maxLen) : Calls Tryz.prog 115 #[ptr g,.string x.f.name] w fun e w'=>e = .returned (.tuple #[ptr x.b,.int .i64 0])∧w=w':=by
 have hr:=Lib.hid (ready_run h);have e0:readyR D=0:=by unfold readyR;rw[hd];rfl
 rw[e0] at hr;have hl:=Lib.hid (look_yes h hk hn);generalize x.f.name=n at *;generalize x.b=b at *;clear hk h hd e0;go_enter Tryz.func115,Tryz.ntmps115;go_wp2_with fail;refine hr.out.mono ?_;rintro e w' ⟨rfl,rfl⟩;go_wp2_with fail;refine hl.out.mono ?_;rintro e w' ⟨rfl,rfl⟩;go_wp2;go_ret2;exact⟨rfl,rfl⟩
theorem open_no (h:PAt w base g mb vF E K D)(hd:D.down=false){n:ByteArray}(hf:¬ findS D.l n<D.l.length)(hn:n.size≤maxLen) : Calls Tryz.prog 115 #[ptr g,.string n] w fun e w'=>e = .returned (.tuple #[.pointer none,.int .i64 4])∧w=w':=by
 have hr:=Lib.hid (ready_run h);have e0:readyR D=0:=by unfold readyR;rw[hd];rfl
 rw[e0] at hr;have hl:=Lib.hid (look_no h hf hn);clear hf h hd e0;go_enter Tryz.func115,Tryz.ntmps115;go_wp2_with fail;refine hr.out.mono ?_;rintro e w' ⟨rfl,rfl⟩;go_wp2_with fail;refine hl.out.mono ?_;rintro e w' ⟨rfl,rfl⟩;go_wp2;go_ret2;exact⟨rfl,rfl⟩
theorem open_down (h:PAt w base g mb vF E K D)(hd:D.down=true)(n:ByteArray) : Calls Tryz.prog 115 #[ptr g,.string n] w fun e w'=>e = .returned (.tuple #[.pointer none,.int .i64 61])∧w=w':=by
 have hr:=Lib.hid (ready_run h);have e0:readyR D=61:=by unfold readyR;rw[hd];rfl
 rw[e0] at hr;clear h hd e0;go_enter Tryz.func115,Tryz.ntmps115;go_wp2_with fail;refine hr.out.mono ?_;rintro e w' ⟨rfl,rfl⟩;go_wp2;go_ret2;exact⟨rfl,rfl⟩
end
end Go.Proofs.YtokbfellcadkpaaGreat
namespace Go.Proofs.YtokbfellcadkpaaGreat
open Go.RowKit
set_option linter.unusedVariables false
theorem max_int {P:Program}(x y:Int)(m:Int)(h:m=if x<y then y else x) : ∀ ts t w,(Builtin.max_ ts t #[.int .i64 x,.int .i64 y]).run P w = .ok (.int .i64 m) w:=fun ts t w=>by
 rw[run_max_int2,h]
theorem bytes_cases {w:World}{base:Nat}{v:Value}{d:ByteArray}(h:BytesAt w base v d) : (v = .slice none 0 0∧d.size=0)∨∃ b cap,v = .slice (some ⟨b,0,none⟩) d.size cap∧d.size≤cap∧cap≤maxLen∧base≤b∧b<w.heap.size:=by
 rcases h.2 with⟨rfl,e⟩ | ⟨g,cap,cur,rfl,hb,hg,h1,h2,h3,h4⟩
 ·exact Or.inl ⟨rfl,e⟩
 ·exact Or.inr ⟨g,cap,rfl,h1,h2,hb,(h.lt g rfl).2⟩
theorem bytes_nil_of {w:World}{base:Nat}{d:ByteArray}(h:d.size=0) : BytesAt w base (.slice none 0 0) d:=⟨by rw[byteCells_length];omega,Or.inl ⟨rfl,h⟩⟩
theorem if_pos_or_le {k:Int}(h:0≤k) : (if 0<k then(0:Int) else k)=0:=by split<;>omega
theorem touch_two (b:Nat)(w:World)(u v:Value) : Touch [b] w ((w.setCell ⟨b,0,none⟩ u).setCell ⟨b,1,none⟩ v) :=
 ((Touch.refl [b] w).setCell (p:=⟨b,0,none⟩) (Or.inl (List.mem_singleton.2 rfl)) _).setCell (p:=⟨b,1,none⟩) (Or.inl (List.mem_singleton.2 rfl)) _
def FileEnd (base:Nat)(x:Ent)(w:World)(f:FileS)(e:Ending)(w':World) : Prop :=
 ∃ v,e = .returned (.tuple #[])∧EntAt w' base ⟨f,x.b,v⟩∧v.ownBlock=x.v.ownBlock∧Touch [x.b] w w'
theorem EntAt.cells {w:World}{base:Nat}{x:Ent}(h:EntAt w base x) : w.cell? ⟨x.b,0,none⟩=some x.v∧w.cell? ⟨x.b,1,none⟩=some (.int .i64 (x.f.synced:Nat))∧w.frozen? ⟨x.b,0,none⟩=false∧w.frozen? ⟨x.b,1,none⟩=false :=
 ⟨h.1.cell 0,h.1.cell 1,h.1.frozen 0,h.1.frozen 1⟩
theorem EntAt.put {w:World}{base:Nat}{x:Ent}(h:EntAt w base x){v:Value}{d:ByteArray}(hv:BytesAt w base v d) : EntAt (w.setCell ⟨x.b,0,none⟩ v) base ⟨⟨x.f.name,d,x.f.synced⟩,x.b,v⟩ :=
 ⟨h.1.put 0 v,h.2.1,own_far hv (own_ne hv h.1 (by decide)) _⟩
theorem EntAt.putSync {w:World}{base:Nat}{x:Ent}(h:EntAt w base x)(n:Nat) : EntAt (w.setCell ⟨x.b,1,none⟩ (.int .i64 (n:Nat))) base ⟨⟨x.f.name,x.f.data,n⟩,x.b,x.v⟩ :=
 ⟨h.1.put 1 _,h.2.1,own_far h.2.2 (own_ne h.2.2 h.1 (by decide)) _⟩
set_option maxHeartbeats 2000000 in
theorem cut_file {w:World}{base:Nat}{x:Ent}(h:EntAt w base x)(k:Int)(hk:0≤k)(hz:x.f.data.size≤1048576)(m:Nat)(hm:m=min k.toNat x.f.data.size) :
  Calls Tryz.prog 118 #[ptr x.b,.int .i64 k] w (FileEnd base x w ⟨x.f.name,x.f.data.extract 0 m,min x.f.synced m⟩):=by
 obtain⟨c0,c1,f0,f1⟩:=h.cells;have hm1:=@min_int Tryz.prog k x.f.data.size m (by split<;>omega);have hm2:=@min_int Tryz.prog x.f.synced m (min x.f.synced m) (by split<;>omega);have hmz:m≤x.f.data.size:=by omega
 rcases bytes_cases h.2.2 with⟨e,e2⟩ | ⟨b,cap,e,n1,n2,hb1,hb2⟩
 ·obtain rfl:m=0:=by omega
  have hT:BytesAt w base (.slice none 0 0) (x.f.data.extract 0 0):=bytes_nil_of (by rw[ByteArray.size_extract];omega);have HX:=Lib.hid h;have HT:=Lib.hid hT;have hv:x.v.ownBlock=none:=by rw[e];rfl
  rw[e] at c0;have hm1:∀ ts t w,(Builtin.min_ ts t #[.int .i64 k,.int .i64 0]).run Tryz.prog w = .ok (.int .i64 0) w:=fun ts t w=>by rw[run_min_int2,if_pos_or_le hk]
  have hm2:∀ ts t w,(Builtin.min_ ts t #[.int .i64 (x.f.synced:Nat),.int .i64 0]).run Tryz.prog w = .ok (.int .i64 0) w:=fun ts t w=>by rw[run_min_int2,if_pos_or_le (by omega)]
  have p1:=(h.put hT)
  have c0':=p1.1.cell 0;have c1':=p1.1.cell 1;have f1':=p1.1.frozen 1;have HP:=Lib.hid (p1.putSync (min x.f.synced 0));rw[Nat.min_zero] at HP ⊢;clear p1 h hT hmz hm e2;go_enter Tryz.func118,Tryz.ntmps118;go_wp2;go_region
  go_wp2_with fail;go_region
  go_end0;exact⟨_,rfl,HP.out,hv.symm,((touch_two x.b w _ _).drew).drew⟩
 ·have hbs:=h.2.2;rw[e] at hbs;have hT:=bytes_take hbs hmz;have hv:x.v.ownBlock=some b:=by rw[e];rfl
  rw[e] at c0;have p1:=h.put hT;have c0':=p1.1.cell 0;have c1':=p1.1.cell 1;have f1':=p1.1.frozen 1;have HP:=Lib.hid (p1.putSync (min x.f.synced m));unfold maxLen at n2;have q1:(0:Int)≤(m:Int):=by omega
  have q2:(m:Int)≤(cap:Int):=by omega
  clear p1 h hT hm hbs;go_enter Tryz.func118,Tryz.ntmps118;go_wp2;go_region
  go_wp2_with fail;go_region
  go_end0;exact⟨_,rfl,HP.out,hv.symm,((touch_two x.b w _ _).drew).drew⟩
set_option maxHeartbeats 2000000 in
theorem fall_file {w:World}{base:Nat}{x:Ent}(h:EntAt w base x)(n:Int)(hs:x.f.synced≤x.f.data.size)(hz:x.f.data.size≤1048576) :
  Calls Tryz.prog 142 #[ptr x.b,.int .i64 n] w (FileEnd base x w (crashF x.f n)):=by
 obtain⟨c0,c1,f0,f1⟩:=h.cells;obtain⟨m,hm⟩:∃ m,m=min n.toNat (x.f.data.size-x.f.synced):=⟨_,rfl⟩
 have hst:staysS x.f n=x.f.synced+m:=by unfold staysS;rw[hm]
 have hE:crashF x.f n=⟨x.f.name,x.f.data.extract 0 (x.f.synced+m),x.f.synced+m⟩:=by unfold crashF;rw[hst]
 obtain⟨t,ht⟩:∃ t:Nat,(t:Int)=if n<0 then 0 else n:=⟨n.toNat,by split<;>omega⟩
 have hmax:=@max_int Tryz.prog n 0 t ht;have hmin:=@min_int Tryz.prog t ((x.f.data.size:Int)-(x.f.synced:Int)) m (by split<;>split at ht<;>omega);have hcut:=Lib.hid (fun W (hW:EntAt W base x)=>cut_file hW ((x.f.synced:Int)+(m:Int)) (by omega) hz (x.f.synced+m) (by omega));have hsz:(x.f.data.extract 0 (x.f.synced+m)).size=x.f.synced+m:=by rw[ByteArray.size_extract];omega
 have hmn:min x.f.synced (x.f.synced+m)=x.f.synced:=by omega
 rw[hE];rw[hmn] at hcut;have HSZ:=Lib.hid hsz;have HX:=Lib.hid h;have b1:(x.f.synced:Int)+(m:Int)≤1048576:=by omega
 have b2:0≤(x.f.data.size:Int)-(x.f.synced:Int):=by omega
 have b3:(x.f.data.size:Int)≤1048576:=by omega
 obtain⟨A,cap,hv,n1,n2,_⟩:=bytes_form h.2.2;rw[hv] at c0;clear hv hE hst hm ht hmn h hsz n1 n2;go_enter Tryz.func142,Tryz.ntmps142;go_wp2_with fail;go_region
 go_wp2_with fail;refine(hcut.out _ (by first | exact HX.out | exact HX.out.drew)).mono ?_;rintro e w2 ⟨v2,rfl,h2,hv2,ht2⟩;obtain⟨d0,d1,g0,g1⟩:=h2.cells;obtain⟨A2,cap2,hv3,_⟩:=bytes_form h2.2.2;dsimp only at hv3 d0 d1 g0 g1;rw[HSZ.out] at hv3;have HP:=Lib.hid (h2.putSync (x.f.synced+m));have HV:=Lib.hid hv2;have HT:=Lib.hid ht2;subst hv3;clear hv2 ht2 h2 c0 c1 f0 f1 hcut hmin hmax;go_wp2;go_end0;exact⟨_,rfl,HP.out,HV.out,(Touch.trans (F:=[x.b]) (by first | exact Touch.refl _ _ | exact(Touch.refl _ _).drew) HT.out (fun y hy=>Or.inl hy)).setCell (p:=⟨x.b,1,none⟩) (Or.inl (List.mem_singleton.2 rfl)) _⟩
end Go.Proofs.YtokbfellcadkpaaGreat
namespace Go.Proofs.YtokbfellcadkpaaGreat
open Go.RowKit Go.Maps Go.Sort Go.Shelf
set_option linter.unusedVariables false
theorem sorts_both (m:Nat) : AnyZ.SortsIn Tryz.prog Tryz.sorted112_ren Fence.wide m :=
 ⟨fun blk off cap ss W hH hblk hsz=>callsIn_wide.2 (AnyM.slices_Sort_string Tryz.sort176 blk off cap ss W hH hblk hsz),fun p cap W=>callsIn_wide.2 (AnyM.slices_Sort_string_none Tryz.sort176 p cap W)⟩
theorem keys_run (mb:Nat)(w:World) : Calls Tryz.prog 113 #[.map (some mb)] w fun e w'=>e = .returned (.func (.func 177) #[] #[.pointer (some ⟨w.heap.size,0,none⟩)])∧w'=w.alloc (.cells #[.map (some mb)] 71) :=
 callsIn_wide.1 (AnyZ.keys_in Tryz.keys113 Fence.wide 5 trivial rfl (some mb) w)
set_option maxHeartbeats 1000000 in
theorem sorted_run (b nn:Nat)(D0:DataW Unit)(R:Value→Option (DataW Unit × List MemPlace))(w:World)(hown:w.ownsMap Tryz.prog 9 R b nn D0)(hmax:Maps.size D0≤maxLen)(hbytes:Maps.size D0*16≤140737488355328) :
  Calls Tryz.prog 112 #[.func (.func 177) #[] #[.pointer (some ⟨w.heap.size,0,none⟩)]] (w.alloc (.cells #[.map (some b)] 71)) fun e w'=>∃ (v:Value) (ss:List (List UInt8)),e = .returned v∧ss.Perm (strKeys D0) ∧
   w'.ownsRow (w.alloc (.cells #[.map (some b)] 71)).heap.size 9 1 v ss.length ((ss.mergeSort (fun x y=>decide (x≤y))).map encStr)∧Below (w.alloc (.cells #[.map (some b)] 71)).heap.size (w.alloc (.cells #[.map (some b)] 71)) w':=by
 have hbl:=hown.lt
 have hseq:SeqGives Fence.wide 2 Tryz.prog 177 #[.pointer (some ⟨w.heap.size,0,none⟩)] encStr (fun ss=>ss.Perm (strKeys D0)) (Maps.size D0) (w.alloc (.cells #[.map (some b)] 71)) :=
  AnyZ.keys_gives (ρ:=Tryz.keys113_ren) { Tryz.keys113 with } Fence.wide _ trivial rfl (by omega) w.heap.size b nn D0 _ (by simp) (by simp) (by
   obtain⟨es,clock,hb,Ft,hs,hD⟩:=hown;exact⟨es,clock,(Below.heap_alloc _ _ b hbl).trans hb,Ft,hs,hD⟩)
 have h:=AnyZ.sorted_in Tryz.sorted112 Fence.wide 5 trivial trivial trivial trivial rfl (by omega) (sorts_both _) (enters_of Tryz.func176 (by kernel_rfl) rfl) 177 #[.pointer (some ⟨w.heap.size,0,none⟩)] trivial (enters_of Tryz.func177 (by kernel_rfl) rfl) _ _ hmax hbytes _ hseq;refine(callsIn_wide.1 h).mono ?_;rintro e w' ⟨v,ss,h1,h2,h3,_,h4⟩;exact⟨v,ss,h1,h2,h3,h4⟩
section
variable {w : World} {base g mb : Nat} {vF : Value} {E : List Ent} {K : List Nat} {D : DiskS}
def NamesOut (w:World)(l:List FileS)(e:Ending)(w':World) : Prop:=∃ v,e = .returned v∧StrsAt w' v (l.map FileS.name)∧(∀ b,v.ownBlock=some b→w.heap.size≤b)∧Touch [] w w'
theorem strs_of_own {w:World}{base:Nat}{v:Value}{l:List ByteArray}(h:w.ownsRow base 9 1 v l.length (l.map Value.string)) : StrsAt w v l:=by
 rcases h.2 with⟨rfl,e⟩ | ⟨b,cap,cs,rfl,_,h2,h3,h4,_,h6⟩
 ·exact Or.inl ⟨List.eq_nil_of_length_eq_zero e,none,0,rfl⟩
 ·refine Or.inr ⟨b,0,cap,rfl,h3,h4, ?_,fun i x hx=>?_⟩
  ·rcases Nat.lt_or_ge b w.heap.size with c | c
   ·exact c
   ·rw[Array.getElem?_eq_none c] at h2;cases h2
  ·have hi:=(List.getElem?_eq_some_iff.1 hx).1;rw[Nat.zero_add,h.cellAt i (by omega),List.getElem?_map,hx];rfl
theorem nb_names (h:PAt w base g mb vF E K D) : (E.map Ent.nb).map (fun x=>x.1.data.toList)=D.l.map (fun f=>f.name.data.toList):=by
 rw[h.lst,List.map_map,List.map_map];rfl
set_option maxHeartbeats 1000000 in
theorem names_run (h:PAt w base g mb vF E K D)(hm:D.l.length≤400) : Calls Tryz.prog 48 #[ptr g] w (NamesOut w D.l):=by
 obtain⟨c0,c1,c2,c3,c4,c5,c6⟩:=h.cells;have hn:=Lib.hid (none_run c0);obtain⟨n,D0,ho,hi⟩:=h.map;have hnd:((E.map Ent.nb).map (fun x=>x.1.data.toList)).Nodup:=by rw[nb_names h];exact rise_names h.rise
 have hk:=hi.keys ho hnd;have hsz:=hi.size ho hnd;rw[nb_names h] at hk
 have hlen:Maps.size D0≤400:=by
  rw[hsz,List.length_map];have:=h.lst;rw[this,List.length_map] at hm;exact hm
 have hr:=h.rise;have HS:=Lib.hid (sorted_run mb n D0 entR w ho (by unfold maxLen;omega) (by omega));have HK:=Lib.hid (keys_run mb w)
 have hq:∀ (v:Value) (ss:List (List UInt8)) (w':World),ss.Perm (strKeys D0)→w'.ownsRow (w.alloc (.cells #[.map (some mb)] 71)).heap.size 9 1 v ss.length ((ss.mergeSort (fun x y=>decide (x≤y))).map encStr) →
   Below (w.alloc (.cells #[.map (some mb)] 71)).heap.size (w.alloc (.cells #[.map (some mb)] 71)) w'→NamesOut w D.l (.returned v) w':=by
  intro v ss w' hp hrow hb;have hpm:ss.Perm (D.l.map (fun f=>f.name.data.toList)):=hp.trans hk.symm;rw[sorted_names hr hpm] at hrow
  have e:(D.l.map (fun f=>f.name.data.toList)).map encStr=(D.l.map FileS.name).map Value.string:=by
   rw[List.map_map,List.map_map];apply List.map_congr_left;intro f _;show encStr f.name.data.toList = .string f.name;unfold encStr;simp
  rw[e,hpm.length_eq,List.length_map] at hrow;have hrow':w'.ownsRow (w.alloc (.cells #[.map (some mb)] 71)).heap.size 9 1 v (D.l.map FileS.name).length ((D.l.map FileS.name).map Value.string):=by rw[List.length_map];exact hrow
  refine⟨v,rfl,strs_of_own hrow',fun b hbb=>?_,(((Touch.refl [] w).alloc _).trans (Touch.of_below hb) (fun x hx=>by cases hx))⟩;have:=(hrow'.lt b hbb).1;have hs:(w.alloc (.cells #[.map (some mb)] 71)).heap.size=w.heap.size+1:=by simp
  omega
 have HQ:=Lib.hid hq;clear hq hnd hk hsz hlen hr h ho hi c0 c1 c3 c4 c5 c6 hm;go_enter Tryz.func48,Tryz.ntmps48;go_wp2_with fail;refine hn.out.mono ?_;rintro e w' ⟨rfl,rfl⟩;go_wp2_with fail;refine HK.out.mono ?_;rintro e w' ⟨rfl,rfl⟩;go_wp2_with fail;refine HS.out.mono ?_;rintro e w' ⟨v,ss,rfl,h1,h2,h3⟩;have H1:=Lib.hid (HQ.out v ss w' h1 h2 h3);clear h1 h2 h3 HS HK HQ;obtain⟨v',hv,_⟩:=H1.out;go_wp2;go_ret;exact H1.out
end
end Go.Proofs.YtokbfellcadkpaaGreat
namespace Go.Proofs.YtokbfellcadkpaaGreat
open Go.RowKit
set_option linter.unusedVariables false
theorem StrsAt.touch {F:List Nat}{w w':World}{v:Value}{l:List ByteArray}(h:StrsAt w v l)(ht:Touch F w w')(hF:∀ b,v.ownBlock=some b→b ∉ F) : StrsAt w' v l:=by
 rcases h with h | ⟨b,off,cap,rfl,h2,h3,h4,h5⟩
 ·exact Or.inl h
 ·exact Or.inr ⟨b,off,cap,rfl,h2,h3,Nat.lt_of_lt_of_le h4 ht.size,fun i x hx=>(ht.cell (p:=⟨b,off+i,none⟩) h4 (hF b rfl)).trans (h5 i x hx)⟩
theorem IntsIn.later {F:List Nat}{w w':World}{v:Value}{l:List Int}(h:IntsIn w v l)(ht:Touch F w w')(hF:l≠[]→∀ b,v.ownBlock=some b→b ∉ F) : IntsIn w' v l:=by
 by_cases e:l=[]
 ·subst e;rcases h with h | ⟨b,off,cap,rfl,_⟩
  ·exact Or.inl h
  ·exact Or.inl ⟨rfl,_,_,rfl⟩
 ·exact h.touch ht (hF e)
def FB (E:List Ent) : List Nat:=E.flatMap Ent.blocks
theorem mem_FB {E:List Ent}{b:Nat} : b∈FB E↔∃ x∈E,b∈x.blocks:=List.mem_flatMap
theorem FB_of {E E':List Ent}(h:E'.map Ent.blocks=E.map Ent.blocks) : FB E'=FB E:=by
 unfold FB;rw[List.flatMap_def,List.flatMap_def,h]
theorem fallK_zero (l:List FileS)(keep:List Int) : crashK l keep 0=l:=by
 unfold crashK;apply List.ext_getElem?;intro i;rw[List.getElem?_mapIdx];cases l[i]?<;>simp
theorem fallK_all (l:List FileS)(keep:List Int) : crashK l keep l.length=crashL l keep:=by
 unfold crashK crashL;apply List.ext_getElem?;intro i;rw[List.getElem?_mapIdx,List.getElem?_mapIdx];rcases Nat.lt_or_ge i l.length with c | c
 ·simp only[if_pos c]
 ·rw[List.getElem?_eq_none c];rfl
theorem fallK_next {l:List FileS}{keep:List Int}{k:Nat}{f:FileS}(h:l[k]? = some f) : (crashK l keep k).set k (crashF f (keep.getD k 0))=crashK l keep (k+1):=by
 have hk:=(List.getElem?_eq_some_iff.1 h).1;unfold crashK;apply List.ext_getElem?;intro i;rw[List.getElem?_set,List.getElem?_mapIdx,List.getElem?_mapIdx,List.length_mapIdx];by_cases e:k=i
 ·subst e;rw[if_pos rfl,if_pos hk,h,Option.map_some,if_pos (Nat.lt_succ_self _)]
 ·rw[if_neg e];cases l[i]? with
  | none=>rfl
  | some x =>
    rw[Option.map_some,Option.map_some];by_cases c:i<k
    ·rw[if_pos c,if_pos (by omega)]
    ·rw[if_neg c,if_neg (by omega)]
theorem fallK_at (l:List FileS)(keep:List Int)(k:Nat) : (crashK l keep k)[k]? = l[k]? := by
 unfold crashK;rw[List.getElem?_mapIdx];cases l[k]? with
 | none=>rfl
 | some x=>rw[Option.map_some,if_neg (Nat.lt_irrefl _)]
section
variable {w : World} {base g mb : Nat} {vF : Value} {E : List Ent} {K : List Nat} {D : DiskS}
def Falling (w:World)(base g mb:Nat)(vF:Value)(E:List Ent)(K:List Nat)(D:DiskS)(keep:List Int)(vN vK:Value)(k:Nat)(wr:World) : Prop :=
 ∃ E',PAt wr base g mb vF E' K { D with l:=crashK D.l keep k }∧E'.map Ent.blocks=E.map Ent.blocks∧Touch (FB E) w wr∧StrsAt wr vN (D.l.map FileS.name)∧IntsIn wr vK keep
theorem Falling.next {keep:List Int}{vN vK:Value}{k:Nat}{wr w2:World}(h:Falling w base g mb vF E K D keep vN vK k wr)(h0:PAt w base g mb vF E K D)(hN:∀ b,vN.ownBlock=some b→b ∉ FB E)(hV:keep≠[]→∀ b,vK.ownBlock=some b→b ∉ FB E)
  {E':List Ent} (hP:PAt wr base g mb vF E' K { D with l:=crashK D.l keep k }) (hE:E'.map Ent.blocks=E.map Ent.blocks) {x:Ent} {f:FileS} (hf:D.l[k]? = some f) (hx:E'[k]? = some x) (hxf:x.f=f) {e:Ending} (he:FileEnd base x wr (crashF x.f (keep.getD k 0)) e w2) :
  Falling w base g mb vF E K D keep vN vK (k+1) w2:=by
 obtain⟨v,_,h1,h2,h3⟩:=he;obtain⟨_,_,_,hT,hS,hI⟩:=h;have hxm:=List.mem_of_getElem? hx;have hbF:x.b∈FB E:=by rw[← FB_of hE];exact mem_FB.2 ⟨x,hxm,by simp[Ent.blocks]⟩
 have hsub:∀ b∈[x.b],b∈FB E:=fun b hb=>by rw[List.mem_singleton.1 hb];exact hbF
 refine⟨E'.set k ⟨crashF x.f (keep.getD k 0),x.b,v⟩, ?_, ?_,hT.trans h3 (fun b hb=>Or.inl (hsub b hb)),hS.touch h3 (fun b hb hm=>hN b hb (hsub b hm)),hI.later h3 (fun hne b hb hm=>hV hne b hb (hsub b hm))⟩
 ·have hp:=hP.putEnt hx ⟨crashF x.f (keep.getD k 0),x.b,v⟩ rfl rfl h3 (fun b hb=>by rw[List.mem_singleton.1 hb];simp[Ent.blocks]) h1 (fun b hb=>Or.inl (h2 ▸ hb));have hl:(crashK D.l keep k).set k (crashF x.f (keep.getD k 0))=crashK D.l keep (k+1):=fallK_next (by rw[hxf];exact hf);dsimp only at hp;rw[hl] at hp;exact hp
 ·rw[← hE,List.map_set];apply List.ext_getElem?;intro j;rw[List.getElem?_set];by_cases e:k=j
  ·subst e;have hkl:=(List.getElem?_eq_some_iff.1 hx).1;rw[if_pos rfl,if_pos (by simpa using hkl),List.getElem?_map,hx];show some (x.b::v.ownBlock.toList)=some (x.b::x.v.ownBlock.toList);rw[h2]
  ·rw[if_neg e]
def FallEnd (w:World)(base g mb:Nat)(E:List Ent)(D:DiskS)(e:Ending)(w':World) : Prop :=
 ∃ E',e = .returned (.tuple #[])∧PAt w' base g mb (.pointer none) E' [] D∧E'.map Ent.blocks=E.map Ent.blocks∧Touch (g::FB E) w w'
set_option maxRecDepth 100000 in
set_option maxHeartbeats 4000000 in
theorem fall_run (vK:Value)(keep:List Int)(h:PAt w base g mb vF E K D)(hok:ProgOk D)(hI:IntsIn w vK keep)(hV:keep≠[]→∀ b,vK.ownBlock=some b→b ∉ FB E) :
  Calls Tryz.prog 76 #[ptr g,vK] w (FallEnd w base g mb E (sinkS D keep)):=by
 have hnm:=Lib.hid (names_run h hok.many);have hlow:=h.low;obtain⟨A,off,cap,rfl,hkl0,-⟩:=hI.cell;have hkl:keep.length≤9223372036854775807:=by unfold maxLen at hkl0;omega
 have HH:=Lib.hid h;have HOK:=Lib.hid hok;have HI:=Lib.hid hI;have HV:=Lib.hid hV
 have HM:=Lib.hid (show ∀ f∈D.l,f.name.size≤maxLen from fun f hf=>by
  have:=h.names f hf;unfold nameB at this;simp only[Bool.and_eq_true,decide_eq_true_eq] at this;unfold maxLen;omega)
 have HL:=Lib.hid hlow;have hmany:=hok.many;clear h hok hI hV hlow hkl0;go_enter Tryz.func76,Tryz.ntmps76;go_wp2_with fail;refine hnm.out.mono ?_;rintro e w1 ⟨vN,rfl,hS,hnew,ht1⟩
 have hN:∀ b,vN.ownBlock=some b→b ∉ FB E:=fun b hb hm=>by
  have h1:=hnew b hb;have h2:=(HL.out b (mem_blocks.2 (Or.inr (Or.inr (Or.inr (mem_FB.1 hm)))))).2;omega
 obtain⟨A1,off1,cap1,rfl,-,-⟩:=hS.cell
 have hstart:Falling w base g mb vF E K D keep (.slice A1 (D.l.map FileS.name).length cap1) (.slice A keep.length cap) 0 w1 :=
  ⟨E,by rw[fallK_zero];exact HH.out.touch ht1 (fun _ _=>by simp),rfl,ht1.more (fun x hx=>by cases hx),hS,HI.out.touch ht1 (fun _ _=>by simp)⟩
 have HNN:=Lib.hid hN;have HST:=Lib.hid hstart;clear hS hnew ht1 hN hstart hnm;rw[List.length_map] at HST ⊢;go_wp2;go_loopw [10] (fun i wr=>∃ k:Nat,k≤D.l.length∧i = .int .i64 k∧Falling w base g mb vF E K D keep (.slice A1 D.l.length cap1) (.slice A keep.length cap) k wr) (fun i _=>D.l.length-(intOf i).toNat)
 case atStart=>exact⟨0,Nat.zero_le _,rfl,HST.out⟩
 case round =>
  obtain⟨k,hk,rfl,hF⟩:=hrel;have H:=Lib.hid hF;obtain⟨E',hP,hE,hT,hS,hI⟩:=hF;by_cases hlt:k<D.l.length
  ·obtain⟨f,hfk⟩:=some_at hlt;have hx':(crashK D.l keep k)[k]? = some f:=by rw[fallK_at];exact hfk
   rw[show crashK D.l keep k=_ from hP.lst,List.getElem?_map] at hx'
   obtain⟨x,hx,hxf⟩:∃ x,E'[k]? = some x∧x.f=f:=by
    cases hh:E'[k]? with
    | none=>rw[hh] at hx';cases hx'
    | some x=>rw[hh] at hx';exact⟨x,rfl,by simpa using hx'⟩
   have hX:=hP.ents x (List.mem_of_getElem? hx);have hsz:=HOK.out.sizes f (List.mem_of_getElem? hfk);have hnm2:=HM.out f (List.mem_of_getElem? hfk);have hlook:=hP.map.look (m:=f.name) hnm2 (b:=x.b) (List.mem_map.2 ⟨x,List.mem_of_getElem? hx,by unfold Ent.nb;rw[hxf]⟩);obtain⟨c0,c1,c2,c3,c4,c5,c6⟩:=hP.cells;obtain⟨A2,o1,c2',hv1,-,hv2⟩:=hS.cell;obtain⟨hA,-,-⟩:=Value.slice.inj hv1;subst hA;clear hv1;obtain⟨b,rfl,hb2⟩:=hv2 k f.name (by rw[List.getElem?_map,hfk];rfl);have hcall:=Lib.hid (fall_file hX (keep.getD k 0) (by rw[hxf];exact hsz.1) (by rw[hxf];exact hsz.2));have HNX:=Lib.hid (fun w2 e (he:FileEnd base x wr (crashF x.f (keep.getD k 0)) e w2)=>H.out.next HH.out HNN.out HV.out hP hE hfk hx hxf he);have l1:(k:Int)<(D.l.length:Int):=by omega
   have hkeep:(k<keep.length∧∃ (kb ko:Nat) (y:Int),A=some ⟨kb,ko,none⟩∧wr.cell? ⟨kb,ko+k,none⟩=some (.int .i64 y)∧keep.getD k 0=y)∨(keep.length≤k∧keep.getD k 0=0):=by
    rcases Nat.lt_or_ge k keep.length with c | c
    ·refine Or.inl ⟨c, ?_⟩;rcases hI with⟨e,_⟩ | ⟨kb,off',cap',e,_,_,_,hc⟩
     ·rw[e] at c;exact absurd c (Nat.not_lt_zero k)
     ·refine⟨kb,off',keep[k],(Value.slice.inj e).1,hc k _ (List.getElem?_eq_getElem c), ?_⟩;rw[List.getD_eq_getElem?_getD,List.getElem?_eq_getElem c];rfl
    ·exact Or.inr ⟨c,by rw[List.getD_eq_getElem?_getD,List.getElem?_eq_none c];rfl⟩
   clear hx' hX hsz hnm2 hP hE hT hS hI hv2 H hfk hx hxf c0 c1 c3 c4 c5 c6 HST;rcases hkeep with⟨q1,kb,ko,y,rfl,q2,q3⟩ | ⟨q1,q3⟩
   all_goals
    rw[q3] at hcall HNX;have H3:=Lib.hid q3;clear q3
   ·have q4:(k:Int)<(keep.length:Int):=by omega
    go_wp2_with fail;refine hcall.out.mono ?_;rintro e w2 he;have HE:=Lib.hid (HNX.out w2 e he);obtain⟨v2,rfl,_⟩:=he;clear hcall HNX;go_wp2;go_roundw
    case rel=>exact⟨k+1,by omega,by go_num,HE.out⟩
    case measure=>simp[intOf];omega
   ·have q4:decide ((k:Int)<(keep.length:Int))=false:=decide_eq_false (by omega);go_wp2_with fail;refine hcall.out.mono ?_;rintro e w2 he;have HE:=Lib.hid (HNX.out w2 e he);obtain⟨v2,rfl,_⟩:=he;clear hcall HNX;go_wp2;go_roundw
    case rel=>exact⟨k+1,by omega,by go_num,HE.out⟩
    case measure=>simp[intOf];omega
  ·obtain rfl:k=D.l.length:=by omega
   rw[fallK_all] at hP;obtain⟨c0,c1,c2,c3,c4,c5,c6⟩:=hP.cells;have f3:=hP.disk.frozen 3;have f6:=hP.disk.frozen 6;have HP:=Lib.hid ((hP.putDown true).putNoFail []);have c6':=((hP.putDown true).cells).2.2.2.2.2.2;have f6':=(hP.putDown true).disk.frozen 6;have HE:=Lib.hid hE;have HT:=Lib.hid hT;clear hS hI hT hE hP c0 c1 c2 c4 c5 H HST;go_wp2;go_end0;refine⟨E',rfl,HP.out,HE.out, ?_⟩;have hsub:∀ x∈FB E,x∈g::FB E∨w.heap.size≤x:=fun x hx=>Or.inl (List.mem_cons_of_mem _ hx)
   exact((HT.out.more hsub).setCell (p:=⟨g,3,none⟩) (Or.inl (by simp)) _).setCell (p:=⟨g,6,none⟩) (Or.inl (by simp)) _
end
end Go.Proofs.YtokbfellcadkpaaGreat
namespace Go.Proofs.YtokbfellcadkpaaGreat
open Go.RowKit
set_option linter.unusedVariables false
theorem sink_take (D:DiskS)(keep:List Int)(h:D.l.length≤400) : sinkS D (keep.take 400)=sinkS D keep:=by
 unfold sinkS
 have e:crashL D.l (keep.take 400)=crashL D.l keep:=by
  unfold crashL;apply List.ext_getElem?;intro i;rw[List.getElem?_mapIdx,List.getElem?_mapIdx];rcases Nat.lt_or_ge i D.l.length with c | c
  ·have:(keep.take 400).getD i 0=keep.getD i 0:=by
    rw[List.getD_eq_getElem?_getD,List.getD_eq_getElem?_getD,List.getElem?_take,if_pos (by omega)]
   rw[this]
  ·rw[List.getElem?_eq_none c];rfl
 rw[e]
theorem KeepAt.ints {w:World}{base:Nat}{v:Value}{l:List Int}{K:List Nat}(h:KeepAt w base v l K) : IntsIn w v l∧(l≠[]→∀ b,v.ownBlock=some b→b∈K):=by
 rcases h with⟨rfl,rfl,a,c,rfl⟩ | ⟨h,rfl⟩
 ·exact⟨Or.inl ⟨rfl,a,c,rfl⟩,fun h=>absurd rfl h⟩
 ·exact⟨(IntsAt.of_own h).in_,fun _ b hb=>by simp[hb]⟩
section
variable {w : World} {base g mb : Nat} {vF : Value} {E : List Ent} {K : List Nat} {D : DiskS}
theorem PAt.files_far (h:PAt w base g mb vF E K D) : ∀ b∈K,b ∉ FB E:=fun b hb hm=>by
 obtain⟨x,hx,hbx⟩:=mem_FB.1 hm;exact(h.ents x hx).ne_fail h.fail b hbx hb
def GoesEnd (w:World)(base g mb:Nat)(vF:Value)(E:List Ent)(K:List Nat)(D:DiskS)(e:Ending)(w':World) : Prop :=
 e = .returned (.bool false)∧PAt w' base g mb vF E K (nextS D)∧Touch K w w'
def SunkEnd (w:World)(base g mb:Nat)(E:List Ent)(D:DiskS)(e:Ending)(w':World) : Prop :=
 ∃ E',e = .returned (.bool true)∧PAt w' base g mb (.pointer none) E' [] D∧E'.map Ent.blocks=E.map Ent.blocks∧Touch (g::FB E) w w'
set_option maxRecDepth 100000 in
set_option maxHeartbeats 2000000 in
theorem fails_goes (h:PAt w base g mb vF E K D)(hg:goesS D=true) : Calls Tryz.prog 119 #[ptr g] w (GoesEnd w base g mb vF E K D):=by
 obtain⟨c0,c1,c2,c3,c4,c5,c6⟩:=h.cells;have HH:=Lib.hid h;rcases h.fail with⟨e,rfl,rfl⟩ | ⟨b,n,vk,K',rfl,e,hn,hb,hbb,hk,rfl⟩
 ·have HN:=Lib.hid (show nextS D=D by unfold nextS;rw[show D.fails-1=D.fails by omega]);clear h hg e c0 c1 c2 c3 c4 c5;go_enter Tryz.func119,Tryz.ntmps119;go_wp2;go_ret;exact⟨rfl,by rw[HN.out];exact HH.out,Touch.refl _ _⟩
 ·have hn0:n≠0:=fun e0=>by
   unfold goesS at hg;rw[e,e0] at hg;simp at hg
  obtain⟨m,rfl⟩:∃ m,n=m+1:=⟨n-1,by omega⟩
  have d0:w.cell? ⟨b,0,none⟩=some (.int .i64 ((m:Int)+1)):=hb.cell 0;have g0:=hb.frozen 0;have hT:∀ u,Touch [b] w (w.setCell ⟨b,0,none⟩ u):=fun u=>(Touch.refl _ w).setCell (p:=⟨b,0,none⟩) (Or.inl (List.mem_singleton.2 rfl)) u
  have hne:g≠b:=h.disk.type_ne hb (by decide)
  have hp:PAt (w.setCell ⟨b,0,none⟩ (.int .i64 (m:Nat))) base g mb (ptr b) E (b::K') (nextS D):=by
   refine h.putDisk (G:=[b]) (D':=nextS D) rfl (h.disk.touch (hT _) (by simpa using hne)) (hT _) (fun x hx=>Or.inr (by rw[List.mem_singleton.1 hx];simp)) (Or.inr ⟨b,m,vk,K',rfl, ?_,by omega,hb.put 0 _,hbb,hk.touch (hT _) (fun x hx hm=>?_),rfl⟩)
   ·show D.fails-1=m+1;omega
   ·rw[List.mem_singleton.1 hm] at hx;exact hk.ne hb (by decide) hx
  have HP:=Lib.hid hp;have HT:=Lib.hid (hT (.int .i64 (m:Nat)));have q1:(0:Int)<(m:Int)+1:=by omega
  have q2:(m:Int)+1≤9223372036854775807:=by omega
  have q3:(m:Int)+1-1=(m:Int):=by omega
  clear h hg e c0 c1 c2 c3 c4 c5 hp hT hb hk hn hn0 hne;go_enter Tryz.func119,Tryz.ntmps119;go_wp2;go_ret;exact⟨rfl,HP.out,HT.out.more (fun x hx=>Or.inl (by rw[List.mem_singleton.1 hx];simp))⟩
set_option maxRecDepth 100000 in
set_option maxHeartbeats 2000000 in
theorem fails_sinks (h:PAt w base g mb vF E K D)(hok:ProgOk D)(hg:goesS D=false) : Calls Tryz.prog 119 #[ptr g] w (SunkEnd w base g mb E (sinkS D D.keep)):=by
 obtain⟨c0,c1,c2,c3,c4,c5,c6⟩:=h.cells;rcases h.fail with⟨e,rfl,rfl⟩ | ⟨b,n,vk,K',rfl,e,hn,hb,hbb,hk,rfl⟩
 ·unfold goesS at hg;rw[e] at hg;simp at hg
 ·obtain rfl:n=0:=by
   unfold goesS at hg;simp at hg;omega
  have hi:=hk.ints;have d0:w.cell? ⟨b,0,none⟩=some (.int .i64 0):=hb.cell 0;have d1:w.cell? ⟨b,1,none⟩=some vk:=hb.cell 1;have hfall:=fall_run vk (D.keep.take 400) h hok hi.1 (fun hne x hx=>h.files_far x (List.mem_cons_of_mem _ (hi.2 hne x hx)));rw[sink_take D D.keep hok.many] at hfall;have HF:=Lib.hid hfall;obtain⟨A,off,cap,rfl,-⟩:=hi.1.cell;generalize (D.keep.take 400).length=kl at *;clear h hg e c0 c1 c2 c3 c4 c5 hb hk hn hfall hok hi hbb;go_enter Tryz.func119,Tryz.ntmps119;go_wp2_with fail;refine HF.out.mono ?_;rintro e w2 ⟨E',rfl,h1,h2,h3⟩;have H1:=Lib.hid h1;have H2:=Lib.hid h2;have H3:=Lib.hid h3;clear h1 h2 h3 HF;go_wp2;go_ret;exact⟨E',rfl,H1.out,H2.out,H3.out⟩
end
end Go.Proofs.YtokbfellcadkpaaGreat
namespace Go.Proofs.YtokbfellcadkpaaGreat
open Go.RowKit
set_option linter.unusedVariables false
set_option maxRecDepth 100000
def Says (f:FuncId)(args:Array Value)(w:World)(v:Value) : Prop:=Calls Tryz.prog f args w fun e w'=>e = .returned v∧w=w'
section
variable {w : World} {p : Value}
theorem ready_nil (hn:Says 79 #[p] w (.bool true))  : Says 75 #[p] w (.int .i64 1):=by
 have k0:=Lib.hid (hn);clear hn;unfold Says at *;go_enter Tryz.func75,Tryz.ntmps75;go_wp2_with fail;refine k0.out.mono ?_;rintro e w' ⟨rfl,rfl⟩;go_wp2;go_ret;exact⟨rfl,rfl⟩
theorem open_nil (hn:Says 79 #[p] w (.bool true))(n:ByteArray) : Says 115 #[p,.string n] w (.tuple #[.pointer none,.int .i64 1]):=by
 have k0:=Lib.hid (ready_nil hn);clear hn;unfold Says at *;go_enter Tryz.func115,Tryz.ntmps115;go_wp2_with fail;refine k0.out.mono ?_;rintro e w' ⟨rfl,rfl⟩;go_wp2;go_ret2;exact⟨rfl,rfl⟩
theorem size_nil (hn:Says 79 #[p] w (.bool true))(n:ByteArray) : Says 50 #[p,.string n] w (.tuple #[.int .i64 0,.int .i64 1]):=by
 have k0:=Lib.hid (open_nil hn n);clear hn;unfold Says at *;go_enter Tryz.func50,Tryz.ntmps50;go_wp2_with fail;refine k0.out.mono ?_;rintro e w' ⟨rfl,rfl⟩;go_wp2;go_ret2;exact⟨rfl,rfl⟩
theorem delete_nil (hn:Says 79 #[p] w (.bool true))(n:ByteArray) : Says 54 #[p,.string n] w (.int .i64 1):=by
 have k0:=Lib.hid (open_nil hn n);clear hn;unfold Says at *;go_enter Tryz.func54,Tryz.ntmps54;go_wp2_with fail;refine k0.out.mono ?_;rintro e w' ⟨rfl,rfl⟩;go_wp2;go_ret;exact⟨rfl,rfl⟩
theorem names_nil (hn:Says 79 #[p] w (.bool true))  : Says 48 #[p] w (.slice none 0 0):=by
 have k0:=Lib.hid (hn);clear hn;unfold Says at *;go_enter Tryz.func48,Tryz.ntmps48;go_wp2_with fail;refine k0.out.mono ?_;rintro e w' ⟨rfl,rfl⟩;go_wp2;go_ret;exact⟨rfl,rfl⟩
end
end Go.Proofs.YtokbfellcadkpaaGreat
namespace Go.Proofs.YtokbfellcadkpaaGreat
open Go.RowKit
set_option linter.unusedVariables false
set_option maxRecDepth 100000
section
variable {w w1 w' : World} {base g mb : Nat} {vF : Value} {E E' : List Ent} {K : List Nat} {D D' : DiskS}
theorem blocks_sub (h:E'.map Ent.blocks=E.map Ent.blocks) : ∀ x∈blocksP g mb E' [],x∈blocksP g mb E K:=by
 intro x hx;rcases mem_blocks.1 hx with e | e | e | e
 ·exact mem_blocks.2 (Or.inl e)
 ·exact mem_blocks.2 (Or.inr (Or.inl e))
 ·cases e
 ·refine mem_blocks.2 (Or.inr (Or.inr (Or.inr ?_)));have:x∈FB E':=mem_FB.2 e;rw[FB_of h] at this;exact mem_FB.1 this
theorem mem_g : g∈blocksP g mb E K:=mem_blocks.2 (Or.inl rfl)
theorem mem_mb : mb∈blocksP g mb E K:=mem_blocks.2 (Or.inr (Or.inl rfl))
theorem mem_K {b:Nat}(h:b∈K) : b∈blocksP g mb E K:=mem_blocks.2 (Or.inr (Or.inr (Or.inl h)))
theorem mem_E {b:Nat}{x:Ent}(hx:x∈E)(h:b∈x.blocks) : b∈blocksP g mb E K:=mem_blocks.2 (Or.inr (Or.inr (Or.inr ⟨x,hx,h⟩)))
theorem fall_far : ∀ x∈g::FB E,x∈blocksP g mb E K:=by
 intro x hx;rcases List.mem_cons.1 hx with rfl | hx
 ·exact mem_g
 ·obtain⟨y,hy,hb⟩:=mem_FB.1 hx;exact mem_E hy hb
theorem end_same (h:PAt w base g mb vF E K D)(v:Value) : EndAt ProgAt base g (blocksP g mb E K) w v D (.returned v) w:=⟨_,rfl,h.at,fun _ hx=>Or.inl hx,Touch.refl _ _⟩
theorem end_put (h:PAt w' base g mb vF E K D')(ht:Touch (blocksP g mb E K) w w')(v:Value) : EndAt ProgAt base g (blocksP g mb E K) w v D' (.returned v) w':=⟨_,rfl,h.at,fun _ hx=>Or.inl hx,ht⟩
theorem end_sunk {vF':Value}(h:PAt w' base g mb vF' E' [] D')(he:E'.map Ent.blocks=E.map Ent.blocks)(ht:Touch (g::FB E) w w')(v:Value) : EndAt ProgAt base g (blocksP g mb E K) w v D' (.returned v) w' :=
 ⟨_,rfl,h.at,fun x hx=>Or.inl (blocks_sub he x hx),ht.more (fun x hx=>Or.inl (fall_far x hx))⟩
theorem EndAt.after {F G:List Nat}{v:Value}{e:Ending}(h:EndAt ProgAt base g G w1 v D' e w')(ht:Touch F w w1)(hG:∀ x∈G,x∈F∨w.heap.size≤x) : EndAt ProgAt base g F w v D' e w':=by
 obtain⟨F',h1,h2,h3,h4⟩:=h;refine⟨F',h1,h2,fun x hx=>?_,ht.trans h4 hG⟩;rcases h3 x hx with h | h
 ·exact hG x h
 ·exact Or.inr (by have:=ht.size;omega)
theorem up_run (h:PAt w base g mb vF E K D) : Calls Tryz.prog 116 #[ptr g] w fun e w'=>e = .returned (.bool (!D.down))∧w=w':=by
 obtain⟨c0,c1,c2,c3,c4,c5,c6⟩:=h.cells;have hn:=Lib.hid (none_run c0);cases hd:D.down
 all_goals
  rw[hd] at c3;clear hd h c1 c2 c4 c5 c6 c0;go_enter Tryz.func116,Tryz.ntmps116;go_wp2_with fail;refine hn.out.mono ?_;rintro e w' ⟨rfl,rfl⟩;go_wp2;go_ret;exact⟨rfl,rfl⟩
theorem starts_run (h:PAt w base g mb vF E K D) : Calls Tryz.prog 23 #[ptr g] w fun e w'=>e = .returned (.int .i64 (D.starts:Nat))∧w=w':=by
 obtain⟨c0,c1,c2,c3,c4,c5,c6⟩:=h.cells;have hn:=Lib.hid (none_run c0);clear h c1 c2 c3 c4 c6 c0;go_enter Tryz.func23,Tryz.ntmps23;go_wp2_with fail;refine hn.out.mono ?_;rintro e w' ⟨rfl,rfl⟩;go_wp2;go_ret;exact⟨rfl,rfl⟩
theorem size_run (h:PAt w base g mb vF E K D)(hok:ProgOk D)(n:ByteArray)(hn:n.size≤maxLen) : Calls Tryz.prog 50 #[ptr g,.string n] w fun e w'=>e = .returned (.tuple #[.int .i64 ((sizeS D n).1:Nat),err (sizeS D n).2])∧w=w':=by
 unfold sizeS;cases hd:D.down
 ·by_cases hf:findS D.l n<D.l.length
  ·obtain⟨x,hx,hl,hxn⟩:=ent_at h hf;rw[hl];dsimp only[Bool.false_eq_true,if_false];have ho:=Lib.hid (open_yes h hd hx (by rw[hxn];exact hn));rw[hxn] at ho;have hX:=h.ents x (List.mem_of_getElem? hx);obtain⟨d0,_,_,_⟩:=hX.cells;obtain⟨A,cap,hv,n1,n2,_⟩:=bytes_form hX.2.2;rw[hv] at d0;have hz:=(hok.sizes x.f (List.mem_of_getElem? hl)).2;clear h hok hx hl hxn hX hv hf hd n1 n2;generalize x.f.data.size=m at *;generalize x.b=b at *;go_enter Tryz.func50,Tryz.ntmps50;go_wp2_with fail;refine ho.out.mono ?_;rintro e w' ⟨rfl,rfl⟩;go_wp2;go_ret2;exact⟨rfl,rfl⟩
  ·have ho:=Lib.hid (open_no h hd hf hn);rw[none_at hf];clear h hok hf hd;go_enter Tryz.func50,Tryz.ntmps50;go_wp2_with fail;refine ho.out.mono ?_;rintro e w' ⟨rfl,rfl⟩;go_wp2;go_ret2;exact⟨rfl,rfl⟩
 ·have ho:=Lib.hid (open_down h hd n);clear h hok hd;go_enter Tryz.func50,Tryz.ntmps50;go_wp2_with fail;refine ho.out.mono ?_;rintro e w' ⟨rfl,rfl⟩;go_wp2;go_ret2;exact⟨rfl,rfl⟩
theorem crash_run (vK:Value)(keep:List Int)(h:PAt w base g mb vF E K D)(hok:ProgOk D)(hI:IntsIn w vK keep)(hV:∀ b,vK.ownBlock=some b→b ∉ blocksP g mb E K) :
  Calls Tryz.prog 20 #[ptr g,vK] w (EndAt ProgAt base g (blocksP g mb E K) w (err (crashS D keep).1) (crashS D keep).2):=by
 have hr:=Lib.hid (ready_run h);have HH:=Lib.hid h;have HF:=Lib.hid (fall_run vK keep h hok hI (fun _ b hb hm=>hV b hb (fall_far b (List.mem_cons_of_mem _ hm))));obtain⟨A,off,cap,rfl,-⟩:=hI.cell;generalize keep.length=kl at *;unfold readyR at hr;unfold crashS;cases hd:D.down
 ·rw[hd] at hr;clear hd h hok hI hV;go_enter Tryz.func20,Tryz.ntmps20;go_wp2_with fail;refine hr.out.mono ?_;rintro e w' ⟨rfl,rfl⟩;go_wp2_with fail;refine HF.out.mono ?_;rintro e w2 ⟨E2,rfl,h1,h2,h3⟩;have H1:=Lib.hid h1;have H2:=Lib.hid h2;have H3:=Lib.hid h3;clear h1 h2 h3 HF;go_wp2;go_ret;exact end_sunk H1.out H2.out H3.out _
 ·rw[hd] at hr;clear hd h hok hI hV HF;go_enter Tryz.func20,Tryz.ntmps20;go_wp2_with fail;refine hr.out.mono ?_;rintro e w' ⟨rfl,rfl⟩;go_wp2;go_ret;exact end_same HH.out _
end
end Go.Proofs.YtokbfellcadkpaaGreat
namespace Go.Proofs.YtokbfellcadkpaaGreat
open Go.RowKit Go.Maps
set_option linter.unusedVariables false
def doneSum (E:List Ent)(left:Lit→Bool) : Nat:=(E.map (fun x=>if left (keyL x.f.name) then 0 else x.f.data.size)).sum
theorem doneSum_cons (x:Ent)(E:List Ent)(left:Lit→Bool) : doneSum (x::E) left=(if left (keyL x.f.name) then 0 else x.f.data.size)+doneSum E left:=by unfold doneSum;rw[List.map_cons,List.sum_cons]
theorem doneSum_start {E:List Ent}{left:Lit→Bool}(h:∀ x∈E,left (keyL x.f.name)=true) : doneSum E left=0:=by
 induction E with
 | nil=>rfl
 | cons x E ih =>
   rw[doneSum_cons,if_pos (h x (by simp)),ih (fun y hy=>h y (by simp[hy]))]
theorem doneSum_all {E:List Ent}{left:Lit→Bool}(h:∀ kl,left kl=false) : doneSum E left=usedS (E.map Ent.f):=by
 induction E with
 | nil=>rfl
 | cons x E ih =>
   rw[doneSum_cons,h,ih,List.map_cons,used_cons];rfl
theorem doneSum_same {E:List Ent}{l1 l2:Lit→Bool}(h:∀ x∈E,l1 (keyL x.f.name)=l2 (keyL x.f.name)) : doneSum E l1=doneSum E l2:=by
 unfold doneSum;congr 1;apply List.map_congr_left;intro x hx;rw[h x hx]
theorem doneSum_le (E:List Ent)(left:Lit→Bool) : doneSum E left≤usedS (E.map Ent.f):=by
 induction E with
 | nil=>exact Nat.le_refl _
 | cons x E ih =>
   rw[doneSum_cons,List.map_cons,used_cons];have:(if left (keyL x.f.name) then 0 else x.f.data.size)≤x.f.data.size:=by split<;>omega
   omega
theorem doneSum_step {E:List Ent}(hp:E.Pairwise (fun x y=>x.f.name≠y.f.name)){left:Lit→Bool}{x:Ent}(hx:x∈E)(hl:left (keyL x.f.name)=true) : doneSum E (fun z=>left z&&!z.sameKey (keyL x.f.name))=doneSum E left+x.f.data.size:=by
 induction E with
 | nil=>cases hx
 | cons y E ih =>
   obtain⟨h1,h2⟩:=List.pairwise_cons.1 hp;rw[doneSum_cons,doneSum_cons];have hself:(keyL x.f.name).sameKey (keyL x.f.name)=true:=WideAt.sameKey_self (keyL_is _);rcases List.mem_cons.1 hx with rfl | hx
   ·rw[hl,hself]
    have hs:doneSum E (fun z=>left z&&!z.sameKey (keyL x.f.name))=doneSum E left:=doneSum_same (fun y hy=>by
     rw[sameKey_ne (fun e=>h1 y hy (keyL_inj e).symm)];simp)
    rw[hs];show x.f.data.size+doneSum E left=0+doneSum E left+x.f.data.size;omega
   ·rw[ih h2 hx,sameKey_ne (fun e=>h1 x hx (keyL_inj e))];simp only[Bool.not_false,Bool.and_true];omega
def optP : Option Nat→Value
 | none=>.pointer none
 | some b=>.pointer (some ⟨b,0,none⟩)
theorem inv_key (key:Value)(kl:Lit)(h:keyOf Tryz.prog 9 key=some kl) : ∃ x:List UInt8,key=encStr x:=by
 obtain⟨x,hx,_⟩:=Maps.keyOf_str Tryz.underlying9 h;exact⟨x,hx⟩
theorem inv_ent (v:Value)(y:DataW Unit × List MemPlace)(h:entR v=some y) : ∃ c,v=optP c:=by
 rcases entR_inv h with⟨rfl,_⟩ | ⟨b,rfl,_⟩
 ·exact⟨none,rfl⟩
 ·exact⟨some b,rfl⟩
section
variable {w : World} {base g mb : Nat} {vF : Value} {E : List Ent} {K : List Nat} {D : DiskS}
theorem key_ent {D0:DataW Unit}(hi:MapIs D0 (E.map Ent.nb)){x:List UInt8}{kl:Lit}(hk:keyOf Tryz.prog 9 (encStr x)=some kl){c:Option Nat}{y:DataW Unit × List MemPlace}(hc:entR (optP c)=some y)(hat:∀ zd,D0.atKey kl zd=y.1) :
  ∃ z∈E,kl=keyL z.f.name∧c=some z.b:=by
 obtain⟨x',_,rfl,_⟩:=Maps.keyOf_str Tryz.underlying9 hk;have hh:=Maps.has_true_of_atKey hat;have e:(Lit.string x')=keyL ⟨x'.toArray⟩:=by unfold keyL;simp
 rw[e] at hh hat ⊢;obtain⟨p,hp,hn⟩:=hi.mem hh;obtain⟨z,hz,rfl⟩:=List.mem_map.1 hp;have hn':z.f.name=⟨x'.toArray⟩:=hn;refine⟨z,hz,by rw[hn'], ?_⟩;have h1:=hi.yes _ hp .nil;have h2:=hat .nil;rw[← hn'] at h2;have h3:y.1 = .lit (.int .i64 (z.b:Int)):=h2.symm.trans h1;rcases entR_inv hc with⟨e1,h4⟩ | ⟨b,e1,h4⟩
 ·rw[h4] at h3;simp only[DataW.lit.injEq,Lit.int.injEq,true_and] at h3;omega
 ·rw[h4] at h3;simp only[DataW.lit.injEq,Lit.int.injEq,true_and] at h3;have hb:b=z.b:=by omega
  cases c with
  | none=>cases (show Value.pointer none = .pointer (some ⟨b,0,none⟩) from e1)
  | some b' =>
    have e2:Value.pointer (some ⟨b',0,none⟩) = .pointer (some ⟨b,0,none⟩):=e1;simp only[Value.pointer.injEq,Option.some.injEq,Addr.mk.injEq,and_true] at e2;rw[e2,hb]
def FreeOut (w:World)(D:DiskS)(e:Ending)(w':World) : Prop:=e = .returned (.int .i64 ((D.cap:Int)-(usedS D.l:Nat)))∧Touch [] w w'
set_option maxRecDepth 100000 in
set_option maxHeartbeats 4000000 in
theorem free_run (h:PAt w base g mb vF E K D)(hok:ProgOk D) : Calls Tryz.prog 162 #[ptr g] w (FreeOut w D):=by
 obtain⟨c0,c1,c2,c3,c4,c5,c6⟩:=h.cells;have hn:=Lib.hid (none_run c0);obtain⟨n,D0,ho,hi⟩:=h.map
 have hpw:E.Pairwise (fun x y=>x.f.name≠y.f.name):=by
  have:=rise_names_ne h.rise;rw[h.lst] at this;exact(List.pairwise_map (f:=Ent.f) (R:=fun x y=>x.name≠y.name)).1 this
 have hu:usedS (E.map Ent.f)≤1048576:=by rw[← h.lst];exact hok.used
 have hcap:=hok.cap;have hlst:=h.lst;have HE:=Lib.hid h.ents;have HI:=Lib.hid hi;have HPW:=Lib.hid hpw;have HU:=Lib.hid hu;have HLST:=Lib.hid hlst;have HCAP:=Lib.hid hcap;have HST:=Lib.hid (doneSum_start (E:=E) (left:=Maps.has D0) (fun x hx=>hi.has (List.mem_map.2 ⟨x,hx,rfl⟩)));have mlt:=ho.lt;clear h hok hi hpw hu hcap hlst c0 c3 c4 c5 c6;go_enter Tryz.func162,Tryz.ntmps162;go_wp2_with fail;refine hn.out.mono ?_;rintro e w' ⟨rfl,rfl⟩
 go_wp2_with (first
  | (at_range;refine wpList_range_own _ rfl _ 71 rfl 9 172 keysD Tryz.underlying71 entR mb n D0 rfl ho ?_;intro w0 hrg0 hg0 hs0)
  | go_in)
 go_frame
 go_loopw [3] (fun v wr=>∃ (left:Lit→Bool) (cnt:Nat),wr.ranges Tryz.prog 9 entR mb w.heap.size n D0 left cnt∧Touch [] w wr∧v = .int .i64 ((D.cap:Int)-(doneSum E left:Nat)))
  (fun _ wr=>wr.rangeLeft mb w.heap.size)
 case atStart=>exact⟨_,_,hrg0,(Touch.refl [] w).grown hg0 (fun k hk=>by cases hk),by rw[HST.out];simp⟩
 case round =>
  obtain⟨left,cnt,hrg,hT,rfl⟩:=hrel;have b1:=doneSum_le E left;have b0:=HU.out;have b2:-1048576≤(D.cap:Int)-(doneSum E left:Nat):=by omega
  have b3:(D.cap:Int)-(doneSum E left:Nat)≤1048576:=by have:=HCAP.out;omega
  have HT:=Lib.hid hT;have HB:=Lib.hid b1;clear hT b1 b0
  go_wp2_with (first
   | (at_next;refine wpList_next_ranges _ rfl _ rfl 9 keysD entR encStr optP inv_key inv_ent mb w.heap.size n D0 left cnt rfl hrg ?_ ?_)
   | go_in)
  ·intro _ hl0;have he:=Lib.hid (doneSum_all (E:=E) hl0);rw[← HLST.out] at he;generalize doneSum E left=s at *;clear hrg hl0;go_wp2;go_ret;exact⟨by rw[he.out];rfl,HT.out⟩
  ·intro x c kl y1 y2 w1 cnt1 hwx hlx hwc hat hrg1 hlt hg1 hs1 hen;obtain⟨z,hz,rfl,rfl⟩:=key_ent (y:=(y1,y2)) HI.out hwx hwc hat;have ht1:Touch [] w w1:=(HT.out).grown hg1 (fun k hk=>by injection hk with hk;exact Or.inr (Nat.le_of_eq hk));have hZ:=(HE.out z hz).touch ht1 (fun b _=>by simp);obtain⟨d0,_,_,_⟩:=hZ.cells;obtain⟨A,cap,hv,-,-,-⟩:=bytes_form hZ.2.2;rw[hv] at d0;have hst:=doneSum_step HPW.out hz hlx;have hle:=doneSum_le E (fun z'=>left z'&&!z'.sameKey (keyL z.f.name));have hzb:(z.f.data.size:Int)≤1048576:=by have:=HU.out;omega
   have hm2:=Lib.hid (hrg1.left_eq);have hm1:=Lib.hid (hrg.left_eq);have HT1:=Lib.hid ht1;have HR1:=Lib.hid hrg1;have HS:=Lib.hid hst;have b4:-1048576≤(D.cap:Int)-(doneSum E left:Nat)-(z.f.data.size:Nat):=by have:=HU.out;omega
   clear hat hrg1 hg1 hs1 hrg hZ hv hst hle hwx hlx hwc ht1 hz;have hlt2:=Lib.hid hlt;clear hlt;generalize z.f.data.size=zs at *;generalize doneSum E left=s at *;generalize z.b=zb at *;dsimp only[optP] at hen ⊢;go_wp2;go_roundw
   case rel=>exact⟨_,_,HR1.out,HT1.out,by rw[HS.out];exact val_int (by omega)⟩
   case measure=>rw[hm2.out,hm1.out];exact hlt2.out
end
end Go.Proofs.YtokbfellcadkpaaGreat
namespace Go.Proofs.YtokbfellcadkpaaGreat
open Go.RowKit
set_option linter.unusedVariables false
theorem setF_set {l:List FileS}{k:Nat}{f:FileS}(h:l[k]? = some f)(g:FileS→FileS) : setF l k g=l.set k (g f):=by
 apply List.ext_getElem?;intro j;rw[setF_get,List.getElem?_set];have hk:=(List.getElem?_eq_some_iff.1 h).1;by_cases e:j=k
 ·subst e;rw[if_pos rfl,if_pos rfl,if_pos hk,h];rfl
 ·rw[if_neg e,if_neg (fun e2=>e e2.symm)]
section
variable {w w1 w' : World} {base g mb : Nat} {vF : Value} {E E' : List Ent} {K G : List Nat} {D D' : DiskS}
theorem end_ent (h:PAt w base g mb vF E K D){k:Nat}{x:Ent}(hk:E[k]? = some x)(x':Ent)(hb:x'.b=x.b)(hn:x'.f.name=x.f.name)(ht:Touch G w w')(hG:∀ b∈G,b∈x.blocks)(he:EntAt w' base x')
  (hv:∀ b,x'.v.ownBlock=some b→x.v.ownBlock=some b∨w.heap.size≤b) (v:Value) (hD:D'={ D with l:=D.l.set k x'.f }):EndAt ProgAt base g (blocksP g mb E K) w v D' (.returned v) w':=by
 subst hD;have hx:=List.mem_of_getElem? hk;refine⟨_,rfl,(h.putEnt hk x' hb hn ht hG he hv).at,fun y hy=>?_,ht.more (fun b hb=>Or.inl (mem_E hx (hG b hb)))⟩;rcases mem_blocks.1 hy with e | e | e | ⟨z,hz,hyz⟩
 ·exact Or.inl (mem_blocks.2 (Or.inl e))
 ·exact Or.inl (mem_blocks.2 (Or.inr (Or.inl e)))
 ·exact Or.inl (mem_K e)
 ·rcases List.mem_or_eq_of_mem_set hz with hz | rfl
  ·exact Or.inl (mem_E hz hyz)
  ·simp only[Ent.blocks,List.mem_cons,Option.mem_toList] at hyz;rcases hyz with e | e
   ·exact Or.inl (mem_E hx (by rw[e,hb];simp[Ent.blocks]))
   ·rcases hv y e with c | c
    ·exact Or.inl (mem_E hx (by simp[Ent.blocks,c]))
    ·exact Or.inr c
theorem doneS_goes {D E:DiskS}(h:goesS D=true) : doneS D E=(0, { E with fails:=D.fails-1 }):=by unfold doneS;rw[if_pos h]
theorem doneS_sinks {D E:DiskS}(h:goesS D=false) : doneS D E=(61,sinkS D D.keep):=by unfold doneS;rw[h];rfl
theorem syncP_go {D:DiskS}{n:ByteArray}(hd:D.down=false)(hf:findS D.l n<D.l.length) : syncS D n=doneS D { D with l:=setF D.l (findS D.l n) (fun f=>{ f with synced:=f.data.size }) }:=by unfold syncS;rw[hd,if_pos hf];rfl
theorem syncP_none {D:DiskS}{n:ByteArray}(hd:D.down=false)(hf:¬ findS D.l n<D.l.length) : syncS D n=(4,D):=by unfold syncS;rw[hd,if_neg hf];rfl
theorem syncP_down {D:DiskS}{n:ByteArray}(hd:D.down=true) : syncS D n=(61,D):=by unfold syncS;rw[hd];rfl
set_option maxRecDepth 100000 in
theorem sync_run (h:PAt w base g mb vF E K D)(hok:ProgOk D)(n:ByteArray)(hn:n.size≤maxLen) : Calls Tryz.prog 147 #[ptr g,.string n] w (EndAt ProgAt base g (blocksP g mb E K) w (err (syncS D n).1) (syncS D n).2):=by
 have HH:=Lib.hid h;cases hd:D.down
 ·by_cases hf:findS D.l n<D.l.length
  ·obtain⟨x,hx,hl,hxn⟩:=ent_at h hf;have ho:=Lib.hid (open_yes h hd hx (by rw[hxn];exact hn));rw[hxn] at ho;rw[syncP_go hd hf];generalize findS D.l n=k at *;cases hg:goesS D
   ·have hfl:=Lib.hid (fails_sinks h hok hg);rw[doneS_sinks hg];generalize sinkS D D.keep=D2 at *;clear h hok hx hl hxn hf hd hg;go_enter Tryz.func147,Tryz.ntmps147;go_wp2_with fail;refine ho.out.mono ?_;rintro e w' ⟨rfl,rfl⟩;go_wp2_with fail;refine hfl.out.mono ?_;rintro e w2 ⟨E',rfl,h1,h2,h3⟩;have H1:=Lib.hid h1;have H2:=Lib.hid h2;have H3:=Lib.hid h3;clear h1 h2 h3 hfl;go_wp2;go_ret;exact end_sunk H1.out H2.out H3.out _
   ·have hfl:=Lib.hid (fails_goes h hg);rw[doneS_goes hg];have hz:=(hok.sizes x.f (List.mem_of_getElem? hl)).2;have HX:=Lib.hid hx;have HL:=Lib.hid hl;have HZ:=Lib.hid hz;clear h hok hx hl hxn hf hd hg hz;go_enter Tryz.func147,Tryz.ntmps147;go_wp2_with fail;refine ho.out.mono ?_;rintro e w' ⟨rfl,rfl⟩;go_wp2_with fail;refine hfl.out.mono ?_;rintro e w2 ⟨rfl,h1,h2⟩;have hX:=h1.ents x (List.mem_of_getElem? HX.out);obtain⟨d0,d1,g0,g1⟩:=hX.cells;obtain⟨A,cap,hv,-,-,-⟩:=bytes_form hX.2.2;rw[hv] at d0;have hle:=HZ.out;have HP:=Lib.hid (hX.putSync x.f.data.size);have H1:=Lib.hid h1;have H2:=Lib.hid h2;clear h1 h2 hfl hX hv;go_wp2;go_ret;refine EndAt.after (end_ent (G:=[x.b]) H1.out HX.out ⟨⟨x.f.name,x.f.data,x.f.data.size⟩,x.b,x.v⟩ rfl rfl ((Touch.refl _ _).setCell (p:=⟨x.b,1,none⟩) (Or.inl (List.mem_singleton.2 rfl)) _) (fun b hb=>by rw[List.mem_singleton.1 hb];simp[Ent.blocks]) HP.out (fun b hb=>Or.inl hb) _ ?_) (H2.out.more (fun b hb=>Or.inl (mem_K hb))) (fun b hb=>Or.inl hb);show _=({ nextS D with l:=D.l.set k _ }:DiskS)
    rw[setF_set HL.out];rfl
  ·have ho:=Lib.hid (open_no h hd hf hn);rw[syncP_none hd hf];clear h hok hf hd;go_enter Tryz.func147,Tryz.ntmps147;go_wp2_with fail;refine ho.out.mono ?_;rintro e w' ⟨rfl,rfl⟩;go_wp2;go_ret;exact end_same HH.out _
 ·have ho:=Lib.hid (open_down h hd n);rw[syncP_down hd];clear h hok hd;go_enter Tryz.func147,Tryz.ntmps147;go_wp2_with fail;refine ho.out.mono ?_;rintro e w' ⟨rfl,rfl⟩;go_wp2;go_ret;exact end_same HH.out _
theorem cut_run (h:PAt w base g mb vF E K D)(hok:ProgOk D)(n:ByteArray)(hn:n.size≤maxLen)(k:Int) : Calls Tryz.prog 53 #[ptr g,.string n,.int .i64 k] w (EndAt ProgAt base g (blocksP g mb E K) w (err (cutS D n k).1) (cutS D n k).2):=by
 have HH:=Lib.hid h;by_cases hf:findS D.l n<D.l.length
 ·obtain⟨x,hx,hl,hxn⟩:=ent_at h hf;have ho:=Lib.hid (look_yes h hx (by rw[hxn];exact hn));rw[hxn] at ho;by_cases hk:k<0
  ·rw[cutS_arg hf hk];clear h hok hx hl hxn hf;go_enter Tryz.func53,Tryz.ntmps53;go_wp2_with fail;refine ho.out.mono ?_;rintro e w' ⟨rfl,rfl⟩;go_wp2;go_ret;exact end_same HH.out _
  ·rw[cutS_go hf hk];unfold cutE;have hX:=h.ents x (List.mem_of_getElem? hx);have hc:=Lib.hid (cut_file hX k (by omega) (hok.sizes x.f (List.mem_of_getElem? hl)).2 _ rfl);have HX:=Lib.hid hx;have HL:=Lib.hid hl;have hk2:decide (k<0)=false:=decide_eq_false hk;clear h hok hx hl hxn hf hX hk;generalize findS D.l n=i at *;go_enter Tryz.func53,Tryz.ntmps53;go_wp2_with fail;refine ho.out.mono ?_;rintro e w' ⟨rfl,rfl⟩;go_wp2_with fail;refine hc.out.mono ?_;rintro e w2 ⟨v,rfl,h1,h2,h3⟩;have H1:=Lib.hid h1;have H2:=Lib.hid h2;have H3:=Lib.hid h3;clear h1 h2 h3 hc;go_wp2;go_ret;exact end_ent (G:=[x.b]) HH.out HX.out ⟨⟨x.f.name,x.f.data.extract 0 (min k.toNat x.f.data.size),min x.f.synced (min k.toNat x.f.data.size)⟩,x.b,v⟩ rfl rfl H3.out (fun b hb=>by rw[List.mem_singleton.1 hb];simp[Ent.blocks]) H1.out (fun b hb=>Or.inl (H2.out ▸ hb)) _ (by rw[setF_set HL.out])
 ·have ho:=Lib.hid (look_no h hf hn);rw[cutS_none hf];clear h hok hf;go_enter Tryz.func53,Tryz.ntmps53;go_wp2_with fail;refine ho.out.mono ?_;rintro e w' ⟨rfl,rfl⟩;go_wp2;go_ret;exact end_same HH.out _
end
end Go.Proofs.YtokbfellcadkpaaGreat
namespace Go.Proofs.YtokbfellcadkpaaGreat
open Go.RowKit
set_option linter.unusedVariables false
section
variable {w w1 w' : World} {base g mb : Nat} {vF : Value} {E E' : List Ent} {K G : List Nat} {D D' : DiskS}
theorem appendP_down {n s:ByteArray}(hd:D.down=true) : appendS D n s=(61,D):=by unfold appendS;rw[hd];rfl
theorem appendP_none {n s:ByteArray}(hd:D.down=false)(hf:¬ findS D.l n<D.l.length) : appendS D n s=(4,D):=by unfold appendS;rw[hd,if_neg hf];rfl
theorem appendP_full {n s:ByteArray}(hd:D.down=false)(hf:findS D.l n<D.l.length)(hu:D.cap<usedS D.l+s.size) : appendS D n s=(60,D):=by unfold appendS;rw[hd,if_pos hf,if_pos hu];rfl
theorem appendP_goes {n s:ByteArray}(hd:D.down=false)(hf:findS D.l n<D.l.length)(hu:¬ D.cap<usedS D.l+s.size)(hg:goesS D=true) : appendS D n s=(0,nextS (appE D n s)):=by unfold appendS;rw[hd,if_pos hf,if_neg hu,if_pos hg];rfl
theorem appendP_sinks {n s:ByteArray}(hd:D.down=false)(hf:findS D.l n<D.l.length)(hu:¬ D.cap<usedS D.l+s.size)(hg:goesS D=false) : appendS D n s=(61,sinkS (appE D n s) D.keep):=by unfold appendS;rw[hd,if_pos hf,if_neg hu,hg];rfl
theorem ProgOk.app {D:DiskS}(h:ProgOk D){k:Nat}{f:FileS}(hk:D.l[k]? = some f)(s:ByteArray)(hs:usedS D.l+s.size≤D.cap) : ProgOk { D with l:=setF D.l k (fun f=>{ f with data:=f.data++s }) }:=by
 have h0:RefOk { D with fails:=0 }:=⟨h.sizes,h.many,h.used,h.cap,Nat.zero_le _⟩
 have h1:=h0.app (k:=k) (f:=f) hk s hs;exact⟨h1.sizes,h1.many,h1.used,h1.cap⟩
theorem set_sub {k:Nat}{x:Ent}(hk:E[k]? = some x){x':Ent}(hb:x'.b=x.b){z:Nat}(hv:∀ b,x'.v.ownBlock=some b→x.v.ownBlock=some b∨z≤b) : ∀ y∈blocksP g mb (E.set k x') K,y∈blocksP g mb E K∨z≤y:=by
 have hx:=List.mem_of_getElem? hk;intro y hy;rcases mem_blocks.1 hy with e | e | e | ⟨z,hz,hyz⟩
 ·exact Or.inl (mem_blocks.2 (Or.inl e))
 ·exact Or.inl (mem_blocks.2 (Or.inr (Or.inl e)))
 ·exact Or.inl (mem_K e)
 ·rcases List.mem_or_eq_of_mem_set hz with hz | rfl
  ·exact Or.inl (mem_E hz hyz)
  ·simp only[Ent.blocks,List.mem_cons,Option.mem_toList] at hyz;rcases hyz with e | e
   ·exact Or.inl (mem_E hx (by rw[e,hb];simp[Ent.blocks]))
   ·rcases hv y e with c | c
    ·exact Or.inl (mem_E hx (by simp[Ent.blocks,c]))
    ·exact Or.inr c
theorem append_ent (h:PAt w base g mb vF E K D){k:Nat}{x:Ent}(hx:E[k]? = some x){v':Value}{s:ByteArray}(hb:BytesAt w1 base v' (x.f.data++s))(hg:w.grownBy w1 x.v.ownBlock)(hv:v'.ownBlock=x.v.ownBlock∨v'.ownBlock=some w.heap.size) :
  EntAt (w1.setCell ⟨x.b,0,none⟩ v') base ⟨⟨x.f.name,x.f.data++s,x.f.synced⟩,x.b,v'⟩∧Touch x.blocks w (w1.setCell ⟨x.b,0,none⟩ v')∧w1.cell? ⟨x.b,0,none⟩=some x.v∧w1.frozen? ⟨x.b,0,none⟩=false:=by
 have hX:=h.ents x (List.mem_of_getElem? hx);have ht:Touch x.blocks w w1:=(Touch.refl _ w).grown hg (fun k hk=>Or.inl (by simp[Ent.blocks,hk]))
 have hbk:Blok w1 x.b 177 #[x.v,.int .i64 (x.f.synced:Nat)]:=by
  refine(hg.block x.b hX.1.lt (fun e=>?_)).trans hX.1;exact own_ne hX.2.2 hX.1 (by decide) e.symm
 exact⟨⟨hbk.put 0 v',hX.2.1,own_far hb (own_ne hb hbk (by decide)) _⟩,ht.setCell (p:=⟨x.b,0,none⟩) (Or.inl (by simp[Ent.blocks])) _,hbk.cell 0,hbk.frozen 0⟩
set_option maxRecDepth 100000 in
set_option maxHeartbeats 2000000 in
theorem append_run (h:PAt w base g mb vF E K D)(hok:ProgOk D)(n s:ByteArray)(hn:n.size≤maxLen)(hs:s.size≤1099511627776) : Calls Tryz.prog 131 #[ptr g,.string n,.string s] w (EndAt ProgAt base g (blocksP g mb E K) w (err (appendS D n s).1) (appendS D n s).2):=by
 have HH:=Lib.hid h;cases hd:D.down
 ·by_cases hf:findS D.l n<D.l.length
  ·obtain⟨x,hx,hl,hxn⟩:=ent_at h hf;have ho:=Lib.hid (open_yes h hd hx (by rw[hxn];exact hn));rw[hxn] at ho;have hfr:=Lib.hid (free_run h hok);by_cases hu:D.cap<usedS D.l+s.size
   ·rw[appendP_full hd hf hu];have q1:(D.cap:Int)-(usedS D.l:Nat)<(s.size:Int):=by omega
    have q2:=hok.cap;have q3:=hok.used;clear h hok hx hl hxn hf hd hu;unfold FreeOut at hfr;generalize usedS D.l=u at *;go_enter Tryz.func131,Tryz.ntmps131;go_wp2_with fail;refine ho.out.mono ?_;rintro e w' ⟨rfl,rfl⟩;go_wp2_with fail;refine hfr.out.mono ?_;rintro e w2 ⟨rfl,ht⟩;have HT:=Lib.hid ht;clear ht hfr;go_wp2;go_ret;exact end_put (HH.out.touch HT.out (fun _ _=>by simp)) (HT.out.more (fun x hx=>by cases hx)) _
   ·have q1:decide ((D.cap:Int)-(usedS D.l:Nat)<(s.size:Int))=false:=decide_eq_false (by omega);have q2:=hok.cap;have q3:=hok.used;have hs2:s.size≤1048576:=by omega
    have HS0:=Lib.hid hs2;have hoke:=hok.app hl s (by omega);have hzs:=(hok.sizes x.f (List.mem_of_getElem? hl)).2;have happ:appE D n s={ D with l:=setF D.l (findS D.l n) (fun f=>{ f with data:=f.data++s }) }:=rfl;rw[← happ] at hoke;have happ2:appE D n s={ D with l:=D.l.set (findS D.l n) ⟨x.f.name,x.f.data++s,x.f.synced⟩ }:=by rw[happ,setF_set hl]
    have hg':goesS (appE D n s)=goesS D:=rfl;have hk':(appE D n s).keep=D.keep:=rfl;have hA:=appendP_goes (s:=s) hd hf hu;have hB:=appendP_sinks (s:=s) hd hf hu;have HOKE:=Lib.hid hoke;have HA:=Lib.hid hA;have HB:=Lib.hid hB;have HAPP:=Lib.hid happ2;have HX:=Lib.hid hx;have HZS:=Lib.hid hzs;have HG:=Lib.hid hg';have HKK:=Lib.hid hk';clear h hok hx hl hxn hf hd hu hs2 hoke hA hB happ happ2 hzs hg' hk';unfold FreeOut at hfr;generalize findS D.l n=k at *;generalize usedS D.l=u at *;go_enter Tryz.func131,Tryz.ntmps131;go_wp2_with fail;refine ho.out.mono ?_;rintro e w' ⟨rfl,rfl⟩;go_wp2_with fail;refine hfr.out.mono ?_;rintro e w2 ⟨rfl,ht⟩;have h2:=HH.out.touch ht (fun _ _=>by simp);have hX2:=h2.ents x (List.mem_of_getElem? HX.out);have hbase:base≤w2.heap.size:=by have:=h2.gb;have:=h2.disk.lt;omega
    obtain⟨v',w3,hap,hb3,hg3,hv3⟩:=bytes_append hX2.2.2 s (by have:=HZS.out;have:=HS0.out;omega) hbase 109;obtain⟨he3,ht3,d0',f0'⟩:=append_ent h2 HX.out hb3 hg3 hv3;obtain⟨d0,d1,g0,g1⟩:=hX2.cells;obtain⟨A,cap,hv,-,-,-⟩:=bytes_form hX2.2.2;obtain⟨A',cap',hv',-,-,-⟩:=bytes_form hb3
    have hown:∀ b,v'.ownBlock=some b→x.v.ownBlock=some b∨w2.heap.size≤b:=fun b hb=>by
     rcases hv3 with c | c
     ·exact Or.inl (c ▸ hb)
     ·rw[c] at hb;injection hb with hb;exact Or.inr (Nat.le_of_eq hb)
    have hP:=h2.putEnt HX.out ⟨⟨x.f.name,x.f.data++s,x.f.synced⟩,x.b,v'⟩ rfl rfl ht3 (fun b hb=>hb) he3 hown;have hD:({ D with l:=D.l.set k ⟨x.f.name,x.f.data++s,x.f.synced⟩ }:DiskS)=appE D n s:=HAPP.out.symm;dsimp only at hP;rw[hD] at hP;have hsub:=set_sub (g:=g) (mb:=mb) (K:=K) HX.out (x':=⟨⟨x.f.name,x.f.data++s,x.f.synced⟩,x.b,v'⟩) rfl hown;have hT2:Touch (blocksP g mb E K) w (w3.setCell ⟨x.b,0,none⟩ v'):=(ht.more (fun x hx=>by cases hx)).trans ht3 (fun b hb=>Or.inl (mem_E (List.mem_of_getElem? HX.out) hb));have hsub2:∀ y∈blocksP g mb (E.set k ⟨⟨x.f.name,x.f.data++s,x.f.synced⟩,x.b,v'⟩) K,y∈blocksP g mb E K∨w.heap.size≤y:=fun y hy=>(hsub y hy).imp id (fun c=>Nat.le_trans ht.size c)
    have HP:=Lib.hid hP;have HT2:=Lib.hid hT2;have HS2:=Lib.hid hsub2;rw[hv] at hap d0;have hzz:(x.f.data++s).size=x.f.data.size+s.size:=ByteArray.size_append;rw[hzz] at hv';subst hv';clear h2 hX2 hbase hb3 hg3 hv3 he3 ht3 hv hown hP hD hsub hT2 hsub2 ht hfr hzz g1 d1 HAPP;have HAP:=Lib.hid hap;clear hap;go_wp2_with (first | (at_builtin;refine wpList_append_two rfl _ _ rfl rfl rfl HAP.out ?_) | fail);have hgd:goesS D=true∨goesS D=false:=by cases goesS D<;>simp
    rcases hgd with hgd | hgd
    ·have hfl:=Lib.hid (fails_goes HP.out (HG.out.trans hgd));have HGD:=Lib.hid (HA.out hgd);clear hgd;go_wp2_with fail;refine hfl.out.mono ?_;rintro e w4 ⟨rfl,h4,ht4⟩;have H4:=Lib.hid h4;have HT4:=Lib.hid ht4;clear h4 ht4 hfl;go_wp2;go_ret;rw[HGD.out];exact EndAt.after (end_put H4.out (HT4.out.more (fun y hy=>Or.inl (mem_K hy))) _) HT2.out HS2.out
    ·have hfl:=Lib.hid (fails_sinks HP.out HOKE.out (HG.out.trans hgd));have HGD:=Lib.hid (HB.out hgd);rw[HKK.out] at hfl;clear hgd;go_wp2_with fail;refine hfl.out.mono ?_;rintro e w4 ⟨E4,rfl,h4,he4,ht4⟩;have H4:=Lib.hid h4;have HE4:=Lib.hid he4;have HT4:=Lib.hid ht4;clear h4 he4 ht4 hfl;go_wp2;go_ret;rw[HGD.out];exact EndAt.after (end_sunk H4.out HE4.out HT4.out _) HT2.out HS2.out
  ·have ho:=Lib.hid (open_no h hd hf hn);rw[appendP_none hd hf];clear h hok hf hd;go_enter Tryz.func131,Tryz.ntmps131;go_wp2_with fail;refine ho.out.mono ?_;rintro e w' ⟨rfl,rfl⟩;go_wp2;go_ret;exact end_same HH.out _
 ·have ho:=Lib.hid (open_down h hd n);rw[appendP_down hd];clear h hok hd;go_enter Tryz.func131,Tryz.ntmps131;go_wp2_with fail;refine ho.out.mono ?_;rintro e w' ⟨rfl,rfl⟩;go_wp2;go_ret;exact end_same HH.out _
end
end Go.Proofs.YtokbfellcadkpaaGreat
namespace Go.Proofs.YtokbfellcadkpaaGreat
open Go.RowKit
set_option linter.unusedVariables false
set_option maxRecDepth 100000
section
variable {P : Program} {ops : Array Oper} {o : Oper} {a : Act} {w w' : World} {K : Act → World → Prop} {Q : Exit → Act → World → Prop} {E : Prop}
theorem step_copy_run {vs vx v':Value}{t tx:TypeId}(hgd:o.guard=none)(s x:Operand)
  (ho:o.op = .call { callee:=.builtin .copy,args:=#[s,x],argTypes:=#[t,tx] }) (hs:a.eval s=vs) (hx:a.eval x=vx)
  (hr:(Builtin.copy_ #[t,tx] o.type #[vs,vx]).run P w = .ok v' w') (h:K (a.put o.dst v') w'):if Region.wanted o (yielded ops a.tmps)=true then Oper.wp P o a w K Q else E:=by
 have hw:Region.wanted o (yielded ops a.tmps)=true:=by simp[Region.wanted,hgd]
 rw[if_pos hw];unfold Oper.wp execOp;simp only[ho,resolve,invoke,builtin,Sem.run_bind,Sem.run_pure,Result.andThen_ok,List.map_toArray,List.map_cons,List.map_nil,hs,hx,hr];exact h
end
section
variable {ops : Array Oper} {o : Oper} {a : Act} {w w' : World} {K : Act → World → Prop} {Q : Exit → Act → World → Prop} {E : Prop} {base b p cap c n : Nat} {d s : ByteArray} {A : Option Addr}
theorem step_copy_none (hgd:o.guard=none)(t x:Operand)(ho:o.op = .call { callee:=.builtin .copy,args:=#[t,x],argTypes:=#[109,9] }){m:Nat}(hs:a.eval t = .slice A m c)(hm:m=0)(hx:a.eval x = .string s)
  (h:∀ r,K (a.put o.dst r) w):if Region.wanted o (yielded ops a.tmps)=true then Oper.wp Tryz.prog o a w K Q else E :=
 step_copy_run hgd t x ho (hm ▸ hs) hx (bytes_copy0 w A c s o.type) (h _)
theorem step_copy_some (hgd:o.guard=none)(t x:Operand)(ho:o.op = .call { callee:=.builtin .copy,args:=#[t,x],argTypes:=#[109,9] })(hs:a.eval t = .slice (some ⟨b,p,none⟩) (d.size-p) c)(hx:a.eval x = .string s)
  (hb:BytesAt w base (.slice (some ⟨b,0,none⟩) n cap) d) (hp:p≤d.size) (h:∀ r w',BytesAt w' base (.slice (some ⟨b,0,none⟩) n cap) (overS d s p)→Touch [b] w w'→K (a.put o.dst r) w'):if Region.wanted o (yielded ops a.tmps)=true then Oper.wp Tryz.prog o a w K Q else E:=by
 obtain⟨r,w',hr,h1,h2⟩:=bytes_copy hb hp s o.type c;exact step_copy_run hgd t x ho hs hx hr (h r w' h1 h2)
end
section
variable {w w1 w' : World} {base g mb : Nat} {vF : Value} {E E' : List Ent} {K G : List Nat} {D D' : DiskS}
set_option maxRecDepth 100000 in
set_option maxHeartbeats 4000000 in
theorem spoil_run (h:PAt w base g mb vF E K D)(hok:ProgOk D)(n:ByteArray)(a:Int)(s:ByteArray)(hn:n.size≤maxLen)(ha:(Lit.int .i64 a).wf=true)(hs:s.size≤1048576) : Calls Tryz.prog 52 #[ptr g,.string n,.int .i64 a,.string s] w (EndAt ProgAt base g (blocksP g mb E K) w (err (spoilS D n a s).1) (spoilS D n a s).2):=by
 have HH:=Lib.hid h;by_cases hf:findS D.l n<D.l.length
 ·obtain⟨x,hx,hl,hxn⟩:=ent_at h hf;have ho:=Lib.hid (look_yes h hx (by rw[hxn];exact hn));rw[hxn] at ho;by_cases hk:a<0
  ·rw[spoilS_arg hf hk];clear h hok hx hl hxn hf ha;go_enter Tryz.func52,Tryz.ntmps52;go_wp2_with fail;refine ho.out.mono ?_;rintro e w' ⟨rfl,rfl⟩;go_wp2;go_ret;exact end_same HH.out _
  ·rw[spoilS_go hf hk];have hX:=h.ents x (List.mem_of_getElem? hx);have hz:=(hok.sizes x.f (List.mem_of_getElem? hl)).2;obtain⟨d0,_,g0,_⟩:=hX.cells;obtain⟨p,rfl⟩:∃ p:Nat,a=p:=⟨a.toNat,by omega⟩
   rw[Int.toNat_natCast];have hk2:decide ((p:Int)<0)=false:=decide_eq_false hk;have hs2:=setF_set hl (fun f=>{ f with data:=overS f.data s p });have HS:=Lib.hid hs2;have HX:=Lib.hid hx;have HL:=Lib.hid hl;have HZ:=Lib.hid hz;rcases Nat.lt_or_ge p x.f.data.size with hp | hp
   ·rcases bytes_cases hX.2.2 with⟨_,e2⟩ | ⟨b,cap,e,n1,n2,hb1,hb2⟩
    ·omega
    have hbs:=hX.2.2;rw[e] at hbs;rw[e] at d0;have hm1:=@min_int Tryz.prog p x.f.data.size p (by split<;>omega);have hbm:b∈x.blocks:=by simp[Ent.blocks,e,Value.ownBlock]
    have hne:x.b≠b:=fun e2=>own_ne hX.2.2 hX.1 (by decide) (by rw[e,← e2];rfl)
    have HE:=Lib.hid (fun w4 (h4:BytesAt w4 base (.slice (some ⟨b,0,none⟩) x.f.data.size cap) (overS x.f.data s p)) (ht:Touch [b] w w4)=>(show EntAt w4 base ⟨⟨x.f.name,overS x.f.data s p,x.f.synced⟩,x.b,x.v⟩ from⟨hX.1.touch ht (by simpa using hne),hX.2.1,by rw[e];exact h4⟩));have HBM:=Lib.hid hbm;have HP:=Lib.hid hp;unfold maxLen at n2;have i1:(0:Int)≤(p:Int):=by omega
    have i2:(p:Int)≤(x.f.data.size:Int):=by omega
    have i3:(x.f.data.size:Int)≤(cap:Int):=by omega
    have i4:¬ cap=p:=by omega
    have i5:(p:Int)≤(cap:Int):=by omega
    clear h hok hx hl hxn hf hX hk hs2 e hz hbm hne ha;generalize findS D.l n=k at *;go_enter Tryz.func52,Tryz.ntmps52;go_wp2_with fail;refine ho.out.mono ?_;rintro e w' ⟨rfl,rfl⟩;go_wp2_with fail
    go_region_law (first
     | (refine step_copy_some (base:=base) (b:=b) (p:=p) (cap:=cap) (n:=x.f.data.size) (d:=x.f.data) rfl _ _ rfl rfl rfl (by first | assumption | exact hbs) (Nat.le_of_lt HP.out) ?_;intro r w4 h4 ht4;have HT4:=Lib.hid (show Touch [b] w w4 from⟨ht4.os,ht4.tape,ht4.output,ht4.size,ht4.block⟩);have H4:=Lib.hid (HE.out w4 h4 HT4.out);clear h4 ht4)
     | fail)
    all_goals
     go_step;go_step;go_wp2;go_ret;exact end_ent (G:=[b]) HH.out HX.out ⟨⟨x.f.name,overS x.f.data s p,x.f.synced⟩,x.b,x.v⟩ rfl rfl HT4.out (fun y hy=>by rw[List.mem_singleton.1 hy];exact HBM.out) H4.out (fun y hy=>Or.inl hy) _ (by rw[HS.out])
   ·have hov:overS x.f.data s p=x.f.data:=over_none x.f.data s p (Or.inl hp)
    have hD:({ D with l:=setF D.l (findS D.l n) (fun f=>{ f with data:=overS f.data s p }) }:DiskS)=D:=by
     have e:setF D.l (findS D.l n) (fun f=>{ f with data:=overS f.data s p })=D.l:=by
      rw[HS.out,show({ x.f with data:=overS x.f.data s p }:FileS)=x.f by rw[hov]];apply List.ext_getElem?;intro j;rw[List.getElem?_set];by_cases e:findS D.l n=j
      ·rw[if_pos e,if_pos hf,← e,hl]
      ·rw[if_neg e]
     rw[e]
    rw[hD];have hm1:=@min_int Tryz.prog p x.f.data.size x.f.data.size (by split<;>omega);rcases bytes_cases hX.2.2 with⟨e,e2⟩ | ⟨b,cap,e,n1,n2,hb1,hb2⟩
    ·rw[e] at d0;have hm2:∀ ts t w,(Builtin.min_ ts t #[.int .i64 (p:Nat),.int .i64 0]).run Tryz.prog w = .ok (.int .i64 0) w:=fun ts t w=>by rw[run_min_int2,if_pos_or_le (by omega)]
     clear h hok hx hl hxn hf hX hk hs2 e hz hm1 ha hD hov HS;go_enter Tryz.func52,Tryz.ntmps52;go_wp2_with fail;refine ho.out.mono ?_;rintro e w' ⟨rfl,rfl⟩;go_wp2_with fail
     go_region_law (first
      | (refine step_copy_none rfl _ _ rfl rfl rfl rfl ?_;intro r)
      | fail)
     all_goals
      go_step;go_step;go_wp2;go_ret
      first | exact end_put HH.out (Touch.refl _ _) _ | exact end_put (HH.out.touch (Touch.refl [] w).drew (fun _ _=>by simp)) ((Touch.refl _ w).drew) _ | exact end_put (HH.out.touch (Touch.refl [] w).drew.drew (fun _ _=>by simp)) ((Touch.refl _ w).drew.drew) _
    ·rw[e] at d0;unfold maxLen at n2;have i1:(0:Int)≤(x.f.data.size:Int):=by omega
     have i2:(x.f.data.size:Int)≤(x.f.data.size:Int):=by omega
     have i3:(x.f.data.size:Int)≤(cap:Int):=by omega
     by_cases i4:cap=x.f.data.size
     all_goals
      clear h hok hx hl hxn hf hX hk hs2 e hz ha hD hov HS;go_enter Tryz.func52,Tryz.ntmps52;go_wp2_with fail;refine ho.out.mono ?_;rintro e w' ⟨rfl,rfl⟩;go_wp2_with fail
      go_region_law (first
       | (refine step_copy_none rfl _ _ rfl rfl rfl rfl ?_;intro r)
       | fail)
      all_goals
       go_step;go_step;go_wp2;go_ret
       first | exact end_put HH.out (Touch.refl _ _) _ | exact end_put (HH.out.touch (Touch.refl [] w).drew (fun _ _=>by simp)) ((Touch.refl _ w).drew) _ | exact end_put (HH.out.touch (Touch.refl [] w).drew.drew (fun _ _=>by simp)) ((Touch.refl _ w).drew.drew) _
 ·have ho:=Lib.hid (look_no h hf hn);rw[spoilS_none hf];clear h hok hf ha;go_enter Tryz.func52,Tryz.ntmps52;go_wp2_with fail;refine ho.out.mono ?_;rintro e w' ⟨rfl,rfl⟩;go_wp2;go_ret;exact end_same HH.out _
end
end Go.Proofs.YtokbfellcadkpaaGreat
namespace Go.Proofs.YtokbfellcadkpaaGreat
open Go.RowKit
set_option linter.unusedVariables false
set_option maxRecDepth 100000
section
variable {w w1 w' : World} {base g mb : Nat} {vF : Value} {E E' : List Ent} {K G : List Nat} {D D' : DiskS}
abbrev ReadOut (base g:Nat)(F:List Nat)(w:World)(r:ByteArray × Nat × DiskS) : Ending→World→Prop:=EndAt ProgAt base g F w (.tuple #[.string r.1,err r.2.1]) r.2.2
set_option maxRecDepth 100000 in
set_option maxHeartbeats 4000000 in
theorem read_run (h:PAt w base g mb vF E K D)(hok:ProgOk D)(hct:D.count≤1099511627776)(n:ByteArray)(a k:Int)(hn:n.size≤maxLen)(ha:(Lit.int .i64 a).wf=true)(hk:(Lit.int .i64 k).wf=true) : Calls Tryz.prog 51 #[ptr g,.string n,.int .i64 a,.int .i64 k] w (ReadOut base g (blocksP g mb E K) w (readS D n a k)):=by
 have HH:=Lib.hid h;have hup:=Lib.hid (up_run h);cases hd:D.down
 case true =>
  have ho:=Lib.hid (open_down h hd n);rw[readS_down hd];rw[hd] at hup;clear h hok hd ha hk;go_enter Tryz.func51,Tryz.ntmps51;go_wp2_with fail;refine hup.out.mono ?_;rintro e w' ⟨rfl,rfl⟩;go_wp2_with fail;refine ho.out.mono ?_;rintro e w' ⟨rfl,rfl⟩;go_wp2;go_ret2;exact end_same HH.out _
 obtain⟨c0,c1,c2,c3,c4,c5,c6⟩:=h.cells;have f4:=h.disk.frozen 4;have h2:PAt (w.setCell ⟨g,4,none⟩ (.int .i64 ((D.count:Int)+1))) base g mb vF E K (readE D):=h.putCount (D.count+1);have H2:=Lib.hid h2;have HT:=Lib.hid (show Touch (blocksP g mb E K) w (w.setCell ⟨g,4,none⟩ (.int .i64 ((D.count:Int)+1))) from(Touch.refl _ _).setCell (p:=⟨g,4,none⟩) (Or.inl mem_g) _);rw[hd] at hup;by_cases hf:findS D.l n<D.l.length
 case neg =>
  have ho:=Lib.hid (open_no h2 hd hf hn);rw[readS_none hd hf];clear h h2 hok hf hd ha hk c0 c1 c2 c3 c5 c6;go_enter Tryz.func51,Tryz.ntmps51;go_wp2_with fail;refine hup.out.mono ?_;rintro e w' ⟨rfl,rfl⟩;go_wp2_with fail;refine ho.out.mono ?_;rintro e w' ⟨rfl,rfl⟩;go_wp2;go_ret2;exact end_put H2.out HT.out _
 obtain⟨x,hx,hl,hxn⟩:=ent_at h hf;have ho:=Lib.hid (open_yes h2 hd hx (by rw[hxn];exact hn));rw[hxn] at ho;have hX:=h2.ents x (List.mem_of_getElem? hx);have hz:=(hok.sizes x.f (List.mem_of_getElem? hl)).2;obtain⟨d0,_,_,_⟩:=hX.cells;have ba:=bounds_i64 ha;have bk:=bounds_i64 hk;by_cases hb:a<0∨k<0∨(x.f.data.size:Int)<a∨(x.f.data.size:Int)-a<k
 ·rw[readS_bad hd hl hb];obtain⟨A,cap,hv,-,-,-⟩:=bytes_form hX.2.2;rw[hv] at d0;have hcase:a<0∨(0≤a∧k<0)∨(0≤a∧0≤k∧(x.f.data.size:Int)-a<k):=by omega
  clear h h2 hok hf hd ha hk c0 c1 c2 c3 c5 c6 hX hv hx hl hxn hb;generalize x.f.data.size=z at *;generalize x.b=xb at *;rcases hcase with q | ⟨q1,q⟩ | ⟨q1,q2,q⟩
  case' inl =>
   have t1:decide (a<0)=true:=decide_eq_true q
  case' inr.inl =>
   have t1:decide (a<0)=false:=decide_eq_false (by omega);have t2:decide (k<0)=true:=decide_eq_true q
  case' inr.inr =>
   have t1:decide (a<0)=false:=decide_eq_false (by omega);have t2:decide (k<0)=false:=decide_eq_false (by omega);have t3:decide ((z:Int)-a<k)=true:=decide_eq_true q;have t4:-9223372036854775808≤(z:Int)-a:=by omega
   have t5:(z:Int)-a≤9223372036854775807:=by omega
  all_goals
   go_enter Tryz.func51,Tryz.ntmps51;go_wp2_with fail;refine hup.out.mono ?_;rintro e w' ⟨rfl,rfl⟩;go_wp2_with fail;refine ho.out.mono ?_;rintro e w' ⟨rfl,rfl⟩;go_wp2;go_ret2;exact end_put H2.out HT.out _
 ·rw[readS_go hd hl hb];obtain⟨p,rfl⟩:∃ p:Nat,a=p:=⟨a.toNat,by omega⟩
  obtain⟨m,rfl⟩:∃ m:Nat,k=m:=⟨k.toNat,by omega⟩
  rw[Int.toNat_natCast,Int.toNat_natCast];have hpm:p+m≤x.f.data.size:=by omega
  have t1:decide ((p:Int)<0)=false:=decide_eq_false (by omega);have t2:decide ((m:Int)<0)=false:=decide_eq_false (by omega);have t3:decide ((x.f.data.size:Int)-(p:Int)<(m:Int))=false:=decide_eq_false (by omega);have t4:(p:Int)+(m:Int)≤(x.f.data.size:Int):=by omega
  have t5:(x.f.data.size:Int)≤1048576:=by omega
  have t6:(0:Int)≤(p:Int):=by omega
  have t7:(p:Int)≤(p:Int)+(m:Int):=by omega
  have t8:((p:Int)+(m:Int)).toNat=p+m:=by omega
  have t9:p+m-p=m:=by omega
  rcases bytes_cases hX.2.2 with⟨e,e2⟩ | ⟨b,cap,e,n1,n2,hb1,hb2⟩
  ·obtain rfl:p=0:=by omega
   obtain rfl:m=0:=by omega
   have he:x.f.data.extract 0 (0+0)=ByteArray.empty:=by
    apply ByteArray.ext;rw[ByteArray.data_extract];apply Array.eq_empty_of_size_eq_zero;rw[Array.size_extract];omega
   rw[he];rw[e] at d0;have hcv:=fun W=>bytes_none W none 0
   clear h h2 hok hf hd ha hk c0 c1 c2 c3 c5 c6 hX e hx hl hxn hb he t1 t2 t3 t4 t5 t6 t7 t8 t9 ba bk hpm;go_enter Tryz.func51,Tryz.ntmps51;go_wp2_with fail;refine hup.out.mono ?_;rintro e w' ⟨rfl,rfl⟩;go_wp2_with fail;refine ho.out.mono ?_;rintro e w' ⟨rfl,rfl⟩;go_wp2;go_ret2;exact end_put H2.out HT.out _
  ·have hbs:=hX.2.2;rw[e] at d0 hbs;unfold maxLen at n2;have t10:(p:Int)+(m:Int)≤(cap:Int):=by omega
   by_cases hm:m=0
   ·subst hm
    have he:x.f.data.extract p (p+0)=ByteArray.empty:=by
     apply ByteArray.ext;rw[ByteArray.data_extract];apply Array.eq_empty_of_size_eq_zero;rw[Array.size_extract];omega
    rw[he];have hcv:=fun W A c=>bytes_none W A c
    have t11:(p:Int)≤(cap:Int):=by omega
    have t3:decide ((x.f.data.size:Int)-(p:Int)<0)=false:=decide_eq_false (by omega);by_cases t12:cap=p
    all_goals
     clear h h2 hok hf hd ha hk c0 c1 c2 c3 c5 c6 hX e hx hl hxn hb he ba bk hpm hbs;go_enter Tryz.func51,Tryz.ntmps51;go_wp2_with fail;refine hup.out.mono ?_;rintro e w' ⟨rfl,rfl⟩;go_wp2_with fail;refine ho.out.mono ?_;rintro e w' ⟨rfl,rfl⟩;go_wp2;go_ret2;exact end_put H2.out HT.out _
   ·have hcv:=fun c=>bytes_conv hbs hpm c
    have t12:¬ cap=p:=by omega
    have t13:(p:Int)≤(cap:Int):=by omega
    clear h h2 hok hf hd ha hk c0 c1 c2 c3 c5 c6 hX e hx hl hxn hb ba bk hpm hbs hm;go_enter Tryz.func51,Tryz.ntmps51;go_wp2_with fail;refine hup.out.mono ?_;rintro e w' ⟨rfl,rfl⟩;go_wp2_with fail;refine ho.out.mono ?_;rintro e w' ⟨rfl,rfl⟩;go_wp2;go_ret2;exact end_put H2.out HT.out _
end
end Go.Proofs.YtokbfellcadkpaaGreat
namespace Go.Proofs.YtokbfellcadkpaaGreat
open Go.RowKit
set_option linter.unusedVariables false
set_option maxRecDepth 100000
def layE (E:List Ent)(x:Ent) : List Ent:=E.take (aheadS (E.map Ent.f) x.f.name)++[x]++E.drop (aheadS (E.map Ent.f) x.f.name)
def dropE (E:List Ent)(k:Nat) : List Ent:=E.take k++E.drop (k+1)
def clearE (E:List Ent)(n:ByteArray) : List Ent:=if findS (E.map Ent.f) n<E.length then dropE E (findS (E.map Ent.f) n) else E
section
variable {E : List Ent} {x : Ent} {k : Nat} {n : ByteArray}
theorem layE_f : (layE E x).map Ent.f=layS (E.map Ent.f) x.f:=by
 unfold layE layS;rw[List.map_append,List.map_append,List.map_take,List.map_drop];rfl
theorem dropE_f : (dropE E k).map Ent.f=dropS (E.map Ent.f) k:=by
 unfold dropE dropS;rw[List.map_append,List.map_take,List.map_drop]
theorem clearE_f : (clearE E n).map Ent.f=clearL (E.map Ent.f) n:=by
 unfold clearE clearL;rw[List.length_map];split
 ·exact dropE_f
 ·rfl
theorem layE_perm : (layE E x).Perm (x::E):=by
 unfold layE;rw[List.append_assoc];have h:(List.take (aheadS (E.map Ent.f) x.f.name) E++([x]++List.drop (aheadS (E.map Ent.f) x.f.name) E)).Perm (([x]++List.drop (aheadS (E.map Ent.f) x.f.name) E)++List.take (aheadS (E.map Ent.f) x.f.name) E):=List.perm_append_comm;refine h.trans ?_;rw[List.append_assoc];refine List.Perm.cons x ?_;have h2:(List.drop (aheadS (E.map Ent.f) x.f.name) E++List.take (aheadS (E.map Ent.f) x.f.name) E).Perm (List.take (aheadS (E.map Ent.f) x.f.name) E++List.drop (aheadS (E.map Ent.f) x.f.name) E):=List.perm_append_comm;rw[List.take_append_drop] at h2;exact h2
theorem dropE_perm (h:E[k]? = some x) : E.Perm (x::dropE E k):=by
 have hk:=(List.getElem?_eq_some_iff.1 h).1
 have e:E=E.take k++(x::E.drop (k+1)):=by
  have e2:E.drop k=x::E.drop (k+1):=by
   rw[List.drop_eq_getElem_cons hk];congr 1;rw[List.getElem?_eq_getElem hk] at h;simpa using h
  rw[← e2,List.take_append_drop]
 have h3:(E.take k++(x::E.drop (k+1))).Perm (x::(E.take k++E.drop (k+1))):=List.perm_middle;unfold dropE;rw[← e] at h3;exact h3
theorem dropE_sub : (dropE E k).Sublist E:=by
 unfold dropE;have e:E=E.take k++E.drop k:=(List.take_append_drop k E).symm;have h:(E.drop (k+1)).Sublist (E.drop k):=by rw[← List.drop_drop];exact List.drop_sublist _ _
 have h2:=(List.Sublist.refl (E.take k)).append h;rw[List.take_append_drop] at h2;exact h2
theorem clearE_sub : (clearE E n).Sublist E:=by
 unfold clearE;split
 ·exact dropE_sub
 ·exact List.Sublist.refl _
theorem apartE_symm {x y:Ent}(h:apartE x y) : apartE y x:=⟨fun e=>h.1 e.symm,fun b h1 h2=>h.2 b h2 h1⟩
theorem layE_apart (h:(x::E).Pairwise apartE) : (layE E x).Pairwise apartE:=(layE_perm.pairwise_iff (fun {a b} hab=>apartE_symm hab)).2 h
theorem dropE_apart (hk:E[k]? = some x)(h:E.Pairwise apartE) : (x::dropE E k).Pairwise apartE:=((dropE_perm hk).pairwise_iff (fun {a b} hab=>apartE_symm hab)).1 h
def Unlike (E:List Ent) : Prop:=E.Pairwise (fun x y=>x.f.name≠y.f.name)
theorem unlike_of (h:Rise (E.map Ent.f)) : Unlike E:=(List.pairwise_map (f:=Ent.f) (R:=fun x y=>x.name≠y.name)).1 (rise_names_ne h)
theorem dropE_unlike (hk:E[k]? = some x)(h:Unlike E) : Unlike (x::dropE E k):=((dropE_perm hk).pairwise_iff (fun {a b} hab e=>hab e.symm)).1 h
theorem dropE_names (hk:E[k]? = some x)(h:Unlike E) : ∀ y∈dropE E k,y.f.name≠x.f.name:=fun y hy e=>(List.pairwise_cons.1 (dropE_unlike hk h)).1 y hy e.symm
theorem dropE_mem (hk:E[k]? = some x){y:Ent}(hy:y∈E)(hn:y.f.name≠x.f.name) : y∈dropE E k:=by
 rcases List.mem_cons.1 ((dropE_perm hk).mem_iff.1 hy) with rfl | h
 ·exact absurd rfl hn
 ·exact h
theorem clearE_names (h:Unlike E) : ∀ y∈clearE E n,y.f.name≠n:=by
 unfold clearE;split
 ·rename_i hlt;obtain⟨f,hf,e⟩:=find_at (l:=E.map Ent.f) (n:=n) (by rw[List.length_map];exact hlt);rw[List.getElem?_map] at hf;cases hx:E[findS (E.map Ent.f) n]? with
  | none=>rw[hx] at hf;cases hf
  | some x =>
    rw[hx] at hf;obtain rfl:x.f=f:=by simpa using hf
    intro y hy;rw[← e];exact dropE_names hx h y hy
 ·rename_i hlt;intro y hy;exact not_found (l:=E.map Ent.f) (by rw[List.length_map];exact hlt) y.f (List.mem_map.2 ⟨y,hy,rfl⟩)
theorem clearE_mem {y:Ent}(hy:y∈E)(hn:y.f.name≠n) : y∈clearE E n:=by
 unfold clearE;split
 ·rename_i hlt;obtain⟨f,hf,e⟩:=find_at (l:=E.map Ent.f) (n:=n) (by rw[List.length_map];exact hlt);rw[List.getElem?_map] at hf;cases hx:E[findS (E.map Ent.f) n]? with
  | none=>rw[hx] at hf;cases hf
  | some x =>
    rw[hx] at hf;obtain rfl:x.f=f:=by simpa using hf
    exact dropE_mem hx hy (by rw[e];exact hn)
 ·exact hy
theorem rise_clear {l:List FileS}(h:Rise l)(n:ByteArray) : Rise (clearL l n):=by
 unfold clearL;split
 ·exact rise_drop h _
 ·exact h
end
section
variable {w w1 w' : World} {base g mb : Nat} {vF : Value} {E E' : List Ent} {K G : List Nat} {D D' : DiskS}
theorem PAt.nodup (h:PAt w base g mb vF E K D) : ((E.map Ent.nb).map (fun x=>x.1.data.toList)).Nodup:=by rw[nb_names h];exact rise_names h.rise
theorem PAt.unlike (h:PAt w base g mb vF E K D) : Unlike E:=unlike_of (by rw[← h.lst];exact h.rise)
theorem PAt.lenE (h:PAt w base g mb vF E K D) : E.length=D.l.length:=by rw[h.lst,List.length_map]
theorem drop_blocks : ∀ y∈blocksP g mb E' K,(∀ z∈E',z∈E)→y∈blocksP g mb E K:=by
 intro y hy hs;rcases mem_blocks.1 hy with e | e | e | ⟨z,hz,e⟩
 ·exact mem_blocks.2 (Or.inl e)
 ·exact mem_blocks.2 (Or.inr (Or.inl e))
 ·exact mem_K e
 ·exact mem_E (hs z hz) e
end
end Go.Proofs.YtokbfellcadkpaaGreat
namespace Go.Proofs.YtokbfellcadkpaaGreat
open Go.RowKit
set_option linter.unusedVariables false
section
variable {w w1 w' : World} {base g mb : Nat} {vF : Value} {E E' : List Ent} {K G : List Nat} {D D' : DiskS}
theorem PAt.namesE (h:PAt w base g mb vF E K D){x:Ent}(hx:x∈E) : x.f.name.size≤maxLen:=by
 have:=h.names x.f (by rw[h.lst];exact List.mem_map.2 ⟨x,hx,rfl⟩);unfold nameB at this;simp only[Bool.and_eq_true,decide_eq_true_eq] at this;unfold maxLen;omega
theorem delete_map (h:PAt w base g mb vF E K D){k:Nat}{x:Ent}(hk:E[k]? = some x) : ∃ w',(Builtin.delete_ #[71,9] 0 #[.map (some mb),.string x.f.name]).run Tryz.prog w = .ok (.tuple #[]) w'∧PAt w' base g mb vF (dropE E k) K { D with l:=dropS D.l k }∧Touch [mb] w w':=by
 have hx:=List.mem_of_getElem? hk
 obtain⟨w',hr,hm,ht⟩:=h.map.drop (L':=(dropE E k).map Ent.nb) (h.namesE hx) (fun y hy=>by
  obtain⟨z,hz,rfl⟩:=List.mem_map.1 hy;exact⟨List.mem_map.2 ⟨z,dropE_sub.subset hz,rfl⟩,dropE_names hk h.unlike z hz⟩) (fun y hy hne=>by
  obtain⟨z,hz,rfl⟩:=List.mem_map.1 hy;exact List.mem_map.2 ⟨z,dropE_mem hk hz hne,rfl⟩) 0
 refine⟨w',hr,h.putMap (dropE E k) _ (by rw[dropE_f,← h.lst]) hm ht (fun y hy=>h.ents y (dropE_sub.subset hy)) (List.Pairwise.sublist dropE_sub h.apart) (rise_drop h.rise k) (fun f hf=>h.names f (drop_mem hf)),ht⟩
set_option maxRecDepth 100000 in
theorem delete_run (h:PAt w base g mb vF E K D)(hok:ProgOk D)(n:ByteArray)(hn:n.size≤maxLen) : Calls Tryz.prog 54 #[ptr g,.string n] w (EndAt ProgAt base g (blocksP g mb E K) w (err (deleteS D n).1) (deleteS D n).2):=by
 have HH:=Lib.hid h;cases hd:D.down
 ·by_cases hf:findS D.l n<D.l.length
  ·obtain⟨x,hx,hl,hxn⟩:=ent_at h hf;have ho:=Lib.hid (open_yes h hd hx (by rw[hxn];exact hn));rw[hxn] at ho;rw[deleteS_go hd hf];generalize findS D.l n=k at *;cases hg:goesS D
   ·have hfl:=Lib.hid (fails_sinks h hok hg);simp only[Bool.false_eq_true,if_false];generalize sinkS D D.keep=D2 at *;clear h hok hx hl hxn hf hd hg;go_enter Tryz.func54,Tryz.ntmps54;go_wp2_with fail;refine ho.out.mono ?_;rintro e w' ⟨rfl,rfl⟩;go_wp2_with fail;refine hfl.out.mono ?_;rintro e w2 ⟨E',rfl,h1,h2,h3⟩;have H1:=Lib.hid h1;have H2:=Lib.hid h2;have H3:=Lib.hid h3;clear h1 h2 h3 hfl;go_wp2;go_ret;exact end_sunk H1.out H2.out H3.out _
   ·have hfl:=Lib.hid (fails_goes h hg);simp only[if_true];have HX:=Lib.hid hx;have HN:=Lib.hid hxn;clear h hok hx hl hxn hf hd hg;go_enter Tryz.func54,Tryz.ntmps54;go_wp2_with fail;refine ho.out.mono ?_;rintro e w' ⟨rfl,rfl⟩;go_wp2_with fail;refine hfl.out.mono ?_;rintro e w2 ⟨rfl,h1,h2⟩;obtain⟨w3,hr,h3,h4⟩:=delete_map h1 HX.out;rw[HN.out] at hr;obtain⟨c0,c1,c2,c3,c4,c5,c6⟩:=h1.cells;have H3:=Lib.hid h3;have H4:=Lib.hid h4;have H2:=Lib.hid h2;clear h1 h2 h3 h4 hfl c0 c1 c3 c4 c5 c6;go_wp2;go_ret;refine⟨_,rfl,H3.out.at,fun y hy=>Or.inl (drop_blocks y hy (fun z hz=>dropE_sub.subset hz)), ?_⟩;exact(H2.out.more (fun b hb=>Or.inl (mem_K hb))).trans H4.out (fun b hb=>Or.inl (by rw[List.mem_singleton.1 hb];exact mem_mb))
  ·have ho:=Lib.hid (open_no h hd hf hn);rw[deleteS_none hd hf];clear h hok hf hd;go_enter Tryz.func54,Tryz.ntmps54;go_wp2_with fail;refine ho.out.mono ?_;rintro e w' ⟨rfl,rfl⟩;go_wp2;go_ret;exact end_same HH.out _
 ·have ho:=Lib.hid (open_down h hd n);rw[deleteS_down hd];clear h hok hd;go_enter Tryz.func54,Tryz.ntmps54;go_wp2_with fail;refine ho.out.mono ?_;rintro e w' ⟨rfl,rfl⟩;go_wp2;go_ret;exact end_same HH.out _
end
end Go.Proofs.YtokbfellcadkpaaGreat
namespace Go.Proofs.YtokbfellcadkpaaGreat
open Go.RowKit
set_option linter.unusedVariables false
section
variable {w w1 w' : World} {base g mb : Nat} {vF : Value} {E E' : List Ent} {K G : List Nat} {D D' : DiskS}
def newE (w:World)(n:ByteArray) : Ent:=⟨⟨n,ByteArray.empty,0⟩,w.heap.size,.slice none 0 0⟩
def newW (w:World) : World:=w.alloc (.cells #[.slice none 0 0,.int .i64 0] 177)
theorem create_map (h:PAt w base g mb vF E K D)(n:ByteArray)(hnb:nameB n=true)(hn:n.size≤maxLen)(hf:¬ findS D.l n<D.l.length)(hm:D.l.length≤400) :
  ∃ w',(Instr.mapUpdate 71 (.map (some mb)) (.string n) (ptr w.heap.size)).run Tryz.prog (newW w) = .ok () w'∧PAt w' base g mb vF (layE E (newE w n)) K { D with l:=layS D.l ⟨n,ByteArray.empty,0⟩ }∧Touch [mb] w w':=by
 have ht0:Touch [] w (newW w):=(Touch.refl [] w).alloc _;have h0:=h.touch ht0 (fun _ _=>by simp);have hbase:base≤w.heap.size:=by have:=h.gb;have:=h.disk.lt;omega
 have hE0:EntAt (newW w) base (newE w n):=⟨Blok.new w _ _,hbase,bytes_nil _ _⟩
 have hne:∀ y∈E,y.f.name≠n:=fun y hy=>not_found hf y.f (by rw[h.lst];exact List.mem_map.2 ⟨y,hy,rfl⟩)
 have hap:(newE w n::E).Pairwise apartE:=List.pairwise_cons.2 ⟨fun y hy=>⟨fun e=>by
  have:=(h.ents y hy).1.lt;have e':w.heap.size=y.b:=e;omega,fun b hb=>by cases hb⟩,h.apart⟩
 obtain⟨w',hr,hmm,ht⟩:=h0.map.store h0.nodup (by rw[List.length_map,h.lenE];exact hm) hn (b:=w.heap.size) (L':=(layE E (newE w n)).map Ent.nb) (List.mem_map.2 ⟨newE w n,layE_perm.mem_iff.2 (by simp),rfl⟩)
  (fun y hy=>by
   obtain⟨z,hz,rfl⟩:=List.mem_map.1 hy;rcases List.mem_cons.1 (layE_perm.mem_iff.1 hz) with rfl | hz
   ·exact Or.inl rfl
   ·exact Or.inr ⟨List.mem_map.2 ⟨z,hz,rfl⟩,hne z hz⟩)
  (fun y hy _=>by
   obtain⟨z,hz,rfl⟩:=List.mem_map.1 hy;exact List.mem_map.2 ⟨z,layE_perm.mem_iff.2 (by simp[hz]),rfl⟩)
 have hfe:(newE w n).f=⟨n,ByteArray.empty,0⟩:=rfl;refine⟨w',hr,h0.putMap (layE E (newE w n)) _ (by rw[layE_f,hfe,← h.lst]) hmm ht (fun y hy=>?_) (layE_apart hap) (rise_lay h.rise _ (fun y hy=>not_found hf y hy)) (fun f hf=>?_),(ht0.more (fun x hx=>by cases hx)).trans ht (fun b hb=>Or.inl hb)⟩
 ·rcases List.mem_cons.1 (layE_perm.mem_iff.1 hy) with rfl | hy
  ·exact hE0
  ·exact h0.ents y hy
 ·rcases lay_mem hf with hf | rfl
  ·exact h.names f hf
  ·exact hnb
theorem lay_blocks {x:Ent}{z:Nat}(hz:∀ b∈x.blocks,z≤b) : ∀ y∈blocksP g mb (layE E x) K,y∈blocksP g mb E K∨z≤y:=by
 intro y hy;rcases mem_blocks.1 hy with e | e | e | ⟨u,hu,e⟩
 ·exact Or.inl (mem_blocks.2 (Or.inl e))
 ·exact Or.inl (mem_blocks.2 (Or.inr (Or.inl e)))
 ·exact Or.inl (mem_K e)
 ·rcases List.mem_cons.1 (layE_perm.mem_iff.1 hu) with rfl | hu
  ·exact Or.inr (hz y e)
  ·exact Or.inl (mem_E hu e)
set_option maxRecDepth 100000 in
set_option maxHeartbeats 2000000 in
theorem create_run (h:PAt w base g mb vF E K D)(hok:ProgOk D)(n:ByteArray)(hn:n.size≤maxLen) : Calls Tryz.prog 129 #[ptr g,.string n] w (EndAt ProgAt base g (blocksP g mb E K) w (err (createS D n).1) (createS D n).2):=by
 have HH:=Lib.hid h;have hr:=Lib.hid (ready_run h);unfold readyR at hr;cases hd:D.down
 case true =>
  rw[createS_down hd];rw[hd] at hr;clear h hok hd;go_enter Tryz.func129,Tryz.ntmps129;go_wp2_with fail;refine hr.out.mono ?_;rintro e w' ⟨rfl,rfl⟩;go_wp2;go_ret;exact end_same HH.out _
 rw[hd] at hr;have hnm:=Lib.hid (isName_run n w hn);cases hnb:nameB n
 case false =>
  rw[createS_arg hd hnb];rw[hnb] at hnm;clear h hok hd hnb;go_enter Tryz.func129,Tryz.ntmps129;go_wp2_with fail;refine hr.out.mono ?_;rintro e w' ⟨rfl,rfl⟩;go_wp2_with fail;refine hnm.out.mono ?_;rintro e w' ⟨rfl,rfl⟩;go_wp2;go_ret;exact end_same HH.out _
 rw[hnb] at hnm;obtain⟨c0,c1,c2,c3,c4,c5,c6⟩:=h.cells;by_cases hf:findS D.l n<D.l.length
 case pos =>
  obtain⟨x,hx,hl,hxn⟩:=ent_at h hf;rw[createS_have hd hnb hf];have hl:=h.map.look hn (b:=x.b) (List.mem_map.2 ⟨x,List.mem_of_getElem? hx,by unfold Ent.nb;rw[hxn]⟩);clear h hok hd hnb hf hx hxn c0 c1 c3 c4 c5 c6;generalize x.b=xb at *;go_enter Tryz.func129,Tryz.ntmps129;go_wp2_with fail;refine hr.out.mono ?_;rintro e w' ⟨rfl,rfl⟩;go_wp2_with fail;refine hnm.out.mono ?_;rintro e w' ⟨rfl,rfl⟩;go_wp2;go_ret;exact end_same HH.out _
 have hl:=h.map.lookNo hn (fun y hy=>by
  obtain⟨x,hx,rfl⟩:=List.mem_map.1 hy;exact not_found hf x.f (by rw[h.lst];exact List.mem_map.2 ⟨x,hx,rfl⟩))
 have hlen:=fun ts=>h.map.len h.nodup ts
 rw[List.length_map,h.lenE] at hlen;have hmany:=hok.many;by_cases hm:400≤D.l.length
 case pos =>
  rw[createS_full hd hnb hf hm];have q:decide ((400:Int)≤(D.l.length:Int))=true:=decide_eq_true (by omega);clear h hok hd hnb hf c0 c1 c3 c4 c5 c6;go_enter Tryz.func129,Tryz.ntmps129;go_wp2_with fail;refine hr.out.mono ?_;rintro e w' ⟨rfl,rfl⟩;go_wp2_with fail;refine hnm.out.mono ?_;rintro e w' ⟨rfl,rfl⟩;go_wp2;go_ret;exact end_same HH.out _
 rw[createS_go hd hnb hf hm];have q:decide ((400:Int)≤(D.l.length:Int))=false:=decide_eq_false (by omega);cases hg:goesS D
 ·have hfl:=Lib.hid (fails_sinks h hok hg);simp only[Bool.false_eq_true,if_false];generalize sinkS D D.keep=D2 at *;clear h hok hd hg hnb hf c0 c1 c3 c4 c5 c6;go_enter Tryz.func129,Tryz.ntmps129;go_wp2_with fail;refine hr.out.mono ?_;rintro e w' ⟨rfl,rfl⟩;go_wp2_with fail;refine hnm.out.mono ?_;rintro e w' ⟨rfl,rfl⟩;go_wp2_with fail;refine hfl.out.mono ?_;rintro e w2 ⟨E',rfl,h1,h2,h3⟩;have H1:=Lib.hid h1;have H2:=Lib.hid h2;have H3:=Lib.hid h3;clear h1 h2 h3 hfl;go_wp2;go_ret;exact end_sunk H1.out H2.out H3.out _
 ·have hfl:=Lib.hid (fails_goes h hg);simp only[if_true];have HNB:=Lib.hid hnb;have HF:=Lib.hid hf;have HMM:=Lib.hid hmany;clear h hok hd hg hnb hf c0 c1 c3 c4 c5 c6 hm;go_enter Tryz.func129,Tryz.ntmps129;go_wp2_with fail;refine hr.out.mono ?_;rintro e w' ⟨rfl,rfl⟩;go_wp2_with fail;refine hnm.out.mono ?_;rintro e w' ⟨rfl,rfl⟩;go_wp2_with fail;refine hfl.out.mono ?_;rintro e w2 ⟨rfl,h1,h2⟩;obtain⟨w3,hr3,h3,h4⟩:=create_map h1 n HNB.out hn HF.out HMM.out;obtain⟨c0,c1,c2',c3,c4,c5,c6⟩:=h1.cells;have H3:=Lib.hid h3;have H4:=Lib.hid h4;have H2:=Lib.hid h2
  have HLB:=Lib.hid (lay_blocks (g:=g) (mb:=mb) (E:=E) (K:=K) (x:=newE w2 n) (z:=w.heap.size) (fun b hb=>by
   have e:b=w2.heap.size:=by simpa[newE,Ent.blocks,Value.ownBlock] using hb
   rw[e];exact h2.size))
  unfold newW at hr3;clear h1 h2 h3 h4 hfl c0 c1 c3 c4 c5 c6 c2 hl hlen;go_wp2;go_ret;refine⟨_,rfl,H3.out.at,HLB.out, ?_⟩;exact(H2.out.more (fun b hb=>Or.inl (mem_K hb))).trans H4.out (fun b hb=>Or.inl (by rw[List.mem_singleton.1 hb];exact mem_mb))
end
end Go.Proofs.YtokbfellcadkpaaGreat
namespace Go.Proofs.YtokbfellcadkpaaGreat
open Go.RowKit
set_option linter.unusedVariables false
section
variable {w w1 w' : World} {base g mb : Nat} {vF : Value} {E E' : List Ent} {K G : List Nat} {D D' : DiskS}
def namedE (x:Ent)(n:ByteArray) : Ent:=⟨{ x.f with name:=n },x.b,x.v⟩
theorem named_at {x:Ent}{n:ByteArray}(h:EntAt w base x) : EntAt w base (namedE x n):=⟨h.1,h.2.1,h.2.2⟩
def renL (l:List FileS)(k:Nat)(n tn:ByteArray) : List FileS:=if n=tn then l else renameL l k tn
theorem back_map (h:PAt w base g mb vF E K D){k:Nat}{x:Ent}(hk:E[k]? = some x)(hm:D.l.length≤400)(hd:PAt w1 base g mb vF (dropE E k) K { D with l:=dropS D.l k })(ht:Touch [mb] w w1) :
  ∃ w',(Instr.mapUpdate 71 (.map (some mb)) (.string x.f.name) (ptr x.b)).run Tryz.prog w1 = .ok () w'∧PAt w' base g mb vF E K D∧Touch [mb] w1 w':=by
 have hx:=List.mem_of_getElem? hk
 obtain⟨w',hr,hmm,ht2⟩:=hd.map.store hd.nodup (by
  have h1:(dropE E k).length≤E.length:=dropE_sub.length_le;rw[List.length_map];have:=h.lenE;omega) (h.namesE hx) (b:=x.b) (L':=E.map Ent.nb) (List.mem_map.2 ⟨x,hx,rfl⟩)
  (fun y hy=>by
   obtain⟨z,hz,rfl⟩:=List.mem_map.1 hy;rcases List.mem_cons.1 ((dropE_perm hk).mem_iff.1 hz) with rfl | hz
   ·exact Or.inl rfl
   ·exact Or.inr ⟨List.mem_map.2 ⟨z,hz,rfl⟩,dropE_names hk h.unlike z hz⟩)
  (fun y hy _=>by
   obtain⟨z,hz,rfl⟩:=List.mem_map.1 hy;exact List.mem_map.2 ⟨z,dropE_sub.subset hz,rfl⟩)
 have hT:Touch [mb] w w':=ht.trans ht2 (fun b hb=>Or.inl hb);have hp:=h.putMap E D.l h.lst hmm hT h.ents h.apart h.rise h.names;exact⟨w',hr,hp,ht2⟩
theorem move_map (h:PAt w base g mb vF E K D){k:Nat}{x:Ent}(hk:E[k]? = some x){tn:ByteArray}(hnb:nameB tn=true)(htn:tn.size≤maxLen)(hne:x.f.name≠tn)(hm:D.l.length≤400)(hd:PAt w1 base g mb vF (dropE E k) K { D with l:=dropS D.l k })(ht:Touch [mb] w w1) :
  ∃ w',(Instr.mapUpdate 71 (.map (some mb)) (.string tn) (ptr x.b)).run Tryz.prog w1 = .ok () w'∧PAt w' base g mb vF (layE (clearE (dropE E k) tn) (namedE x tn)) K { D with l:=renameL D.l k tn }∧Touch [mb] w1 w':=by
 have hx:=List.mem_of_getElem? hk;have hnames:=clearE_names (n:=tn) hd.unlike
 obtain⟨w',hr,hmm,ht2⟩:=hd.map.store hd.nodup (by
  have h1:(dropE E k).length≤E.length:=dropE_sub.length_le;rw[List.length_map];have:=h.lenE;omega) htn (b:=x.b) (L':=(layE (clearE (dropE E k) tn) (namedE x tn)).map Ent.nb) (List.mem_map.2 ⟨namedE x tn,layE_perm.mem_iff.2 (by simp),rfl⟩)
  (fun y hy=>by
   obtain⟨z,hz,rfl⟩:=List.mem_map.1 hy;rcases List.mem_cons.1 (layE_perm.mem_iff.1 hz) with rfl | hz
   ·exact Or.inl rfl
   ·exact Or.inr ⟨List.mem_map.2 ⟨z,clearE_sub.subset hz,rfl⟩,hnames z hz⟩)
  (fun y hy hyn=>by
   obtain⟨z,hz,rfl⟩:=List.mem_map.1 hy;exact List.mem_map.2 ⟨z,layE_perm.mem_iff.2 (by simp[clearE_mem hz hyn]),rfl⟩)
 have hfk:D.l[k]? = some x.f:=by rw[h.lst,List.getElem?_map,hk];rfl
 have hfe:(namedE x tn).f={ x.f with name:=tn }:=rfl
 have hap:(namedE x tn::clearE (dropE E k) tn).Pairwise apartE:=by
  obtain⟨p1,p2⟩:=List.pairwise_cons.1 (dropE_apart hk h.apart);exact List.pairwise_cons.2 ⟨fun y hy=>p1 y (clearE_sub.subset hy),List.Pairwise.sublist clearE_sub p2⟩
 have hl:renameL D.l k tn=(layE (clearE (dropE E k) tn) (namedE x tn)).map Ent.f:=by
  rw[renameL_at hfk,layE_f,clearE_f,dropE_f,hfe,← h.lst]
 have hT:Touch [mb] w w':=ht.trans ht2 (fun b hb=>Or.inl hb);refine⟨w',hr,h.putMap _ _ hl hmm hT (fun y hy=>?_) (layE_apart hap) ?_ (fun f hf=>?_),ht2⟩
 ·rcases List.mem_cons.1 (layE_perm.mem_iff.1 hy) with rfl | hy
  ·exact named_at (h.ents x hx)
  ·exact h.ents y (dropE_sub.subset (clearE_sub.subset hy))
 ·rw[renameL_at hfk];refine rise_lay (rise_clear (rise_drop h.rise k) tn) _ (fun f hf=>?_);have hf':f∈(clearE (dropE E k) tn).map Ent.f:=by rw[clearE_f,dropE_f,← h.lst];exact hf
  obtain⟨z,hz,rfl⟩:=List.mem_map.1 hf';exact hnames z hz
 ·rw[renameL_at hfk] at hf;rcases lay_mem hf with hf | rfl
  ·exact h.names f (drop_mem (clear_mem hf))
  ·exact hnb
set_option maxRecDepth 100000 in
set_option maxHeartbeats 2000000 in
theorem rename_run (h:PAt w base g mb vF E K D)(hok:ProgOk D)(n tn:ByteArray)(hn:n.size≤maxLen)(htn:tn.size≤maxLen) : Calls Tryz.prog 190 #[ptr g,.string n,.string tn] w (EndAt ProgAt base g (blocksP g mb E K) w (err (renameS D n tn).1) (renameS D n tn).2):=by
 have HH:=Lib.hid h;cases hd:D.down
 case true =>
  have ho:=Lib.hid (open_down h hd n);rw[renameS_down hd];clear h hok hd;go_enter Tryz.func190,Tryz.ntmps190;go_wp2_with fail;refine ho.out.mono ?_;rintro e w' ⟨rfl,rfl⟩;go_wp2;go_ret;exact end_same HH.out _
 by_cases hf:findS D.l n<D.l.length
 case neg =>
  have ho:=Lib.hid (open_no h hd hf hn);rw[renameS_none hd hf];clear h hok hf hd;go_enter Tryz.func190,Tryz.ntmps190;go_wp2_with fail;refine ho.out.mono ?_;rintro e w' ⟨rfl,rfl⟩;go_wp2;go_ret;exact end_same HH.out _
 obtain⟨x,hx,hl,hxn⟩:=ent_at h hf;have ho:=Lib.hid (open_yes h hd hx (by rw[hxn];exact hn));rw[hxn] at ho;have hnm:=Lib.hid (isName_run tn w htn);cases hnb:nameB tn
 case false =>
  rw[renameS_arg hd hf hnb];rw[hnb] at hnm;clear h hok hd hnb hf hx hl hxn;go_enter Tryz.func190,Tryz.ntmps190;go_wp2_with fail;refine ho.out.mono ?_;rintro e w' ⟨rfl,rfl⟩;go_wp2_with fail;refine hnm.out.mono ?_;rintro e w' ⟨rfl,rfl⟩;go_wp2;go_ret;exact end_same HH.out _
 rw[hnb] at hnm;rw[renameS_go hd hf hnb,show(if n=tn then D.l else renameL D.l (findS D.l n) tn)=renL D.l (findS D.l n) n tn from rfl];generalize findS D.l n=k at *;cases hg:goesS D
 ·have hfl:=Lib.hid (fails_sinks h hok hg);simp only[Bool.false_eq_true,if_false];generalize sinkS D D.keep=D2 at *;clear h hok hx hl hxn hf hd hg hnb;go_enter Tryz.func190,Tryz.ntmps190;go_wp2_with fail;refine ho.out.mono ?_;rintro e w' ⟨rfl,rfl⟩;go_wp2_with fail;refine hnm.out.mono ?_;rintro e w' ⟨rfl,rfl⟩;go_wp2_with fail;refine hfl.out.mono ?_;rintro e w2 ⟨E',rfl,h1,h2,h3⟩;have H1:=Lib.hid h1;have H2:=Lib.hid h2;have H3:=Lib.hid h3;clear h1 h2 h3 hfl;go_wp2;go_ret;exact end_sunk H1.out H2.out H3.out _
 ·have hfl:=Lib.hid (fails_goes h hg);simp only[if_true];have HX:=Lib.hid hx;have HN:=Lib.hid hxn;have HNB:=Lib.hid hnb;have HMM:=Lib.hid hok.many;have hbx:∀ b∈x.blocks,b∈blocksP g mb E K:=fun b hb=>mem_E (List.mem_of_getElem? hx) hb
  have HBX:=Lib.hid hbx;clear h hok hx hl hxn hf hd hg hnb hbx;go_enter Tryz.func190,Tryz.ntmps190;go_wp2_with fail;refine ho.out.mono ?_;rintro e w' ⟨rfl,rfl⟩;go_wp2_with fail;refine hnm.out.mono ?_;rintro e w' ⟨rfl,rfl⟩;go_wp2_with fail;refine hfl.out.mono ?_;rintro e w2 ⟨rfl,h1,h2⟩;obtain⟨w3,hr,h3,h4⟩:=delete_map h1 HX.out
  have hboth:∃ w4 E4,(Instr.mapUpdate 71 (.map (some mb)) (.string tn) (ptr x.b)).run Tryz.prog w3 = .ok () w4∧PAt w4 base g mb vF E4 K { nextS D with l:=renL D.l k n tn }∧Touch [mb] w3 w4∧(∀ y∈blocksP g mb E4 K,y∈blocksP g mb E K):=by
   by_cases hnt:n=tn
   ·obtain⟨w4,q1,q2,q3⟩:=back_map h1 HX.out HMM.out h3 h4;refine⟨w4,E, ?_,by unfold renL;rw[if_pos hnt];exact q2,q3,fun _ h=>h⟩;rw[← hnt,← HN.out];exact q1
   ·obtain⟨w4,q1,q2,q3⟩:=move_map h1 HX.out HNB.out htn (by rw[HN.out];exact hnt) HMM.out h3 h4;refine⟨w4,_,q1,by unfold renL;rw[if_neg hnt];exact q2,q3,fun y hy=>?_⟩;rcases mem_blocks.1 hy with e | e | e | ⟨u,hu,e⟩
    ·exact mem_blocks.2 (Or.inl e)
    ·exact mem_blocks.2 (Or.inr (Or.inl e))
    ·exact mem_K e
    ·rcases List.mem_cons.1 (layE_perm.mem_iff.1 hu) with rfl | hu
     ·exact HBX.out y e
     ·exact mem_E (dropE_sub.subset (clearE_sub.subset hu)) e
  obtain⟨w4,E4,hr4,h5,h6,h7⟩:=hboth;rw[HN.out] at hr;obtain⟨c0,c1,c2,c3,c4,c5,c6⟩:=h1.cells;obtain⟨e0,e1,e2,e3,e4,e5,e6⟩:=h3.cells;have hT:Touch (blocksP g mb E K) w w4:=((h2.more (fun b hb=>Or.inl (mem_K hb))).trans h4 (fun b hb=>Or.inl (by rw[List.mem_singleton.1 hb];exact mem_mb))).trans h6 (fun b hb=>Or.inl (by rw[List.mem_singleton.1 hb];exact mem_mb));have H5:=Lib.hid h5;have H7:=Lib.hid h7;have HT:=Lib.hid hT;clear h1 h2 h3 h4 h5 h6 h7 hT hfl c0 c1 c3 c4 c5 c6 e0 e1 e3 e4 e5 e6;go_wp2;go_ret;exact⟨_,rfl,H5.out.at,fun y hy=>Or.inl (H7.out y hy),HT.out⟩
end
end Go.Proofs.YtokbfellcadkpaaGreat
namespace Go.Proofs.YtokbfellcadkpaaGreat
open Go.RowKit
set_option linter.unusedVariables false
set_option maxRecDepth 100000
end Go.Proofs.YtokbfellcadkpaaGreat
namespace Go.Proofs.YtokbfellcadkpaaGreat
open Go.RowKit
set_option linter.unusedVariables false
def madeW (w:World)(c:Nat) : World:=(w.alloc (.map #[] 0)).alloc (.cells #[ptr (w.heap.size+1),.int .i64 (c:Nat),.map (some w.heap.size),.bool true,.int .i64 0,.int .i64 0,.pointer none] 74)
theorem new_mem (base c:Nat)(w:World)(hb:base≤w.heap.size) : PAt (madeW w c) base (w.heap.size+1) w.heap.size (.pointer none) [] [] (newS c):=by
 have hs:(w.alloc (.map #[] 0)).heap.size=w.heap.size+1:=by simp
 have hm:=MapAt.made w (.map #[] 0) rfl
 have h1:Blok (madeW w c) (w.heap.size+1) 74 #[ptr (w.heap.size+1),.int .i64 (c:Nat),.map (some w.heap.size),.bool true,.int .i64 0,.int .i64 0,.pointer none]:=by
  have:=Blok.new (w.alloc (.map #[] 0)) 74 #[ptr (w.heap.size+1),.int .i64 (c:Nat),.map (some w.heap.size),.bool true,.int .i64 0,.int .i64 0,.pointer none];rw[hs] at this;exact this
 have hm2:MapAt (madeW w c) w.heap.size []:=hm.touch ((Touch.refl [] (w.alloc (.map #[] 0))).alloc _) (by simp);exact⟨h1,by omega,hb,rfl,hm2,fun x hx=>(by cases hx),List.Pairwise.nil,List.Pairwise.nil,fun x hx=>(by cases hx),Or.inl ⟨rfl,rfl,rfl⟩⟩
set_option maxRecDepth 100000 in
theorem new_run (base c:Nat)(w:World)(hb:base≤w.heap.size)(hc:c≤1048576) : Calls Tryz.prog 7 #[.int .i64 (c:Nat)] w (MadeAt ProgAt base w c):=by
 have h0:decide ((c:Int)<0)=false:=decide_eq_false (by omega);have h1:decide ((1048576:Int)<(c:Int))=false:=decide_eq_false (by omega);have hmm:=@run_makeMap Tryz.prog;have HM:=Lib.hid (new_mem base c w hb);have hs:(w.alloc (.map #[] 0)).heap.size=w.heap.size+1:=by simp
 clear hb hc;go_enter Tryz.func7,Tryz.ntmps7;go_wp2;go_ret2;have hT:Touch [] w (madeW w c):=((Touch.refl [] w).alloc _).alloc _;refine⟨w.heap.size+1,_,rfl,HM.out.at,fun x hx=>?_,hT⟩;rcases mem_blocks.1 hx with rfl | rfl | e | ⟨_,e,_⟩
 ·omega
 ·omega
 ·cases e
 ·cases e
end Go.Proofs.YtokbfellcadkpaaGreat
namespace Go.Proofs.YtokbfellcadkpaaGreat
open Go.RowKit
set_option linter.unusedVariables false
end Go.Proofs.YtokbfellcadkpaaGreat
