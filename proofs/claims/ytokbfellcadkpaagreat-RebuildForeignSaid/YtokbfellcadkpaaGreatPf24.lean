/- ZfDMem -/
import Derived.Test.YtokbfellcadkpaaGreatPf05
import Derived.Sort.Walk0
import Derived.Sort.KeysCollected
import Derived.Maps.RangeWalk
import Derived.Test.YtokbfellcadkpaaGreatPf03
import Derived.Test.YtokbfellcadkpaaGreatPf01
import Derived.Deep.DeepCutAuto
import Derived.Deep.RegionHeld3
import Derived.Maps.AppendAt
import Derived.Deep.AppendSrc
namespace Go.Proofs.YtokbfellcadkpaaGreat
open Go.RowKit
set_option linter.unusedVariables false
set_option maxRecDepth 100000
theorem less_iff (a b:ByteArray) : lessB a b=true↔a.data.toList<b.data.toList:=by
 unfold lessB;rw[bytesLess_eq,ByteArray.toList_eq,ByteArray.toList_eq];exact decide_eq_true_iff
theorem data_inj {a b:ByteArray}(h:a.data.toList=b.data.toList) : a=b:=ByteArray.ext (Array.toList_inj.1 h)
theorem less_irrefl (a:ByteArray) : ¬ lessB a a=true:=fun h=>List.lt_irrefl _ ((less_iff a a).1 h)
theorem less_trans {a b c:ByteArray}(h:lessB a b=true)(k:lessB b c=true) : lessB a c=true:=(less_iff a c).2 (List.lt_trans ((less_iff a b).1 h) ((less_iff b c).1 k))
theorem less_other {a b:ByteArray}(h:¬ lessB a b=true)(hne:a≠b) : lessB b a=true:=by
 rw[less_iff] at h ⊢;have h1:b.data.toList≤a.data.toList:=List.not_lt.1 h;rcases Decidable.em (b.data.toList<a.data.toList) with c | c
 ·exact c
 ·exact absurd (data_inj (List.le_antisymm (List.not_lt.1 c) h1)) hne
def Rise (l:List FileS) : Prop:=l.Pairwise (fun x y=>lessB x.name y.name=true)
theorem Rise.ne {l:List FileS}(h:Rise l){i j:Nat}{x y:FileS}(hi:l[i]? = some x)(hj:l[j]? = some y)(hij:i<j) : lessB x.name y.name=true:=by
 have hjl:=(List.getElem?_eq_some_iff.1 hj).1;have:=List.pairwise_iff_getElem.1 h i j (by omega) hjl hij;rw[List.getElem?_eq_getElem (by omega)] at hi;rw[List.getElem?_eq_getElem hjl] at hj;injection hi with hi;injection hj with hj;rw[hi,hj] at this;exact this
theorem not_found {l:List FileS}{n:ByteArray}(h:¬ findS l n<l.length) : ∀ x∈l,x.name≠n:=by
 intro x hx e;obtain⟨j,hj⟩:=List.getElem?_of_mem hx;have:=find_lt hj e;have:=(List.getElem?_eq_some_iff.1 hj).1;omega
theorem ahead_less (l:List FileS)(n:ByteArray) : ∀ x∈l.take (aheadS l n),lessB x.name n=true:=by
 intro x hx;obtain⟨j,hj⟩:=List.getElem?_of_mem hx;have hjl:=(List.getElem?_eq_some_iff.1 hj).1;rw[List.length_take] at hjl;rw[List.getElem?_take,if_pos (by omega),List.getElem?_eq_getElem (by omega)] at hj;injection hj with hj;have:=List.not_of_lt_findIdx (p:=fun f=>!lessB f.name n) (xs:=l) (i:=j) (by unfold aheadS at hjl;omega);rw[hj] at this;simpa using this
theorem behind_more (l:List FileS)(n:ByteArray)(hr:Rise l)(hn:∀ x∈l,x.name≠n) : ∀ x∈l.drop (aheadS l n),lessB n x.name=true:=by
 intro x hx;obtain⟨j,hj⟩:=List.getElem?_of_mem hx;rw[List.getElem?_drop] at hj;have hjl:=(List.getElem?_eq_some_iff.1 hj).1;have ha:aheadS l n<l.length:=by omega
 have ha':l.findIdx (fun f=>!lessB f.name n)<l.length:=ha;have h0:=List.findIdx_getElem (p:=fun f=>!lessB f.name n) (xs:=l) (w:=ha')
 have h1:¬ lessB (l[aheadS l n]).name n=true:=by
  have:(!lessB (l[aheadS l n]).name n)=true:=h0;simpa using this
 have h2:=less_other h1 (hn _ (List.getElem_mem ha));rcases Nat.eq_zero_or_pos j with rfl | hj0
 ·rw[Nat.add_zero,List.getElem?_eq_getElem ha] at hj;injection hj with hj;rw[← hj];exact h2
 ·exact less_trans h2 (hr.ne (List.getElem?_eq_getElem ha) hj (by omega))
theorem rise_lay {l:List FileS}(hr:Rise l)(f:FileS)(hn:∀ x∈l,x.name≠f.name) : Rise (layS l f):=by
 unfold layS Rise;have h1:=ahead_less l f.name;have h2:=behind_more l f.name hr hn;have ht:(l.take (aheadS l f.name)).Pairwise (fun x y=>lessB x.name y.name=true):=List.Pairwise.sublist (List.take_sublist _ _) hr;have hd:(l.drop (aheadS l f.name)).Pairwise (fun x y=>lessB x.name y.name=true):=List.Pairwise.sublist (List.drop_sublist _ _) hr;rw[List.append_assoc];refine List.pairwise_append.2 ⟨ht,List.pairwise_append.2 ⟨List.pairwise_singleton _ _,hd,fun a ha b hb=>?_⟩,fun a ha b hb=>?_⟩
 ·obtain rfl:a=f:=by simpa using ha
  exact h2 b hb
 ·rcases List.mem_append.1 hb with hb | hb
  ·obtain rfl:b=f:=by simpa using hb
   exact h1 a ha
  ·exact less_trans (h1 a ha) (h2 b hb)
theorem rise_drop {l:List FileS}(hr:Rise l)(i:Nat) : Rise (dropS l i):=by
 unfold dropS Rise;have e:l=l.take i++l.drop i:=(List.take_append_drop i l).symm;have h0:(l.take i++l.drop i).Pairwise (fun x y=>lessB x.name y.name=true):=by rw[List.take_append_drop];exact hr
 obtain⟨h1,h2,h3⟩:=List.pairwise_append.1 h0;have hs:(l.drop (i+1)).Sublist (l.drop i):=by rw[← List.drop_drop];exact List.drop_sublist _ _
 exact List.pairwise_append.2 ⟨h1,h2.sublist hs,fun a ha b hb=>h3 a ha b (hs.subset hb)⟩
theorem sorted_names {l:List FileS}(hr:Rise l){ss:List (List UInt8)}(hp:ss.Perm (l.map (fun f=>f.name.data.toList))) : ss.mergeSort (fun x y=>decide (x≤y))=l.map (fun f=>f.name.data.toList):=by
 have h1:ss.mergeSort leB=(l.map (fun f=>f.name.data.toList)).mergeSort leB:=mergeSort_of_perm hp;refine Eq.trans h1 (List.mergeSort_of_pairwise ?_);refine List.pairwise_map.2 (hr.imp fun {a b} h=>?_);show decide (a.name.data.toList≤b.name.data.toList)=true;exact decide_eq_true (List.le_of_lt ((less_iff _ _).1 h))
theorem rise_names {l:List FileS}(hr:Rise l) : (l.map (fun f=>f.name.data.toList)).Nodup:=by
 refine List.pairwise_map.2 (hr.imp fun {a b} h e=>?_);have:=(less_iff _ _).1 h;rw[e] at this;exact List.lt_irrefl _ this
theorem rise_names_ne {l:List FileS}(hr:Rise l) : l.Pairwise (fun x y=>x.name≠y.name):=hr.imp fun {a b} h e=>by rw[e] at h;exact less_irrefl _ h
end Go.Proofs.YtokbfellcadkpaaGreat
namespace Go.Proofs.YtokbfellcadkpaaGreat
open Go.RowKit
open Go.Maps (Keyed)
set_option linter.unusedVariables false
def entR : Value→Option (DataW Unit × List MemPlace)
 | .pointer none=>some (.lit (.int .i64 (-1)),[])
 | .pointer (some ⟨b,0,none⟩)=>some (.lit (.int .i64 (b:Int)),[])
 | _=>none
theorem entR_inv {v:Value}{y:DataW Unit × List MemPlace}(h:entR v=some y) : (v = .pointer none∧y.1 = .lit (.int .i64 (-1)))∨∃ b:Nat,v = .pointer (some ⟨b,0,none⟩)∧y.1 = .lit (.int .i64 (b:Int)):=by
 unfold entR at h;split at h
 ·injection h with h;subst h;exact Or.inl ⟨rfl,rfl⟩
 ·rename_i b;injection h with h;subst h;exact Or.inr ⟨b,rfl,rfl⟩
 ·cases h
def keyL (n:ByteArray) : Lit:=.string n.data.toList
theorem keyL_inj {a b:ByteArray}(h:keyL a=keyL b) : a=b:=by unfold keyL at h;injection h with h;exact data_inj h
theorem keyL_of {n:ByteArray}(h:n.size≤maxLen) : keyOf Tryz.prog 9 (.string n)=some (keyL n):=Go.WideMaps.keyOf_string_mk Tryz.underlying9 h
theorem keyL_is (n:ByteArray) : WideAt.IsKeyLit (keyL n):=trivial
theorem keysD : Keyed Tryz.prog 9:=Maps.string_keyed Tryz.underlying9
theorem zeroP (w:World) : (zeroValue 172).run Tryz.prog w = .ok (.pointer none) w:=by kernel_rfl
structure MapIs (D0:DataW Unit)(L:List (ByteArray × Nat)) : Prop where
 yes:∀ x∈L,∀ zd,D0.atKey (keyL x.1) zd = .lit (.int .i64 (x.2:Int))
 no:∀ n:ByteArray,(∀ x∈L,x.1≠n)→Maps.has D0 (keyL n)=false
def MapAt (w:World)(mb:Nat)(L:List (ByteArray × Nat)) : Prop:=∃ n D0,w.ownsMap Tryz.prog 9 entR mb n D0∧MapIs D0 L
section
variable {w w' : World} {mb : Nat} {L L' : List (ByteArray × Nat)} {D0 : DataW Unit} {F : List Nat}
theorem owns_touch {n:Nat}(h:w.ownsMap Tryz.prog 9 entR mb n D0)(ht:Touch F w w')(hm:mb ∉ F) : w'.ownsMap Tryz.prog 9 entR mb n D0:=by
 have hlt:=h.lt;obtain⟨es,clock,hb,r⟩:=h;exact⟨es,clock,(ht.block mb hlt hm).trans hb,r⟩
theorem MapAt.touch (h:MapAt w mb L)(ht:Touch F w w')(hm:mb ∉ F) : MapAt w' mb L:=by
 obtain⟨n,D0,h1,h2⟩:=h;exact⟨n,D0,owns_touch h1 ht hm,h2⟩
theorem MapAt.lt (h:MapAt w mb L) : mb<w.heap.size:=by
 obtain⟨n,D0,h1,h2⟩:=h;exact h1.lt
theorem MapAt.ne {g:Nat}{t:TypeId}{cs:Array Value}(h:MapAt w mb L)(hb:Blok w g t cs) : mb≠g:=by
 rintro rfl;obtain⟨n,D0,⟨es,clock,h1,_⟩,_⟩:=h;unfold Blok at hb;rw[hb] at h1;cases h1
theorem MapAt.own_ne {base size n:Nat}{e:TypeId}{v:Value}{xs:List Value}(h:MapAt w mb L)(hv:w.ownsRow base e size v n xs) : v.ownBlock≠some mb:=by
 intro hb;rcases hv.2 with⟨rfl,_⟩ | ⟨g',cap,cur,rfl,_,hh,_⟩
 ·cases hb
 ·obtain rfl:g'=mb:=by simpa[Value.ownBlock] using hb
  exact h.ne (show Blok w g' e cur from hh) rfl
theorem MapIs.has (h:MapIs D0 L){x:ByteArray × Nat}(hx:x∈L) : Maps.has D0 (keyL x.1)=true:=Maps.has_true_of_atKey (h.yes x hx)
theorem MapIs.mem (h:MapIs D0 L){n:ByteArray}(hn:Maps.has D0 (keyL n)=true) : ∃ x∈L,x.1=n:=by
 rcases Classical.em (∃ x∈L,x.1=n) with c | c
 ·exact c
 ·have:=h.no n (fun x hx e=>c ⟨x,hx,e⟩);rw[hn] at this;cases this
theorem look_run {n:Nat}(h:w.ownsMap Tryz.prog 9 entR mb n D0){m:ByteArray}(hm:m.size≤maxLen) :
  ∃ v ps,(Instr.lookup 71 (.map (some mb)) (.string m) false).run Tryz.prog w = .ok v w∧entR v=some (D0.atKey (keyL m) (.lit (.int .i64 (-1))),ps):=by
 obtain⟨es,clock,hb,F,_,rfl⟩:=h;rcases Maps.fit_look false keysD Tryz.underlying71 (zeroP w) hb F (keyL_of hm) with⟨hrun,_,hat⟩ | ⟨e0,y,_,_,hrun,hRv,hat,_⟩
 ·exact⟨_,[],hrun,by rw[hat];rfl⟩
 ·exact⟨e0.val,y.2,hrun,by rw[hat];exact hRv⟩
theorem MapAt.look (h:MapAt w mb L){m:ByteArray}(hm:m.size≤maxLen){b:Nat}(hx:(m,b)∈L) :
  (Instr.lookup 71 (.map (some mb)) (.string m) false).run Tryz.prog w = .ok (.pointer (some ⟨b,0,none⟩)) w:=by
 obtain⟨n,D0,h1,h2⟩:=h;obtain⟨v,ps,hr,hv⟩:=look_run h1 hm;rw[h2.yes (m,b) hx] at hv;rcases entR_inv hv with⟨rfl,e⟩ | ⟨b',rfl,e⟩
 ·simp only[DataW.lit.injEq,Lit.int.injEq,true_and] at e;omega
 ·simp only[DataW.lit.injEq,Lit.int.injEq,true_and] at e;obtain rfl:b=b':=by omega
  exact hr
theorem MapAt.lookNo (h:MapAt w mb L){m:ByteArray}(hm:m.size≤maxLen)(hx:∀ x∈L,x.1≠m) :
  (Instr.lookup 71 (.map (some mb)) (.string m) false).run Tryz.prog w = .ok (.pointer none) w:=by
 obtain⟨n,D0,h1,h2⟩:=h;obtain⟨v,ps,hr,hv⟩:=look_run h1 hm;rw[Maps.atKey_of_not_has (h2.no m hx)] at hv;rcases entR_inv hv with⟨rfl,e⟩ | ⟨b',rfl,e⟩
 ·exact hr
 ·simp only[DataW.lit.injEq,Lit.int.injEq,true_and] at e;omega
theorem MapIs.keys {n:Nat}(h:MapIs D0 L)(ho:w.ownsMap Tryz.prog 9 entR mb n D0)(hL:(L.map (fun x=>x.1.data.toList)).Nodup) : (L.map (fun x=>x.1.data.toList)).Perm (strKeys D0):=by
 obtain⟨es,e,hp,_⟩:=ho.entries keysD;obtain⟨es',e',hk⟩:=ho.keysOf;rw[e] at e';injection e' with e';subst e';rw[e];refine perm_strKeys hp (fun p hp=>?_) hL (fun x=>?_)
 ·obtain⟨v,hv⟩:=hk p hp;obtain⟨x,_,hx,_⟩:=Maps.keyOf_str Tryz.underlying9 hv;exact⟨x,hx⟩
 ·rw[← e];constructor
  ·intro hx;obtain⟨y,hy,rfl⟩:=List.mem_map.1 hx;exact h.has hy
  ·intro hx;obtain⟨y,hy,hn⟩:=h.mem (n:=⟨x.toArray⟩) (by unfold keyL;simpa using hx);exact List.mem_map.2 ⟨y,hy,by rw[hn]⟩
theorem MapIs.size {n:Nat}(h:MapIs D0 L)(ho:w.ownsMap Tryz.prog 9 entR mb n D0)(hL:(L.map (fun x=>x.1.data.toList)).Nodup) : Maps.size D0=L.length:=by
 have:=(h.keys ho hL).length_eq;obtain⟨es,e,_⟩:=ho.entries keysD;rw[e] at this ⊢;rw[List.length_map] at this;show es.length=_;rw[this];show _=(es.map _).length;rw[List.length_map]
theorem MapAt.len (h:MapAt w mb L)(hL:(L.map (fun x=>x.1.data.toList)).Nodup)(ts:TypeId) : (Builtin.len_ #[71] ts #[.map (some mb)]).run Tryz.prog w = .ok (.int .i64 (L.length:Nat)) w:=by
 obtain⟨n,D0,h1,h2⟩:=h;rw[h1.len Tryz.underlying71 ts,h2.size h1 hL]
theorem owns_tight {n:Nat}(ho:w.ownsMap Tryz.prog 9 entR mb n D0) : w.ownsMap Tryz.prog 9 entR mb (Maps.size D0) D0:=by
 obtain⟨es,clock,hb,F,hs,rfl⟩:=ho;refine⟨es,clock,hb,F, ?_,rfl⟩;exact Nat.le_of_eq (length_read (R0:=entR) es).symm
theorem MapAt.store (h:MapAt w mb L)(hL:(L.map (fun x=>x.1.data.toList)).Nodup)(hl:L.length≤400){m:ByteArray}(hm:m.size≤maxLen){b:Nat}
  (h1:(m,b)∈L') (h2:∀ x∈L',x=(m,b)∨(x∈L∧x.1≠m)) (h3:∀ x∈L,x.1≠m→x∈L') :
  ∃ w',(Instr.mapUpdate 71 (.map (some mb)) (.string m) (.pointer (some ⟨b,0,none⟩))).run Tryz.prog w = .ok () w'∧MapAt w' mb L'∧Touch [mb] w w':=by
 obtain⟨n,D0,ho,hi⟩:=h;have hsz:=hi.size ho hL;obtain⟨w',hr,ho',ht⟩:=(owns_tight ho).store keysD Tryz.underlying71 (by rw[hsz];unfold maxLen;omega) (keyL_of hm) (val:=.pointer (some ⟨b,0,none⟩)) rfl;refine⟨w',hr,⟨_,_,ho',⟨fun x hx zd=>?_,fun s hs=>?_⟩⟩,(Touch.refl [mb] w).grown ht.grown (fun k hk=>Or.inl (by simpa using hk.symm))⟩
 ·rcases h2 x hx with rfl | ⟨hx',hne⟩
  ·exact Maps.atKey_put_same ho.isMap (keyL_is _) _ _
  ·rw[Maps.atKey_put_other (fun e=>hne (keyL_inj e))];exact hi.yes x hx' zd
 ·have hne:m≠s:=hs (m,b) h1;rw[Maps.has_put_other (fun e=>hne (keyL_inj e).symm)];refine hi.no s (fun x hx e=>?_);exact hs x (h3 x hx (fun e2=>hne (e2.symm.trans e))) e
theorem MapAt.drop (h:MapAt w mb L){m:ByteArray}(hm:m.size≤maxLen)(h2:∀ x∈L',x∈L∧x.1≠m)(h3:∀ x∈L,x.1≠m→x∈L')(ty:TypeId) :
  ∃ w',(Builtin.delete_ #[71,9] ty #[.map (some mb),.string m]).run Tryz.prog w = .ok (.tuple #[]) w'∧MapAt w' mb L'∧Touch [mb] w w':=by
 obtain⟨n,D0,ho,hi⟩:=h;obtain⟨w',hr,ho',ht⟩:=ho.drop keysD Tryz.underlying71 (keyL_of hm) ty;refine⟨w',hr,⟨_,_,ho',⟨fun x hx zd=>?_,fun s hs=>?_⟩⟩,(Touch.refl [mb] w).grown ht.grown (fun k hk=>Or.inl (by simpa using hk.symm))⟩
 ·obtain⟨hx',hne⟩:=h2 x hx;rw[Maps.atKey_del_other (fun e=>hne (keyL_inj e))];exact hi.yes x hx' zd
 ·rcases Decidable.em (s=m) with rfl | hne
  ·exact Maps.has_del_same
  ·rw[Maps.has_del_other (fun e=>hne (keyL_inj e))];refine hi.no s (fun x hx e=>?_);exact hs x (h3 x hx (fun e2=>hne (e.symm.trans e2))) e
end
theorem MapAt.made (w:World)(o:Obj)(ho:o = .map #[] 0) : MapAt (w.alloc o) w.heap.size []:=by
 subst ho;exact⟨_,_,World.ownsMap_made _ _ _ _,⟨fun x hx=>(by cases hx),fun n _=>rfl⟩⟩
end Go.Proofs.YtokbfellcadkpaaGreat
namespace Go.Proofs.YtokbfellcadkpaaGreat
open Go.RowKit
set_option linter.unusedVariables false
theorem bc_at (d:ByteArray)(j:Nat) : (byteCells d)[j]? = (d.data[j]?).map (fun b=>Value.int .u8 (b.toNat:Int)):=by
 unfold byteCells;rw[List.getElem?_map,Array.getElem?_toList]
theorem bc_append (d s:ByteArray) : byteCells (d++s)=byteCells d++byteCells s:=by
 unfold byteCells;rw[ByteArray.data_append,Array.toList_append,List.map_append]
theorem bc_take (d:ByteArray)(m:Nat) : byteCells (d.extract 0 m)=(byteCells d).take m:=by
 unfold byteCells;rw[ByteArray.data_extract,Array.toList_extract,← List.map_take];simp
theorem bc_one (d:ByteArray) : ∀ u∈byteCells d,u.oneCell'=true:=by
 intro u hu;obtain⟨b,_,rfl⟩:=List.mem_map.1 hu;rfl
abbrev BytesAt (w:World)(base:Nat)(v:Value)(d:ByteArray) : Prop:=w.ownsRow base 5 1 v d.size (byteCells d)
theorem bytes_nil (w:World)(base:Nat) : BytesAt w base (.slice none 0 0) ByteArray.empty:=World.ownsRow_nil w base _ 1
section
variable {w : World} {base : Nat} {v : Value} {d : ByteArray}
theorem bytes_form (h:BytesAt w base v d) : ∃ A cap,v = .slice A d.size cap∧d.size≤cap∧cap≤maxLen∧(0<cap→∃ b,A=some ⟨b,0,none⟩∧base≤b∧b<w.heap.size)∧(cap=0→d.size=0):=by
 rcases h.2 with⟨rfl,e⟩ | ⟨g,cap,cur,rfl,hb,hg,h1,h2,h3,h4⟩
 ·exact⟨none,0,by rw[e],by omega,Nat.zero_le _,fun h=>absurd h (by omega),fun _=>e⟩
 ·exact⟨_,cap,rfl,h1,h2,fun _=>⟨g,rfl,hb,(h.lt g rfl).2⟩,fun h0=>by omega⟩
theorem bytes_take {A:Option Addr}{cap:Nat}(h:BytesAt w base (.slice A d.size cap) d){m:Nat}(hm:m≤d.size) : BytesAt w base (.slice A m cap) (d.extract 0 m):=by
 have hz:(d.extract 0 m).size=m:=by rw[ByteArray.size_extract];omega
 unfold BytesAt;rw[hz,bc_take];refine⟨by rw[List.length_take,h.1];omega, ?_⟩;rcases h.2 with⟨e,e2⟩ | ⟨g,cap',cur,e,hb,hg,h1,h2,h3,h4⟩
 ·injection e with e e3 e4;exact Or.inl ⟨by rw[e,e4,show m=0 by omega],by omega⟩
 ·simp only[Value.slice.injEq,true_and] at e;obtain⟨rfl,rfl⟩:=e;refine Or.inr ⟨g,cap,cur,rfl,hb,hg,by omega,h2,h3, ?_⟩;rw[← h4,List.take_take];congr 1;omega
theorem info_u8 : (Tryz.prog.info? 5).map (fun i=>(i.zero,i.size,i.bytes))=some (some (.int .u8 0),1,1):=by kernel_rfl
theorem bytes_append (h:BytesAt w base v d)(s:ByteArray)(hs:d.size+s.size≤1099511627776)(hb:base≤w.heap.size)(ty:TypeId) :
  ∃ v' w',(Builtin.append_ #[109,9] ty #[v,.string s]).run Tryz.prog w = .ok v' w'∧BytesAt w' base v' (d++s)∧w.grownBy w' v.ownBlock∧(v'.ownBlock=v.ownBlock∨v'.ownBlock=some w.heap.size):=by
 obtain⟨i,hi,hz0,hz1,hz2⟩:=info_parts info_u8;have hS:Src Tryz.prog i.size 9 (.string s) s.size (byteCells s) w:=by rw[hz1];exact Src.ofString w Tryz.underlying9 s
 have hz:(d++s).size=d.size+s.size:=ByteArray.size_append;have hl1:(byteCells d).length=d.size:=byteCells_length d;have hl2:(byteCells s).length=s.size:=byteCells_length s;unfold BytesAt;rw[hz,bc_append];have hlen:(byteCells d++byteCells s).length=(d.size+s.size)*1:=by rw[List.length_append,hl1,hl2];omega
 have grown:∀ (old:Nat),old<d.size+s.size→∀ (row:Option Nat),
   (w.drew.alloc (.cells ((byteCells d++byteCells s).toArray++Builtin.zeroCells (Value.int .u8 0).cells (grownCap w (d.size+s.size) old 5-(d.size+s.size))) 5)).ownsRow base 5 1
    (.slice (some ⟨w.heap.size,0,none⟩) (d.size+s.size) (grownCap w (d.size+s.size) old 5)) (d.size+s.size) (byteCells d++byteCells s) ∧
   w.grownBy (w.drew.alloc (.cells ((byteCells d++byteCells s).toArray++Builtin.zeroCells (Value.int .u8 0).cells (grownCap w (d.size+s.size) old 5-(d.size+s.size))) 5)) row:=by
  intro old ho row;have hge:=grownCap_ge w (d.size+s.size) old 5;have hcm:grownCap w (d.size+s.size) old 5≤maxLen:=grownCap_le_maxLen w _ old _ (by unfold maxLen;omega);refine⟨⟨hlen,.inr ⟨w.heap.size,_,_,rfl,hb,heap_alloc_new w.drew _,hge,hcm, ?_, ?_⟩⟩,⟨rfl,rfl,rfl,by simp,fun k hk _=>Below.heap_alloc w.drew _ k hk⟩⟩
  ·rw[Array.size_append,List.size_toArray,size_zeroCells,hlen];show(d.size+s.size)*1+(_-_)*1=_;omega
  ·rw[Array.toList_append,← hlen];exact List.take_left
 rcases h.2 with⟨rfl,e⟩ | ⟨g,cap,cur,rfl,hbg,hg,hnc,hcm,hcs,htake⟩
 ·by_cases hs0:s.size=0
  ·have h1:byteCells d=[]:=List.eq_nil_of_length_eq_zero (by omega);have h2:byteCells s=[]:=List.eq_nil_of_length_eq_zero (by omega);refine⟨.slice none 0 0,w, ?_,by rw[h1,h2,e,hs0];exact World.ownsRow_nil w base _ 1,⟨rfl,rfl,rfl,Nat.le_refl _,fun _ _ _=>rfl⟩,Or.inl rfl⟩;have hL:=hS.len w;have hC:=hS.cells;rw[hs0,h2] at hC;rw[hs0] at hL;simp[Builtin.append_,run_underlying Tryz.underlying109,run_underlying Tryz.underlying9,sizeOf,typeInfo,hi,hL,hC]
  ·have hr:=run_append_grow_src (P:=Tryz.prog) w 109 9 ty 5 i _ Tryz.underlying109 hi hz0 none 0 0 [] (by simp[Builtin.firstCells]) (.string s) s.size (byteCells s) hS (by omega) (by omega) (growslice_fits (by omega) (by rw[hz2];omega));have h1:byteCells d=[]:=List.eq_nil_of_length_eq_zero (by omega);have hgr:=grown 0 (by omega) (Value.ownBlock (.slice none 0 0));rw[h1,e] at hgr ⊢;exact⟨_,_,hr,hgr.1,hgr.2,Or.inr rfl⟩
 ·by_cases hroom:d.size+s.size≤cap
  ·have hfit:d.size*i.size+(byteCells s).length≤cur.size:=by rw[hl2,hcs,hz1];omega
   have hst:=run_storeCells_at Tryz.prog g (d.size*i.size) 5 (byteCells s) 0 cur w hg (by simpa using hfit) (bc_one s);simp only[Nat.add_zero] at hst
   have hr:(Builtin.append_ #[109,9] ty #[.slice (some ⟨g,0,none⟩) d.size cap,.string s]).run Tryz.prog w = .ok (.slice (some ⟨g,0,none⟩) (d.size+s.size) cap) (w.setRow g (cur.toList.take (d.size*i.size)++byteCells s++cur.toList.drop (d.size*i.size+(byteCells s).length)).toArray):=by
    simp[Builtin.append_,run_underlying Tryz.underlying109,run_underlying Tryz.underlying9,sizeOf,typeInfo,hi,hS.len,hS.cells,hroom,Addr.add_lit,hst]
   refine⟨_,_,hr,⟨hlen,.inr ⟨g,cap,_,rfl,hbg,setRow_heap w g cur _ _ _ hg,hroom,hcm, ?_, ?_⟩⟩,⟨rfl,rfl,rfl,by simp,fun k _ hk=>setRow_other w g k _ (fun e=>hk (by simp[Value.ownBlock,e]))⟩,Or.inl rfl⟩
   ·simp only[List.size_toArray,List.length_append,List.length_take,List.length_drop,Array.length_toList];omega
   ·rw[hz1,htake,← hlen];exact List.take_left
  ·have hr:=run_append_grow_src (P:=Tryz.prog) w 109 9 ty 5 i _ Tryz.underlying109 hi hz0 (some ⟨g,0,none⟩) d.size cap (byteCells d)
    (by rw[hz1];exact run_firstCells_some w.drew 1 d.size ⟨g,0,none⟩ d.size cap (byteCells d) (by omega) (fun j u hu=>h.cells rfl j u hu)) (.string s) s.size (byteCells s) hS (by omega) (by omega) (growslice_fits (by omega) (by rw[hz2];omega))
   have hgr:=grown cap (by omega) (Value.ownBlock (.slice (some ⟨g,0,none⟩) d.size cap));exact⟨_,_,hr,hgr.1,hgr.2,Or.inr rfl⟩
theorem bytes_none (w:World)(A:Option Addr)(c:Nat) : (convert 109 9 (.slice A 0 c)).run Tryz.prog w = .ok (.string ByteArray.empty) w:=by
 cases A with
 | none=>exact run_convert_bytes_nil w 109 5 Tryz.underlying109 Tryz.underlying5 0 c 9 Tryz.underlying9
 | some a=>exact run_convert_bytes_back w 109 9 5 a c [] Tryz.underlying109 Tryz.underlying5 Tryz.underlying9 (fun j hj=>absurd hj (Nat.not_lt_zero j))
theorem bytes_conv {b cap n:Nat}(h:BytesAt w base (.slice (some ⟨b,0,none⟩) n cap) d){a k:Nat}(hk:a+k≤d.size)(c:Nat) :
  (convert 109 9 (.slice (some ⟨b,a,none⟩) k c)).run Tryz.prog w = .ok (.string (d.extract a (a+k))) w:=by
 obtain rfl:n=d.size:=by
  rcases h.2 with⟨e,e2⟩ | ⟨g,cap',cur,e,_⟩
  ·cases e
  ·simp only[Value.slice.injEq] at e;exact e.2.1
 have hlen:(d.extract a (a+k)).data.toList.length=k:=by
  rw[Array.length_toList];show(d.extract a (a+k)).size=k;rw[ByteArray.size_extract];omega
 have hr:=run_convert_bytes_back (P:=Tryz.prog) w 109 9 5 ⟨b,a,none⟩ c (d.extract a (a+k)).data.toList Tryz.underlying109 Tryz.underlying5 Tryz.underlying9
  (fun j hj=>by
   have ea:(⟨b,a,none⟩:Addr).add j=⟨b,a+j,none⟩:=by unfold Addr.add;split<;>simp_all
   have hz:d.data.size=d.size:=rfl;rw[ea,h.cellAt (a+j) (by omega),bc_at,Array.getElem?_eq_getElem (by omega),Option.map_some];congr 3;rw[Array.getElem_toList];simp only[ByteArray.data_extract,Array.getElem_extract])
 rw[hlen] at hr;exact hr
theorem bc_over (d s:ByteArray)(a:Nat)(ha:a≤d.size) : byteCells (overS d s a)=(byteCells d).take a++(byteCells s).take (d.size-a)++(byteCells d).drop (a+min s.size (d.size-a)):=by
 have l1:(byteCells d).length=d.size:=byteCells_length d;have l2:(byteCells s).length=s.size:=byteCells_length s;have z1:d.data.size=d.size:=rfl;have z2:s.data.size=s.size:=rfl;apply List.ext_getElem?;intro j;rw[bc_at];show Option.map _ ((overK d s a s.size).toArray[j]?)=_;rw[List.getElem?_toArray];rcases Nat.lt_or_ge j d.size with hj | hj
 ·have e:(overK d s a s.size)[j]? = some ((overK d s a s.size).getD j 0):=by
   rw[List.getD_eq_getElem?_getD,List.getElem?_eq_getElem (by rw[overK_length];exact hj)];rfl
  rw[e,overK_at d s a s.size j hj,Option.map_some];rcases Nat.lt_or_ge j a with c | c
  ·rw[if_neg (by omega),List.append_assoc,List.getElem?_append_left (by rw[List.length_take];omega),List.getElem?_take,if_pos c,bc_at,Array.getElem?_eq_getElem (by omega),Option.map_some,List.getD_eq_getElem?_getD,Array.getElem?_toList,Array.getElem?_eq_getElem (by omega)];rfl
  ·rcases Nat.lt_or_ge j (a+min s.size (d.size-a)) with c2 | c2
   ·rw[if_pos (by omega),List.getElem?_append_left (by rw[List.length_append,List.length_take,List.length_take];omega),List.getElem?_append_right (by rw[List.length_take];omega),List.length_take,List.getElem?_take,if_pos (by omega),bc_at,
     show j-min a (byteCells d).length=j-a by omega,Array.getElem?_eq_getElem (by omega),Option.map_some,List.getD_eq_getElem?_getD,Array.getElem?_toList,Array.getElem?_eq_getElem (by omega)]
    rfl
   ·rw[if_neg (by omega),List.getElem?_append_right (by rw[List.length_append,List.length_take,List.length_take];omega),List.length_append,List.length_take,List.length_take,List.getElem?_drop,bc_at,
     show a+min s.size (d.size-a)+(j-(min a (byteCells d).length+min (d.size-a) (byteCells s).length))=j by omega,Array.getElem?_eq_getElem (by omega),Option.map_some,List.getD_eq_getElem?_getD,Array.getElem?_toList,Array.getElem?_eq_getElem (by omega)]
    rfl
 ·rw[List.getElem?_eq_none (by rw[overK_length];exact hj),List.getElem?_eq_none (by rw[List.length_append,List.length_append,List.length_take,List.length_take,List.length_drop];omega)];rfl
theorem over_size (d s:ByteArray)(a:Nat) : (overS d s a).size=d.size:=by
 show(overK d s a s.size).toArray.size=_;rw[List.size_toArray,overK_length]
theorem over_none (d s:ByteArray)(a:Nat)(h:d.size≤a∨s.size=0) : overS d s a=d:=by
 unfold overS
 have e:overK d s a s.size=d.data.toList:=by
  apply List.ext_getElem (by rw[overK_length];exact Array.length_toList.symm);intro j h1 h2;rw[overK_length] at h1;have e:∀ (l:List UInt8) (h:j<l.length),l[j]=l.getD j 0:=fun l h=>by rw[List.getD_eq_getElem?_getD,List.getElem?_eq_getElem h];rfl
  rw[e _ (by rw[overK_length];exact h1),e _ h2,overK_at d s a s.size j h1,if_neg (by omega)]
 rw[e]
theorem first_str (s:ByteArray)(k:Nat)(w:World) : (Builtin.firstCells 1 (min s.size k) (.string s)).run Tryz.prog w = .ok ((byteCells s).take k).toArray w:=by
 have l2:(byteCells s).length=s.size:=byteCells_length s
 have e:(byteCells s).take k=byteCells (s.extract 0 (min s.size k)):=by
  rw[bc_take];rcases Nat.le_total s.size k with c | c
  ·rw[Nat.min_eq_left c,List.take_of_length_le (by omega),List.take_of_length_le (by omega)]
  ·rw[Nat.min_eq_right c]
 rw[e];show(pure (((s.extract 0 (min s.size k)).data.map fun b=>Value.int .u8 b.toNat)):Sem (Array Value)).run Tryz.prog w=_;generalize s.extract 0 (min s.size k)=t;rw[Sem.run_pure];congr 1;apply Array.ext';unfold byteCells;rw[Array.toList_map]
theorem bytes_copy0 (w:World)(A:Option Addr)(c:Nat)(s:ByteArray)(ty:TypeId) : (Builtin.copy_ #[109,9] ty #[.slice A 0 c,.string s]).run Tryz.prog w = .ok (goInt 0) w:=by
 obtain⟨i,hi,_,hz1,_⟩:=info_parts info_u8;have h0:=first_str s 0 w;rw[Nat.min_zero,List.take_zero] at h0;cases A<;>simp[Builtin.copy_,run_underlying Tryz.underlying109,Builtin.lenOf,sizeOf,typeInfo,hi,hz1,h0,storeCells]
theorem bytes_copy {b cap n:Nat}(h:BytesAt w base (.slice (some ⟨b,0,none⟩) n cap) d){a:Nat}(ha:a≤d.size)(s:ByteArray)(ty:TypeId)(c:Nat) :
  ∃ r w',(Builtin.copy_ #[109,9] ty #[.slice (some ⟨b,a,none⟩) (d.size-a) c,.string s]).run Tryz.prog w = .ok r w'∧BytesAt w' base (.slice (some ⟨b,0,none⟩) n cap) (overS d s a)∧Touch [b] w w':=by
 obtain rfl:n=d.size:=by
  rcases h.2 with⟨e,e2⟩ | ⟨g,cap',cur,e,_⟩
  ·cases e
  ·simp only[Value.slice.injEq] at e;exact e.2.1
 obtain⟨i,hi,_,hz1,_⟩:=info_parts info_u8;rcases h.2 with⟨e,e2⟩ | ⟨g,cap',cur,e,hb,hg,h1,h2,h3,h4⟩
 ·cases e
 ·simp only[Value.slice.injEq,Option.some.injEq,Addr.mk.injEq,and_true,true_and] at e;obtain⟨rfl,rfl⟩:=e;have l1:(byteCells d).length=d.size:=byteCells_length d;have l2:(byteCells s).length=s.size:=byteCells_length s;have hln:((byteCells s).take (d.size-a)).length=min s.size (d.size-a):=by rw[List.length_take,l2];omega
  have hst:=run_storeCells_at Tryz.prog b a 5 ((byteCells s).take (d.size-a)) 0 cur w hg (by rw[hln];omega) (fun u hu=>bc_one s u (List.mem_of_mem_take hu));rw[Nat.add_zero,hln] at hst;have hfc:(Builtin.firstCells 1 (min s.size (d.size-a)) (.string s)).run Tryz.prog w = .ok ((byteCells s).take (d.size-a)).toArray w:=first_str s (d.size-a) w;have hap:(byteCells d).length+0=d.size:=by omega
  refine⟨goInt (min s.size (d.size-a):Nat),w.setRow b (cur.toList.take a++(byteCells s).take (d.size-a)++cur.toList.drop (a+min s.size (d.size-a))).toArray, ?_,⟨by rw[byteCells_length,over_size];omega,Or.inr ⟨b,cap,_,by rw[over_size],hb,setRow_heap w b cur _ _ _ hg,by rw[over_size];exact h1,h2, ?_, ?_⟩⟩, ?_⟩
  ·have hnm:s.size.min (d.size-a)=min s.size (d.size-a):=rfl;rw[← hnm] at hfc hst ⊢;generalize hm:s.size.min (d.size-a)=m at *;simp[Builtin.copy_,run_underlying Tryz.underlying109,Builtin.lenOf,sizeOf,typeInfo,hi,hz1,hm,hfc,hst]
  ·rw[List.size_toArray,List.length_append,List.length_append,List.length_take,List.length_drop,hln,Array.length_toList];omega
  ·have hc:cur.toList.length=cap:=by rw[Array.length_toList];omega
   rw[over_size,bc_over d s a ha,Nat.mul_one,← h4,Nat.mul_one];have hle:(cur.toList.take a++(byteCells s).take (d.size-a)).length=a+min s.size (d.size-a):=by rw[List.length_append,List.length_take,hln,hc];omega
   have hm2:a+min s.size (d.size-a)≤d.size:=by omega
   generalize (byteCells s).take (d.size-a)=q at *;generalize min s.size (d.size-a)=m at *;generalize cur.toList=l at *;generalize d.size=n at *;rw[List.take_append,List.take_of_length_le (by omega),hle,List.take_take,List.drop_take,show min a n=a by omega]
  ·exact⟨rfl,rfl,rfl,by simp,fun k _ hk=>setRow_other w b k _ (fun e=>hk (by simp[e]))⟩
end
end Go.Proofs.YtokbfellcadkpaaGreat
namespace Go.Proofs.YtokbfellcadkpaaGreat
open Go.RowKit
set_option linter.unusedVariables false
structure Ent where
 f:FileS
 b:Nat
 v:Value
def Ent.nb (x:Ent) : ByteArray × Nat:=(x.f.name,x.b)
def Ent.blocks (x:Ent) : List Nat:=x.b::x.v.ownBlock.toList
def EntAt (w:World)(base:Nat)(x:Ent) : Prop:=Blok w x.b 177 #[x.v,.int .i64 (x.f.synced:Nat)]∧base≤x.b∧BytesAt w base x.v x.f.data
def apartE (x y:Ent) : Prop:=x.b≠y.b∧∀ b,x.v.ownBlock=some b→y.v.ownBlock≠some b
def KeepAt (w:World)(base:Nat)(v:Value)(l:List Int)(K:List Nat) : Prop :=
 (l=[]∧K=[]∧∃ a c,v = .slice a 0 c)∨(w.ownsRow base 3 1 v l.length (ints l)∧K=v.ownBlock.toList)
def FailAt (w:World)(base:Nat)(vF:Value)(fails:Nat)(keep:List Int)(K:List Nat) : Prop :=
 (fails=0∧vF = .pointer none∧K=[]) ∨
 ∃ (b n:Nat) (vk:Value) (K':List Nat),vF=ptr b∧fails=n+1∧n≤9223372036854775807∧Blok w b 225 #[.int .i64 (n:Nat),vk]∧base≤b∧KeepAt w base vk (keep.take 400) K'∧K=b::K'
def diskCells (g mb:Nat)(vF:Value)(D:DiskS) : Array Value:=#[ptr g,.int .i64 (D.cap:Nat),.map (some mb),.bool (!D.down),.int .i64 (D.count:Nat),.int .i64 (D.starts:Nat),vF]
structure PAt (w:World)(base g mb:Nat)(vF:Value)(E:List Ent)(K:List Nat)(D:DiskS) : Prop where
 disk:Blok w g 74 (diskCells g mb vF D)
 gb:base≤g
 mlow:base≤mb
 lst:D.l=E.map Ent.f
 map:MapAt w mb (E.map Ent.nb)
 ents:∀ x∈E,EntAt w base x
 apart:E.Pairwise apartE
 rise:Rise D.l
 names:∀ f∈D.l,nameB f.name=true
 fail:FailAt w base vF D.fails D.keep K
def blocksP (g mb:Nat)(E:List Ent)(K:List Nat) : List Nat:=g::mb::(K++E.flatMap Ent.blocks)
def ProgAt : Lies:=fun w base g F D=>∃ mb vF E K,PAt w base g mb vF E K D∧F=blocksP g mb E K
section
variable {w w' : World} {base : Nat} {G : List Nat}
theorem EntAt.touch {x:Ent}(h:EntAt w base x)(ht:Touch G w w')(hd:∀ b∈x.blocks,b ∉ G) : EntAt w' base x :=
 ⟨h.1.touch ht (hd _ (by simp[Ent.blocks])),h.2.1,own_touch h.2.2 ht (fun b hb=>hd b (by simp[Ent.blocks,hb]))⟩
theorem EntAt.low {x:Ent}(h:EntAt w base x) : ∀ b∈x.blocks,base≤b∧b<w.heap.size:=by
 intro b hb;simp only[Ent.blocks,List.mem_cons,Option.mem_toList] at hb;rcases hb with rfl | hb
 ·exact⟨h.2.1,h.1.lt⟩
 ·exact h.2.2.lt b hb
theorem KeepAt.touch {v:Value}{l:List Int}{K:List Nat}(h:KeepAt w base v l K)(ht:Touch G w w')(hd:∀ b∈K,b ∉ G) : KeepAt w' base v l K:=by
 rcases h with h | ⟨h,rfl⟩
 ·exact Or.inl h
 ·exact Or.inr ⟨own_touch h ht (fun b hb=>hd b (by simp[hb])),rfl⟩
theorem KeepAt.low {v:Value}{l:List Int}{K:List Nat}(h:KeepAt w base v l K) : ∀ b∈K,base≤b∧b<w.heap.size:=by
 rcases h with⟨_,rfl,_⟩ | ⟨h,rfl⟩
 ·intro b hb;cases hb
 ·intro b hb;exact h.lt b (by simpa using hb)
theorem FailAt.touch {v:Value}{n:Nat}{l:List Int}{K:List Nat}(h:FailAt w base v n l K)(ht:Touch G w w')(hd:∀ b∈K,b ∉ G) : FailAt w' base v n l K:=by
 rcases h with h | ⟨b,m,vk,K',h1,h2,h3,h4,h5,h6,rfl⟩
 ·exact Or.inl h
 ·exact Or.inr ⟨b,m,vk,K',h1,h2,h3,h4.touch ht (hd _ (by simp)),h5,h6.touch ht (fun x hx=>hd x (by simp[hx])),rfl⟩
theorem FailAt.low {v:Value}{n:Nat}{l:List Int}{K:List Nat}(h:FailAt w base v n l K) : ∀ b∈K,base≤b∧b<w.heap.size:=by
 rcases h with⟨_,_,rfl⟩ | ⟨b,m,vk,K',h1,h2,h3,h4,h5,h6,rfl⟩
 ·intro b hb;cases hb
 ·intro x hx;rcases List.mem_cons.1 hx with rfl | hx
  ·exact⟨h5,h4.lt⟩
  ·exact h6.low x hx
variable {g mb : Nat} {vF : Value} {E : List Ent} {K : List Nat} {D : DiskS}
theorem mem_blocks {b:Nat} : b∈blocksP g mb E K↔b=g∨b=mb∨b∈K∨∃ x∈E,b∈x.blocks:=by
 simp only[blocksP,List.mem_cons,List.mem_append,List.mem_flatMap]
theorem PAt.touch (h:PAt w base g mb vF E K D)(ht:Touch G w w')(hd:∀ b∈blocksP g mb E K,b ∉ G) : PAt w' base g mb vF E K D :=
 ⟨h.disk.touch ht (hd _ (mem_blocks.2 (Or.inl rfl))),h.gb,h.mlow,h.lst,h.map.touch ht (hd _ (mem_blocks.2 (Or.inr (Or.inl rfl)))),
  fun x hx=>(h.ents x hx).touch ht (fun b hb=>hd b (mem_blocks.2 (Or.inr (Or.inr (Or.inr ⟨x,hx,hb⟩))))),h.apart,h.rise,h.names,h.fail.touch ht (fun b hb=>hd b (mem_blocks.2 (Or.inr (Or.inr (Or.inl hb)))))⟩
theorem PAt.low (h:PAt w base g mb vF E K D) : ∀ b∈blocksP g mb E K,base≤b∧b<w.heap.size:=by
 intro b hb;rcases mem_blocks.1 hb with rfl | rfl | hb | ⟨x,hx,hb⟩
 ·exact⟨h.gb,h.disk.lt⟩
 ·exact⟨h.mlow,h.map.lt⟩
 ·exact h.fail.low b hb
 ·exact(h.ents x hx).low b hb
theorem PAt.at (h:PAt w base g mb vF E K D) : ProgAt w base g (blocksP g mb E K) D:=⟨mb,vF,E,K,h,rfl⟩
theorem KeepAt.ne {v:Value}{l:List Int}{b:Nat}{t:TypeId}{cs:Array Value}(h:KeepAt w base v l K)(hb:Blok w b t cs)(ht:3≠t) : b ∉ K:=by
 rcases h with⟨_,rfl,_⟩ | ⟨h,rfl⟩
 ·simp
 ·intro hm;exact own_ne h hb ht (by simpa using hm)
theorem FailAt.ne {v:Value}{n:Nat}{l:List Int}{b:Nat}{t:TypeId}{cs:Array Value}(h:FailAt w base v n l K)(hb:Blok w b t cs)(ht:3≠t)(ht2:225≠t) : b ∉ K:=by
 rcases h with⟨_,_,rfl⟩ | ⟨b',m,vk,K',h1,h2,h3,h4,h5,h6,rfl⟩
 ·simp
 ·intro hm;rcases List.mem_cons.1 hm with rfl | hm
  ·exact h4.type_ne hb ht2 rfl
  ·exact h6.ne hb ht hm
theorem FailAt.ne_map {v:Value}{n:Nat}{l:List Int}{L:List (ByteArray × Nat)}(h:FailAt w base v n l K)(hm:MapAt w mb L) : mb ∉ K:=by
 rcases h with⟨_,_,rfl⟩ | ⟨b',m,vk,K',h1,h2,h3,h4,h5,h6,rfl⟩
 ·simp
 ·intro hk;rcases List.mem_cons.1 hk with rfl | hk
  ·exact hm.ne h4 rfl
  ·rcases h6 with⟨_,rfl,_⟩ | ⟨h6,rfl⟩
   ·cases hk
   ·exact hm.own_ne h6 (by simpa using hk)
theorem FailAt.ne_own {v:Value}{n:Nat}{l:List Int}{base' size m:Nat}{t:TypeId}{u:Value}{xs:List Value}(h:FailAt w base v n l K)(hu:w.ownsRow base' t size u m xs)(ht:t≠3)(ht2:t≠225) : ∀ b,u.ownBlock=some b→b ∉ K:=by
 intro b hb hk;rcases h with⟨_,_,rfl⟩ | ⟨b',m,vk,K',h1,h2,h3,h4,h5,h6,rfl⟩
 ·cases hk
 ·rcases List.mem_cons.1 hk with rfl | hk
  ·exact own_ne hu h4 ht2 hb
  ·rcases h6 with⟨_,rfl,_⟩ | ⟨h6,rfl⟩
   ·cases hk
   ·exact own_own_ne hu h6 ht b (by simpa using hk) hb
theorem EntAt.ne {x:Ent}{b:Nat}{t:TypeId}{cs:Array Value}(h:EntAt w base x)(hb:Blok w b t cs)(ht:177≠t)(ht2:5≠t) : b ∉ x.blocks:=by
 intro hm;simp only[Ent.blocks,List.mem_cons,Option.mem_toList] at hm;rcases hm with rfl | hm
 ·exact h.1.type_ne hb ht rfl
 ·exact own_ne h.2.2 hb ht2 hm
theorem EntAt.ne_map {x:Ent}{L:List (ByteArray × Nat)}(h:EntAt w base x)(hm:MapAt w mb L) : mb ∉ x.blocks:=by
 intro hk;simp only[Ent.blocks,List.mem_cons,Option.mem_toList] at hk;rcases hk with rfl | hk
 ·exact hm.ne h.1 rfl
 ·exact hm.own_ne h.2.2 hk
theorem EntAt.apart {x y:Ent}(hx:EntAt w base x)(hy:EntAt w base y)(h:apartE x y) : ∀ b∈x.blocks,b ∉ y.blocks:=by
 intro b h1 h2;simp only[Ent.blocks,List.mem_cons,Option.mem_toList] at h1 h2;rcases h1 with rfl | h1<;>rcases h2 with h2 | h2
 ·exact h.1 h2
 ·exact own_ne hy.2.2 hx.1 (by decide) h2
 ·subst h2;exact own_ne hx.2.2 hy.1 (by decide) h1
 ·exact h.2 b h1 h2
theorem EntAt.ne_fail {x:Ent}{v:Value}{n:Nat}{l:List Int}(hx:EntAt w base x)(h:FailAt w base v n l K) : ∀ b∈x.blocks,b ∉ K:=by
 intro b hb;simp only[Ent.blocks,List.mem_cons,Option.mem_toList] at hb;rcases hb with rfl | hb
 ·exact h.ne hx.1 (by decide) (by decide)
 ·exact h.ne_own hx.2.2 (by decide) (by decide) b hb
theorem PAt.putDisk (h:PAt w base g mb vF E K D){D':DiskS}{vF':Value}{K':List Nat}(hl:D'.l=D.l)(hb:Blok w' g 74 (diskCells g mb vF' D'))(ht:Touch G w w')(hG:∀ b∈G,b=g∨b∈K)(hf:FailAt w' base vF' D'.fails D'.keep K') : PAt w' base g mb vF' E K' D':=by
 refine⟨hb,h.gb,h.mlow,by rw[hl];exact h.lst,h.map.touch ht (fun hm=>?_),fun x hx=>(h.ents x hx).touch ht (fun b hb hm=>?_),h.apart,by rw[hl];exact h.rise,by rw[hl];exact h.names,hf⟩
 ·rcases hG _ hm with e | e
  ·exact h.map.ne h.disk e
  ·exact h.fail.ne_map h.map e
 ·rcases hG _ hm with e | e
  ·exact(h.ents x hx).ne h.disk (by decide) (by decide) (by rw[← e];exact hb)
  ·exact(h.ents x hx).ne_fail h.fail b hb e
theorem PAt.failSame (h:PAt w base g mb vF E K D)(ht:Touch [g] w w') : FailAt w' base vF D.fails D.keep K :=
 h.fail.touch ht (fun b hb hm=>by
  obtain rfl:b=g:=by simpa using hm
  exact h.fail.ne h.disk (by decide) (by decide) hb)
theorem PAt.putDown (h:PAt w base g mb vF E K D)(c:Bool) : PAt (w.setCell ⟨g,3,none⟩ (.bool (!c))) base g mb vF E K { D with down:=c } :=
 h.putDisk (G:=[g]) rfl (h.disk.put 3 _) ((Touch.refl _ w).setCell (Or.inl (by simp)) _) (fun b hb=>Or.inl (by simpa using hb)) (h.failSame ((Touch.refl _ w).setCell (Or.inl (by simp)) _))
theorem PAt.putCount (h:PAt w base g mb vF E K D)(c:Nat) : PAt (w.setCell ⟨g,4,none⟩ (.int .i64 (c:Nat))) base g mb vF E K { D with count:=c } :=
 h.putDisk (G:=[g]) rfl (h.disk.put 4 _) ((Touch.refl _ w).setCell (Or.inl (by simp)) _) (fun b hb=>Or.inl (by simpa using hb)) (h.failSame ((Touch.refl _ w).setCell (Or.inl (by simp)) _))
theorem PAt.putNoFail (h:PAt w base g mb vF E K D)(l:List Int) : PAt (w.setCell ⟨g,6,none⟩ (.pointer none)) base g mb (.pointer none) E [] { D with fails:=0,keep:=l } :=
 h.putDisk (G:=[g]) rfl (h.disk.put 6 _) ((Touch.refl _ w).setCell (Or.inl (by simp)) _) (fun b hb=>Or.inl (by simpa using hb)) (Or.inl ⟨rfl,rfl,rfl⟩)
theorem PAt.putEnt (h:PAt w base g mb vF E K D){k:Nat}{x:Ent}(hk:E[k]? = some x)(x':Ent)(hb:x'.b=x.b)(hn:x'.f.name=x.f.name)(ht:Touch G w w')(hG:∀ b∈G,b∈x.blocks)(he:EntAt w' base x')
  (hv:∀ b,x'.v.ownBlock=some b→x.v.ownBlock=some b∨w.heap.size≤b):PAt w' base g mb vF (E.set k x') K { D with l:=D.l.set k x'.f }:=by
 have hx:=List.mem_of_getElem? hk;have hkl:=(List.getElem?_eq_some_iff.1 hk).1;have hX:=h.ents x hx
 have hnb:(E.set k x').map Ent.nb=E.map Ent.nb:=by
  rw[List.map_set];apply List.ext_getElem?;intro j;rw[List.getElem?_set];by_cases e:k=j
  ·subst e;rw[if_pos rfl,if_pos (by simpa using hkl),List.getElem?_map,hk];show some (x'.f.name,x'.b)=some (x.f.name,x.b);rw[hb,hn]
  ·rw[if_neg e]
 have hother:∀ (j:Nat) (y:Ent),j≠k→E[j]? = some y→(∀ b∈x.blocks,b ∉ y.blocks)∧apartE x' y∧apartE y x':=by
  intro j y hj hy;have hY:=h.ents y (List.mem_of_getElem? hy);have hjl:=(List.getElem?_eq_some_iff.1 hy).1;have hp:=List.pairwise_iff_getElem.1 h.apart;have e1:E[k]=x:=by rw[List.getElem?_eq_getElem hkl] at hk;simpa using hk
  have e2:E[j]=y:=by rw[List.getElem?_eq_getElem hjl] at hy;simpa using hy
  have hap:apartE x y:=by
   rcases Nat.lt_or_ge k j with c | c
   ·have:=hp k j hkl hjl c;rw[e1,e2] at this;exact this
   ·have:=hp j k hjl hkl (by omega);rw[e1,e2] at this;exact⟨fun e=>this.1 e.symm,fun b h1 h2=>this.2 b h2 h1⟩
  have hap':apartE x' y:=⟨by rw[hb];exact hap.1,fun b h1 h2=>by
   rcases hv b h1 with c | c
   ·exact hap.2 b c h2
   ·have:=(hY.2.2.lt b h2).2;omega⟩
  exact⟨hX.apart hY hap,hap',⟨fun e=>hap'.1 e.symm,fun b h1 h2=>hap'.2 b h2 h1⟩⟩
 have hgx:g ∉ x.blocks:=hX.ne h.disk (by decide) (by decide)
 have hname:∀ (j:Nat),((D.l.set k x'.f)[j]?).map FileS.name=(D.l[j]?).map FileS.name:=by
  intro j;rw[List.getElem?_set];by_cases e:k=j
  ·subst e;rw[if_pos rfl,if_pos (by rw[h.lst];simpa using hkl),h.lst,List.getElem?_map,hk];simp[hn]
  ·rw[if_neg e]
 have hnames:(D.l.set k x'.f).map FileS.name=D.l.map FileS.name:=by
  apply List.ext_getElem?;intro j;rw[List.getElem?_map,List.getElem?_map];exact hname j
 refine⟨h.disk.touch ht (fun hm=>hgx (hG _ hm)),h.gb,h.mlow,by show D.l.set k x'.f=_;rw[h.lst,List.map_set], ?_,fun y hy=>?_, ?_, ?_, ?_,h.fail.touch ht (fun b hb hm=>hX.ne_fail h.fail b (hG b hm) hb)⟩
 ·rw[hnb];exact h.map.touch ht (fun hm=>hX.ne_map h.map (hG _ hm))
 ·obtain⟨j,hj⟩:=List.getElem?_of_mem hy;rw[List.getElem?_set] at hj;by_cases e:k=j
  ·rw[if_pos e,if_pos hkl] at hj;obtain rfl:x'=y:=by simpa using hj
   exact he
  ·rw[if_neg e] at hj;exact(h.ents y (List.mem_of_getElem? hj)).touch ht (fun b hb hm=>(hother j y (fun c=>e c.symm) hj).1 b (hG b hm) hb)
 ·rw[List.pairwise_iff_getElem];intro i j hi hj hij;rw[List.length_set] at hi hj;rw[List.getElem_set,List.getElem_set];have hp:=List.pairwise_iff_getElem.1 h.apart i j hi hj hij;by_cases e1:k=i
  ·rw[if_pos e1,if_neg (by omega)];exact(hother j _ (by omega) (List.getElem?_eq_getElem hj)).2.1
  ·rw[if_neg e1];by_cases e2:k=j
   ·rw[if_pos e2];exact(hother i _ (by omega) (List.getElem?_eq_getElem hi)).2.2
   ·rw[if_neg e2];exact hp
 ·show Rise (D.l.set k x'.f);have:(D.l.map FileS.name).Pairwise (fun a b=>lessB a b=true):=List.pairwise_map.2 h.rise;rw[← hnames] at this;exact List.pairwise_map.1 this
 ·intro f hf;have h1:f.name∈(D.l.set k x'.f).map FileS.name:=List.mem_map.2 ⟨f,hf,rfl⟩;rw[hnames] at h1;obtain⟨f',hf',e⟩:=List.mem_map.1 h1;rw[← e];exact h.names f' hf'
theorem PAt.putMap (h:PAt w base g mb vF E K D)(E':List Ent)(l:List FileS)(hl:l=E'.map Ent.f)(hm:MapAt w' mb (E'.map Ent.nb))(ht:Touch [mb] w w')(he:∀ x∈E',EntAt w base x)(ha:E'.Pairwise apartE)(hr:Rise l)(hn:∀ f∈l,nameB f.name=true) : PAt w' base g mb vF E' K { D with l:=l }:=by
 refine⟨h.disk.touch ht (fun hg=>h.map.ne h.disk (by have:=List.mem_singleton.1 hg;exact this.symm)),h.gb,h.mlow,hl,hm,fun x hx=>(he x hx).touch ht (fun b hb hm=>?_),ha,hr,hn,h.fail.touch ht (fun b hb hm=>?_)⟩
 ·obtain rfl:b=mb:=by simpa using hm
  exact(he x hx).ne_map h.map hb
 ·obtain rfl:b=mb:=by simpa using hm
  exact h.fail.ne_map h.map hb
end
end Go.Proofs.YtokbfellcadkpaaGreat
