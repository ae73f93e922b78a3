/- ZnBuild -/
import Derived.Test.YtokbfellcadkpaaGreatPn01
import Derived.Test.YtokbfellcadkpaaGreatPn34
namespace Go.Proofs.YtokbfellcadkpaaGreat
set_option maxRecDepth 100000
set_option linter.unusedVariables false
section
open Go.RowKit
def Bld (B b:Nat)(s:ByteArray)(w:World) : Prop:=Lib.IsBuilder 115 5 B b (Lib.byteCells s.data.toList) w
theorem cc_used (b:Nat)(w:World)(h0:w.cell? ⟨b,0,none⟩=some (.pointer (some ⟨b,0,none⟩))) :
  Calls Tryz.prog 121 #[.pointer (some ⟨b,0,none⟩)] w fun e w'=>e = .returned (.tuple #[])∧w'=w:=by
 obtain⟨j,hj⟩:∃ j,Tryz.prog.info? 115=some j:=Option.isSome_iff_exists.1 (by kernel_rfl);have hne:=Lib.run_neq_ptr_same (P:=Tryz.prog) w ⟨b,0,none⟩ Tryz.underlying113 hj;go_enter Tryz.func121,Tryz.ntmps121;go_wp2;go_end0;exact⟨rfl,rfl⟩
theorem cc_fresh (b:Nat)(w:World)(h0:w.cell? ⟨b,0,none⟩=some (.pointer none))(hsh:w.shape? b=some (115,2))(hfz:w.frozen? ⟨b,0,none⟩=false) :
  Calls Tryz.prog 121 #[.pointer (some ⟨b,0,none⟩)] w fun e w'=>e = .returned (.tuple #[])∧w'=w.setCell ⟨b,0,none⟩ (.pointer (some ⟨b,0,none⟩)):=by
 obtain⟨j,hj,hjs⟩:∃ j,Tryz.prog.info? 115=some j∧j.size=2:=Option.map_eq_some_iff.1 (by kernel_rfl);have h1:=Lib.run_to_unsafe (P:=Tryz.prog) w ⟨b,0,none⟩ Tryz.underlying113 Tryz.underlying226 hj (by omega) hsh (show 0<2 by decide);have h3:=Lib.run_from_unsafe (P:=Tryz.prog) w ⟨b,0,none⟩ Tryz.underlying226 Tryz.underlying113 hj hsh (by kernel_rfl);go_enter Tryz.func121,Tryz.ntmps121;go_wp2;rw[run_callFunc_extern Tryz.func178 (by kernel_rfl) (by kernel_rfl) (by kernel_rfl) (e:=Extern.AbiNoEscape.same) (by kernel_rfl),Lib.run_noEscape];simp only[Result.andThen];rw[Oper.upon_value];go_wp2;go_end0;exact⟨rfl,rfl⟩
theorem cc_any (B b:Nat)(bs:List Value)(w:World)(h:Lib.IsBuilder 115 5 B b bs w) :
  Calls Tryz.prog 121 #[.pointer (some ⟨b,0,none⟩)] w fun e w'=>e = .returned (.tuple #[])∧Lib.BuilderAt 115 5 B b (.pointer (some ⟨b,0,none⟩)) bs w'∧Below B w w':=by
 rcases h with h | h
 ·exact(cc_fresh b w h.cell0 h.shape h.frozen0).mono fun e w' hr=>⟨hr.1,hr.2 ▸ h.used _,hr.2 ▸ (Below.refl B w).setCell (p:=⟨b,0,none⟩) h.1 _⟩
 ·exact(cc_used b w h.cell0).mono fun e w' hr=>⟨hr.1,hr.2 ▸ h,hr.2 ▸ Below.refl B _⟩
set_option maxHeartbeats 1000000 in
set_option maxRecDepth 100000 in
theorem ws_bld (B b:Nat)(s t:ByteArray)(w:World)(h:Bld B b s w)(hlen:s.size+t.size≤1000000)(hBw:B≤w.heap.size) :
  Calls Tryz.prog 56 #[.pointer (some ⟨b,0,none⟩),.string t] w fun e w'=>e = .returned (.tuple #[.int .i64 t.size,.nilIface])∧Bld B b (s++t) w'∧Below B w w':=by
 obtain⟨i0,hi,hz0,hz1,hz2⟩:=info_parts Tryz.xst.infoByte;have hls:(Lib.byteCells s.data.toList).length=s.size:=by rw[Lib.byteCells_length];exact(Lib.size_eq s).symm
 have HC:=Lib.hid (cc_any B b _ w h);have hcat:Lib.byteCells s.data.toList++Lib.strCells t=Lib.byteCells (s++t).data.toList:=by rw[Lib.strCells_eq,← Lib.byteCells_append,ByteArray.data_append,Array.toList_append]
 unfold Bld;rw[← hcat];clear hcat h;generalize Lib.byteCells s.data.toList=bs at *;go_enter Tryz.func56,Tryz.ntmps56;go_wp2_with fail;refine HC.out.mono ?_;rintro e w1 ⟨rfl,h1,hb1⟩;obtain⟨hB,v,hbk,hown,hne⟩:=h1;have c1:w1.cell? ⟨b,1,none⟩=some v:=by rw[Lib.cell_of_heap hbk];rfl
 have hz:=hb1.size;go_wp2_with (at_builtin;refine Lib.wpList_append_own_string _ rfl _ _ 109 9 rfl B 5 i0 Tryz.underlying109 Tryz.underlying9 hi hz0 hz1 hz2 _ _ _ rfl hown t rfl ?c3 ?c4 ?c5 ?_)
 case c3=>unfold maxLen;omega
 case c4=>omega
 case c5=>omega
 intro v' w2 hown' hgrow _;have hlt:b<w1.heap.size:=(Array.getElem?_eq_some_iff.1 hbk).1;have hb2:w2.heap[b]? = some (.cells #[.pointer (some ⟨b,0,none⟩),v] 115 (0,0)):=(hgrow.block b hlt (fun e=>hne e.symm)).trans hbk;have d0:w2.cell? ⟨b,0,none⟩=some (.pointer (some ⟨b,0,none⟩)):=by rw[Lib.cell_of_heap hb2];rfl
 have d1:w2.cell? ⟨b,1,none⟩=some v:=by rw[Lib.cell_of_heap hb2];rfl
 have f1:w2.frozen? ⟨b,1,none⟩=false:=Lib.frozen_of_heap hb2 1;have hown2:w2.ownsRow B 5 1 v' (bs++Lib.strCells t).length (bs++Lib.strCells t):=by rw[List.length_append,Lib.strCells_length,hls];exact hown'
 obtain⟨ao,n',cap,rfl⟩:∃ ao n' cap,v' = .slice ao n' cap:=by
  rcases hown'.2 with⟨hv,_⟩ | ⟨g,cap,cur,hv,_⟩
  ·exact⟨_,_,_,hv⟩
  ·exact⟨_,_,_,hv⟩
 have hput:=Or.inr (a:=Lib.BuilderAt 115 5 B b (.pointer none) (bs++Lib.strCells t) (w2.setCell ⟨b,1,none⟩ (.slice ao n' cap))) (Lib.BuilderAt.put hB hb2 hown2 (by decide));have hbel:=(hb1.grown hgrow (by omega) (fun k hk=>(hown.lt k hk).1)).setCell (p:=⟨b,1,none⟩) hB (.slice ao n' cap);clear hown' hown2 hgrow hown hne hbk hb1 HC;go_wp2;go_ret2;exact⟨rfl,hput,hbel⟩
theorem st_bld (B b:Nat)(s:ByteArray)(w:World)(h:Bld B b s w)(hBw:B≤w.heap.size) :
  Calls Tryz.prog 60 #[.pointer (some ⟨b,0,none⟩)] w fun e w'=>e = .returned (.string s)∧Below B w w':=by
 have:=Tryz.bst_any B b s.data.toList w h hBw;rw[Array.toArray_toList] at this;exact this
theorem Bld.fresh (w:World) : Bld w.heap.size w.heap.size ByteArray.empty (w.alloc (.cells #[.pointer none,.slice none 0 0] 115)):=Lib.fresh_isBuilder _ _ w
theorem Bld.lt {B b:Nat}{s:ByteArray}{w:World}(h:Bld B b s w) : b<w.heap.size:=by
 rcases h with h | h
 ·exact h.lt
 ·exact h.lt
theorem Bld.below {B b:Nat}{s:ByteArray}{w w':World}(h:Bld B b s w)(hb:Below w.heap.size w w') : Bld B b s w':=by
 have hlt:=h.lt
 have key:∀ p,Lib.BuilderAt 115 5 B b p (Lib.byteCells s.data.toList) w→Lib.BuilderAt 115 5 B b p (Lib.byteCells s.data.toList) w':=by
  rintro p ⟨hB,v,hbk,hown,hne⟩;refine⟨hB,v,(hb.block b hlt).trans hbk,⟨hown.1, ?_⟩,hne⟩;rcases hown.2 with hn | ⟨g,cap,cur,hv,h1,hg,rest⟩
  ·exact .inl hn
  ·exact .inr ⟨g,cap,cur,hv,h1,(hb.block g (Array.getElem?_eq_some_iff.1 hg).1).trans hg,rest⟩
 rcases h with h | h
 ·exact .inl (key _ h)
 ·exact .inr (key _ h)
theorem Bld.drew {B b:Nat}{s:ByteArray}{w:World}(h:Bld B b s w) : Bld B b s w.drew:=h
structure Wrt (w1:World)(s:ByteArray)(W:World) : Prop where
 b:Bld w1.heap.size w1.heap.size s W
 o:Below w1.heap.size w1 W
theorem Wrt.fresh (w:World) : Wrt w ByteArray.empty (w.alloc (.cells #[.pointer none,.slice none 0 0] 115)):=⟨Bld.fresh w,(Below.refl _ _).alloc (Nat.le_refl _) _⟩
theorem Wrt.below {w1 W W':World}{s:ByteArray}(h:Wrt w1 s W)(hb:Below W.heap.size W W') : Wrt w1 s W':=⟨h.b.below hb,bj h.o hb⟩
theorem Wrt.alloc {w1 W:World}{s:ByteArray}(h:Wrt w1 s W)(o:Obj) : Wrt w1 s (W.alloc o):=h.below ((Below.refl _ _).alloc (Nat.le_refl _) _)
theorem Wrt.write {w1 W:World}{s:ByteArray}(h:Wrt w1 s W)(t:ByteArray)(hz:s.size+t.size≤1000000) :
  Calls Tryz.prog 56 #[.pointer (some ⟨w1.heap.size,0,none⟩),.string t] W fun e w'=>e = .returned (.tuple #[.int .i64 t.size,.nilIface])∧Wrt w1 (s++t) w' :=
 (ws_bld _ _ s t W h.b hz h.o.size).mono fun e w' hr=>⟨hr.1,hr.2.1,h.o.trans hr.2.2⟩
theorem Wrt.told {w1 W:World}{s:ByteArray}(h:Wrt w1 s W) :
  Calls Tryz.prog 60 #[.pointer (some ⟨w1.heap.size,0,none⟩)] W fun e w'=>e = .returned (.string s)∧Below w1.heap.size w1 w' :=
 (st_bld _ _ s W h.b h.o.size).mono fun e w' hr=>⟨hr.1,h.o.trans hr.2⟩
end
end Go.Proofs.YtokbfellcadkpaaGreat
