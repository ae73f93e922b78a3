import Derived.Test.YthejglbnkmimjaaGreatQp01
import Derived.Test.YthejglbnkmimjaaGreatQp15
set_option linter.unusedVariables false
set_option maxRecDepth 100000
set_option maxHeartbeats 9000000
namespace Go.Proofs.YthejglbnkmimjaaGreat
open Proofs.Tryz
section
open Go.RowKit
def Bld(B b:Nat)(s:Tw)(w:World):Prop:=Lib.IsBuilder 190 5 B b (Lib.byteCells s.data.toList) w
theorem qZW(b:Nat)(w:World)(c:w.cell? ⟨b,0,none⟩=some (.pointer (some ⟨b,0,none⟩))):
  Calls prog 196 #[.pointer (some ⟨b,0,none⟩)] w fun e w'=>e=.returned (.tuple #[])/\w'=w:=by
 obtain⟨j,a⟩:∃j,prog.info? 190=some j:=Option.isSome_iff_exists.1 (by kernel_rfl);have d:=Lib.run_neq_ptr_same (P:=prog) w ⟨b,0,none⟩ Tryz.underlying188 a;go_enter func196,ntmps196;go_wp2;go_end0;exact⟨rfl,rfl⟩
theorem qZA(b:Nat)(w:World)(d:w.cell? ⟨b,0,none⟩=some (.pointer none))(c:w.shape? b=some (190,2))(i:w.frozen? ⟨b,0,none⟩=false):
  Calls prog 196 #[.pointer (some ⟨b,0,none⟩)] w fun e w'=>e=.returned (.tuple #[])/\w'=w.setCell ⟨b,0,none⟩ (.pointer (some ⟨b,0,none⟩)):=by
 obtain⟨j,a,k⟩:∃j,prog.info? 190=some j/\j.size=2:=xG.1 (by kernel_rfl);have f:=Lib.run_to_unsafe (P:=prog) w ⟨b,0,none⟩ Tryz.underlying188 Tryz.underlying291 a (by omega) c (show 0<2 by decide);have g:=Lib.run_from_unsafe (P:=prog) w ⟨b,0,none⟩ Tryz.underlying291 Tryz.underlying188 a c (by kernel_rfl);go_enter func196,ntmps196;go_wp2;rw[run_callFunc_extern func247 (by kernel_rfl) (by kernel_rfl) (by kernel_rfl) (e:=Extern.AbiNoEscape.same) (by kernel_rfl),Lib.run_noEscape];simp only[Result.andThen];rw[Oper.upon_value];go_wp2;go_end0;exact⟨rfl,rfl⟩
theorem qZB(B b:Nat)(bs:List Value)(w:World)(h:Lib.IsBuilder 190 5 B b bs w):
  Calls prog 196 #[.pointer (some ⟨b,0,none⟩)] w fun e w'=>e=.returned (.tuple #[])/\Lib.BuilderAt 190 5 B b (.pointer (some ⟨b,0,none⟩)) bs w'/\Below B w w':=by
 rcases h with h|h
 ·exact(qZA b w h.cell0 h.shape h.frozen0).mono fun e w' a=>⟨a.1,a.2 ▸ h.used _,a.2 ▸ (qU B w).setCell (p:=⟨b,0,none⟩) h.1 _⟩
 ·exact(qZW b w h.cell0).mono fun e w' a=>⟨a.1,a.2 ▸ h,a.2 ▸ qU B _⟩
theorem qZC(B b:Nat)(s t:Tw)(w:World)(h:Bld B b s w)(W:s.size+t.size<=1000000)(V:B<=w.1.size):
  Calls prog 140 #[.pointer (some ⟨b,0,none⟩),t] w fun e w'=>e=.returned (.tuple #[t.size,.nilIface])/\Bld B b (s++t) w'/\Below B w w':=by
 obtain⟨Q,I,N,O,P⟩:=info_parts Tryz.xst.infoByte;have K:(Lib.byteCells s.data.toList).length=s.size:=by rw[Lib.byteCells_length];exact(Lib.size_eq s).symm
 have u:=qQ (qZB B b _ w h);have z:Lib.byteCells s.data.toList++Lib.strCells t=Lib.byteCells (s++t).data.toList:=by rw[Lib.strCells_eq,<-Lib.byteCells_append,ByteArray.data_append,Array.toList_append]
 unfold Bld;rw[<-z];clear z h;generalize Lib.byteCells s.data.toList=bs at*;go_enter func140,ntmps140;go_wp2_with fail;refine u.out.mono ?_;rintro e F⟨rfl,G,m⟩;obtain⟨y,v,j,o,A⟩:=G;have c1:F.cell? ⟨b,1,none⟩=some v:=by rw[Lib.cell_of_heap j];rfl
 have X:=m.size;go_wp2_with (at_builtin;refine Lib.wpList_append_own_string _ rfl _ _ 154 9 rfl B 5 Q Tryz.underlying154 Tryz.underlying9 I N O P _ _ _ rfl o t rfl ?c3 ?c4 ?c5 ?_)
 case c3=>unfold maxLen;omega
 case c4=>omega
 case c5=>omega
 intro D c q n _;have L:b<F.1.size:=(ql.1 j).1;have i:c.heap[b]? = some (.cells #[.pointer (some ⟨b,0,none⟩),v] 190 (0,0)):=(n.block b L (fun e=>A e.symm)).trans j;have S:c.cell? ⟨b,0,none⟩=some (.pointer (some ⟨b,0,none⟩)):=by rw[Lib.cell_of_heap i];rfl
 have T:c.cell? ⟨b,1,none⟩=some v:=by rw[Lib.cell_of_heap i];rfl
 have U:c.frozen? ⟨b,1,none⟩=false:=Lib.frozen_of_heap i 1;have C:c.ownsRow B 5 1 D (bs++Lib.strCells t).length (bs++Lib.strCells t):=by rw[qN,Lib.strCells_length,K];exact q
 obtain⟨f,l,d,rfl⟩:∃f l d,D=.slice f l d:=by
  rcases q.2 with⟨r,_⟩|⟨g,d,R,r,_⟩
  ·exact⟨_,_,_,r⟩
  ·exact⟨_,_,_,r⟩
 have M:=qY (a:=Lib.BuilderAt 190 5 B b (.pointer none) (bs++Lib.strCells t) (c.setCell ⟨b,1,none⟩ (.slice f l d))) (Lib.BuilderAt.put y i C (by decide));have H:=(m.grown n (by omega) (fun k J=>(o.lt k J).1)).setCell (p:=⟨b,1,none⟩) y (.slice f l d);clear q C n o A j m u;go_wp2;go_ret2;exact⟨rfl,M,H⟩
theorem qZD(B b:Nat)(s:Tw)(w:World)(h:Bld B b s w)(a:B<=w.1.size):
  Calls prog 144 #[.pointer (some ⟨b,0,none⟩)] w fun e w'=>e=.returned (.string s)/\Below B w w':=by
 have:=Tryz.bst_any B b s.data.toList w h a;rw[Array.toArray_toList]at this;exact this
theorem Bld.fresh(w:World):Bld w.1.size w.1.size ByteArray.empty (w.alloc (.cells #[.pointer none,.slice none 0 0] 190)):=Lib.fresh_isBuilder _ _ w
theorem Bld.lt{B b:Nat}{s:Tw}{w:World}(h:Bld B b s w):b<w.1.size:=by
 rcases h with h|h
 ·exact h.lt
 ·exact h.lt
theorem Bld.below{B b:Nat}{s:Tw}{w w':World}(h:Bld B b s w)(a:Below w.1.size w w'):Bld B b s w':=by
 have n:=h.lt
 have f:∀p,Lib.BuilderAt 190 5 B b p (Lib.byteCells s.data.toList) w->Lib.BuilderAt 190 5 B b p (Lib.byteCells s.data.toList) w':=by
  rintro p⟨l,v,m,d,q⟩;refine⟨l,v,(a.block b n).trans m,⟨d.1, ?_⟩,q⟩;rcases d.2 with o|⟨g,i,j,r,k,c,t⟩
  ·exact .inl o
  ·exact .inr ⟨g,i,j,r,k,(a.block g (ql.1 c).1).trans c,t⟩
 rcases h with h|h
 ·exact .inl (f _ h)
 ·exact .inr (f _ h)
theorem Bld.drew{B b:Nat}{s:Tw}{w:World}(h:Bld B b s w):Bld B b s w.drew:=h
structure Wrt(w1:World)(s:Tw)(W:World):Prop where
 b:Bld w1.1.size w1.1.size s W
 o:Below w1.1.size w1 W
theorem Wrt.fresh(w:World):Wrt w ByteArray.empty (w.alloc (.cells #[.pointer none,.slice none 0 0] 190)):=⟨Bld.fresh w,(qU _ _).alloc (qK _) _⟩
theorem Wrt.below{w1 W a:World}{s:Tw}(h:Wrt w1 s W)(c:Below W.1.size W a):Wrt w1 s a:=⟨h.b.below c,bj h.o c⟩
theorem Wrt.alloc{w1 W:World}{s:Tw}(h:Wrt w1 s W)(o:Obj):Wrt w1 s (W.alloc o):=h.below ((qU _ _).alloc (qK _) _)
theorem Wrt.write{w1 W:World}{s:Tw}(h:Wrt w1 s W)(t:Tw)(c:s.size+t.size<=1000000):
  Calls prog 140 #[.pointer (some ⟨w1.1.size,0,none⟩),t] W fun e w'=>e=.returned (.tuple #[t.size,.nilIface])/\Wrt w1 (s++t) w' :=
 (qZC _ _ s t W h.b c h.o.size).mono fun e w' a=>⟨a.1,a.2.1,h.o.trans a.2.2⟩
theorem Wrt.told{w1 W:World}{s:Tw}(h:Wrt w1 s W):
  Calls prog 144 #[.pointer (some ⟨w1.1.size,0,none⟩)] W fun e w'=>e=.returned (.string s)/\Below w1.1.size w1 w' :=
 (qZD _ _ s W h.b h.o.size).mono fun e w' a=>⟨a.1,h.o.trans a.2⟩
end
end Go.Proofs.YthejglbnkmimjaaGreat
