/- ZpImMath, ZpImFiles, ZpImOrphPlain -/
import Derived.Test.YtcpfkaehefcakaaGreatPp04
import Derived.Test.YtcpfkaehefcakaaGreatPp03
import Derived.Test.YtcpfkaehefcakaaGreatPp06
namespace Go.Proofs.YtcpfkaehefcakaaGreat
set_option maxRecDepth 100000
set_option linter.unusedVariables false
section
def mapN : ByteArray:=⟨#[109,97,112]⟩
def newN : ByteArray:=⟨#[110,101,119]⟩
theorem map_new : mapN≠newN:=by decide +kernel
theorem map_name : nameB mapN=true:=by decide +kernel
theorem new_name : nameB newN=true:=by decide +kernel
def swapP (D:DiskS)(m:ManS) : Nat × DiskS :=
 if ¬ MayM m then(2,D)
 else if D.down=true then(61,D)
 else if (deleteS D newN).1≠0∧(deleteS D newN).1≠4 then deleteS D newN
 else if ((deleteS D newN).2.cap:Int)-(usedS (deleteS D newN).2.l:Nat)-((mfB m).size:Nat)<6000 then(60,(deleteS D newN).2)
 else if (layP (deleteS D newN).2 newN (mfB m)).1≠0 then layP (deleteS D newN).2 newN (mfB m)
 else renameS (layP (deleteS D newN).2 newN (mfB m)).2 newN mapN
theorem wp_swap {D:DiskS}(ok:WfP D)(m:ManS) : WfP (swapP D m).2:=by
 unfold swapP
 have o1:=wp_delete ok newN
 have o2:=wp_lay o1 newN (mfB m)
 split
 ·exact ok
 ·split
  ·exact ok
  ·split
   ·exact o1
   ·split
    ·exact o1
    ·split
     ·exact o2
     ·exact wp_rename o2 _ _
theorem swap_bad {D:DiskS}{m:ManS}(hm:¬ MayM m) : swapP D m=(2,D):=by unfold swapP;rw[if_pos hm]
def orphB (fl:List Int)(n:ByteArray) : Bool:=decide (n=newN)||(npOk n&&!decide (npK n=99)&&!decide ((npN n:Int)∈fl))
def orphL (l:List ByteArray)(m:ManS) : List ByteArray:=l.filter (orphB m.lv.flatten)
abbrev namesS (D:DiskS) : List ByteArray:=D.l.map FileS.name
theorem drop_names (n:ByteArray) : ∀ l:List FileS,(l.map FileS.name).Nodup→(dropS l (findS l n)).map FileS.name=(l.map FileS.name).filter (fun x=>!decide (x=n))
 | [],_=>rfl
 | x::l,hd=>by
   obtain⟨h1,h2⟩:=List.nodup_cons.1 (show(x.name::l.map FileS.name).Nodup from hd)
   have ih:=drop_names n l h2
   unfold dropS findS at ih ⊢
   rw[List.findIdx_cons,List.map_cons]
   by_cases e:x.name=n
   ·rw[decide_eq_true e,List.filter_cons_of_neg (by simp[e])]
    show l.map FileS.name=_
    refine(List.filter_eq_self.2 fun y hy=>?_).symm
    have:y≠n:=fun h=>h1 (e.trans h.symm ▸ hy)
    simpa using this
   ·rw[decide_eq_false e,List.filter_cons_of_pos (by simp[e])]
    simp only[cond_false,List.take_succ_cons,List.drop_succ_cons,List.cons_append,List.map_cons]
    rw[ih]
end
section
open Go.RowKit
theorem orph_take {l:List ByteArray}{m:ManS}{j:Nat}{x:ByteArray}(h:l[j]? = some x) : orphL (l.take (j+1)) m=orphL (l.take j) m++(if orphB m.lv.flatten x=true then [x] else []):=by
 unfold orphL
 rw[List.take_add_one,h,List.filter_append]
 congr 1
 show [x].filter _=_
 by_cases hb:orphB m.lv.flatten x=true
 ·rw[if_pos hb,List.filter_cons_of_pos hb,List.filter_nil]
 ·rw[if_neg hb,List.filter_cons_of_neg hb,List.filter_nil]
theorem orphL_len (l:List ByteArray)(m:ManS) : (orphL l m).length≤l.length:=List.length_filter_le _ _
theorem nameB_le {n:ByteArray}(h:nameB n=true) : n.size≤maxLen:=by
 unfold nameB at h
 simp only[Bool.and_eq_true,decide_eq_true_eq] at h
 exact Nat.le_trans h.2 (by decide)
theorem DS.names {At:Lies}{w0 w:World}{gd:Nat}{D:DiskS}{E:List Nat}(api:DiskApi At)(h:DS At w0 gd D E w) : ∀ x∈D.l.map FileS.name,x.size≤maxLen:=by
 obtain⟨F,h1,h2,h3⟩:=h
 intro x hx
 obtain⟨f,hf,rfl⟩:=List.mem_map.1 hx
 exact nameB_le ((api.rise h1).2 f hf)
end
end Go.Proofs.YtcpfkaehefcakaaGreat
