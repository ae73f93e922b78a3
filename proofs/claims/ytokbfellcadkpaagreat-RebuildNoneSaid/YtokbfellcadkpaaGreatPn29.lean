/- ZnDApi -/
import Derived.Test.YtokbfellcadkpaaGreatPn25
namespace Go.Proofs.YtokbfellcadkpaaGreat
set_option maxRecDepth 100000
set_option linter.unusedVariables false
section
open Go.RowKit
theorem still {w:World}{base g mb:Nat}{vF:Value}{E:List Ent}{K:List Nat}{D:DiskS}(h:PAt w base g mb vF E K D){v:Value}{f:FuncId}{args:Array Value}(hc:Calls Tryz.prog f args w fun e w'=>e = .returned v∧w=w') :
  Calls Tryz.prog f args w (EndAt ProgAt base g (blocksP g mb E K) w v D):=hc.mono (by
 rintro e w' ⟨rfl,rfl⟩;exact end_same h _)
theorem api : DiskApi ProgAt where
 touch:=by
  rintro w w' base g F G D ⟨mb,vF,E,K,h,rfl⟩ ht hd;exact⟨mb,vF,E,K,h.touch ht hd,rfl⟩
 low:=by
  rintro w base g F D ⟨mb,vF,E,K,h,rfl⟩;exact h.low
 new_:=fun base c w hb hc=>new_run base c w hb hc
 create:=by
  rintro w base g F D n ⟨mb,vF,E,K,h,rfl⟩ hok hn;exact create_run h hok n hn
 append:=by
  rintro w base g F D n s ⟨mb,vF,E,K,h,rfl⟩ hok hs hn;exact append_run h hok n s hn hs
 read:=by
  rintro w base g F D n a k ⟨mb,vF,E,K,h,rfl⟩ hok hc ha hk hn;exact read_run h hok hc n a k hn ha hk
 sync:=by
  rintro w base g F D n ⟨mb,vF,E,K,h,rfl⟩ hok hn;exact sync_run h hok n hn
 rename:=by
  rintro w base g F D n m ⟨mb,vF,E,K,h,rfl⟩ hok hm hn;exact rename_run h hok n m hn hm
 delete:=by
  rintro w base g F D n ⟨mb,vF,E,K,h,rfl⟩ hok hn;exact delete_run h hok n hn
 size:=by
  rintro w base g F D n ⟨mb,vF,E,K,h,rfl⟩ hok hn;exact still h (size_run h hok n hn)
 names:=by
  rintro w base g F D ⟨mb,vF,E,K,h,rfl⟩ hok;refine(names_run h hok.many).mono ?_;rintro e w' ⟨v,h1,h2,h3,h4⟩;have h5:=h.touch h4 (fun _ _=>by simp);exact⟨_,v,h1,h2,fun b hb=>⟨h3 b hb,fun hm=>by have:=h3 b hb;have:=(h.low b hm).2;omega⟩,h5.at,fun x hx=>Or.inl hx,h4.more (fun x hx=>by cases hx)⟩
 free:=by
  rintro w base g F D ⟨mb,vF,E,K,h,rfl⟩ hok;refine(free_run h hok).mono ?_;rintro e w' ⟨rfl,h4⟩;exact end_put (h.touch h4 (fun _ _=>by simp)) (h4.more (fun x hx=>by cases hx)) _
 up:=by
  rintro w base g F D ⟨mb,vF,E,K,h,rfl⟩ hok;exact still h (up_run h)
 starts:=by
  rintro w base g F D ⟨mb,vF,E,K,h,rfl⟩ hok;exact still h (starts_run h)
 crash:=by
  rintro w base g F D v keep ⟨mb,vF,E,K,h,rfl⟩ hok hI hV _;exact crash_run v keep h hok hI hV
 spoil:=by
  rintro w base g F D n a s ⟨mb,vF,E,K,h,rfl⟩ hok ha hs hn;exact spoil_run h hok n a s hn ha hs
 cut:=by
  rintro w base g F D n k ⟨mb,vF,E,K,h,rfl⟩ hok hk hn;exact cut_run h hok n hn k
 upq:=by
  rintro w base g F D ⟨mb,vF,E,K,h,rfl⟩;exact up_run h
 startsq:=by
  rintro w base g F D ⟨mb,vF,E,K,h,rfl⟩;exact starts_run h
 sizeq:=by
  rintro w base g F D n ⟨mb,vF,E,K,h,rfl⟩ hok hn;exact size_run h hok n hn
 rise:=by
  rintro w base g F D ⟨mb,vF,E,K,h,rfl⟩;exact⟨h.rise,h.names⟩
end
end Go.Proofs.YtokbfellcadkpaaGreat
