import Derived.Lib.AppendZeros
import Derived.Deep.OwnRows
import Derived.Test.YtamhnffokoejjaaGreatDoorKwaj
set_option linter.all false
set_option maxHeartbeats 3200000
set_option maxRecDepth 100000
namespace Go.Proofs.YtamhnffokoejjaaGreatDoor
open Go.RowKit
theorem VG(v:Value)(l:List Int)(m:Nat)(w:World)(hv:Lr w v l)(hm:m<=1000):
 Calls Tryz.prog 7 #[v,.int .i64 (m:Int)] w fun e w'=>∃u,e=.returned u/\AA w w'/\ON .u8 5 w' w.heap.size u (l.take m):=by
 obtain ⟨A,cap,rfl,hc⟩:=hv.form;have HV:=AC hv;obtain ⟨n,hn⟩:=BZ (l.length);have J3:=AC hn;rw[hn]at HV hc ⊢;clear hv;have HX:Hid (∀(w1:World),AA w w1->∀a2 c2,Lr w1 (.slice a2 (l.take m).length c2) (l.take m)->∃u w2,(Builtin.append_ #[22,22] 22 #[.slice (some ⟨w1.heap.size,0,none⟩) 0 0,.slice a2 (l.take m).length c2]).run Tryz.prog (w1.alloc (.cells #[] 5))=.ok u w2/\AA w w2/\ON .u8 5 w2 w.heap.size u (l.take m)):=AC (fun w1 h1 a2 c2 h2=>by
  obtain ⟨u,w2,k1,k2,k3⟩:=gY h2 (by rw[List.length_take];omega);exact ⟨u,w2,k1,h1.trans k2,k3.wide h1.below.size⟩)
 by_cases q:m<n
 ·have hl:(l.take m).length=m:=by rw[List.length_take];omega
  have hr:Lr w (.slice A (l.take m).length cap) (l.take m):=by
   rw[hl];have h:=HV.out;rw[<-J3.out]at h;exact RN.take h m AD
  obtain ⟨u,w2,k1,k2,k3⟩:=HX w (AA.refl w) A cap hr;rw[hl]at k1;have K1:=AC k1;have KK:=AC (And.intro k2 k3);clear k1 k2 k3 hr hl hn;go_enter Tryz.func7,Tryz.ntmps7;go_wp2_with (at_builtin;refine Lib.wpList_append_run _ rfl _ _ _ _ rfl _ _ rfl rfl _ _ K1.out ?_)
  go_ret;exact ⟨_,rfl,KK.out.1,KK.out.2⟩
 ·have hl:l.take m=l:=List.take_of_length_le AD;have hr:Lr w (.slice A (l.take m).length cap) (l.take m):=by
   rw[hl,J3.out];exact HV.out
  obtain ⟨u,w2,k1,k2,k3⟩:=HX w (AA.refl w) A cap hr;rw[hl,J3.out]at k1;have K1:=AC k1;have KK:=AC (And.intro k2 k3);clear k1 k2 k3 hr hl hn;go_enter Tryz.func7,Tryz.ntmps7;go_wp2_with (at_builtin;refine Lib.wpList_append_run _ rfl _ _ _ _ rfl _ _ rfl rfl _ _ K1.out ?_)
  go_ret;exact ⟨_,rfl,KK.out.1,KK.out.2⟩
end Go.Proofs.YtamhnffokoejjaaGreatDoor
