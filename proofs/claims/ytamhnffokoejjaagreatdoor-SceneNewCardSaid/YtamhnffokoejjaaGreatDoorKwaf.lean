import Derived.Test.YtamhnffokoejjaaGreatDoorKwab
import Derived.Test.YtamhnffokoejjaaGreatDoorRows
set_option linter.all false
namespace Go.Proofs.YtamhnffokoejjaaGreatDoor
open Go.RowKit
theorem O1{a b:Int}(h:a=b):Ending.returned (.int .i64 a)=.returned (.int .i64 b):=by rw[h]
def Cq(n low high:Int):Int:=if n<low\/high<low then low else if high<n then high else n
theorem Mp(n low high:Int)(w:World)(c:Int)(hc:Cq n low high=c):
 Calls Tryz.prog 89 #[.int .i64 n,.int .i64 low,.int .i64 high] w fun e w'=>e=.returned (.int .i64 c)/\w=w':=by
 subst hc;by_cases h1:n<low
 ·have Q:Hid (low=Cq n low high):=AC (by unfold Cq;rw[if_pos (.inl h1)]);go_enter Tryz.func89,Tryz.ntmps89
  go_wp2
  go_ret;exact ⟨O1 Q.out,rfl⟩
 ·by_cases h2:high<low
  ·have Q:Hid (low=Cq n low high):=AC (by unfold Cq;rw[if_pos (.inr h2)]);go_enter Tryz.func89,Tryz.ntmps89
   go_wp2
   go_ret;exact ⟨O1 Q.out,rfl⟩
  ·by_cases h3:high<n
   ·have Q:Hid (high=Cq n low high):=AC (by unfold Cq;rw[if_neg AD,if_pos h3]);go_enter Tryz.func89,Tryz.ntmps89
    go_wp2
    go_ret;exact ⟨O1 Q.out,rfl⟩
   ·have Q:Hid (n=Cq n low high):=AC (by unfold Cq;rw[if_neg AD,if_neg h3]);go_enter Tryz.func89,Tryz.ntmps89
    go_wp2
    go_ret;exact ⟨O1 Q.out,rfl⟩
def Fj(a n all:Int):Prop:=0<=a/\a<=all/\0<=n/\n<=all-a
theorem II(a n all:Int)(w:World)(h:Fj a n all)(ha:all<=16777216):
 Calls Tryz.prog 78 #[.int .i64 a,.int .i64 n,.int .i64 all] w fun e w'=>e=.returned (.tuple #[.int .i64 a,.int .i64 (a+n),.bool true])/\w=w':=by
 obtain ⟨h1,h2,h3,h4⟩:=h;go_enter Tryz.func78,Tryz.ntmps78
 go_wp2
 refine bodyPost_ret (v:=.tuple #[.int .i64 a,.int .i64 (a+n),.bool true]) (by simp[results,Tryz.results78,go_sem]) rfl ?_;exact ⟨rfl,rfl⟩
theorem Yz(a n all:Int)(w:World)(h:¬Fj a n all)(ha:all<=16777216)(h0:0<=all):
 Calls Tryz.prog 78 #[.int .i64 a,.int .i64 n,.int .i64 all] w fun e w'=>e=.returned (.tuple #[.int .i64 0,.int .i64 0,.bool false])/\w=w':=by
 by_cases h1:a<0
 ·clear h;go_enter Tryz.func78,Tryz.ntmps78
  go_wp2
  refine bodyPost_ret (v:=.tuple #[.int .i64 0,.int .i64 0,.bool false]) (by simp[results,Tryz.results78,go_sem]) rfl ?_;exact ⟨rfl,rfl⟩
 ·by_cases h2:all<a
  ·clear h;go_enter Tryz.func78,Tryz.ntmps78
   go_wp2
   refine bodyPost_ret (v:=.tuple #[.int .i64 0,.int .i64 0,.bool false]) (by simp[results,Tryz.results78,go_sem]) rfl ?_;exact ⟨rfl,rfl⟩
  ·by_cases h3:n<0
   ·clear h;go_enter Tryz.func78,Tryz.ntmps78
    go_wp2
    refine bodyPost_ret (v:=.tuple #[.int .i64 0,.int .i64 0,.bool false]) (by simp[results,Tryz.results78,go_sem]) rfl ?_;exact ⟨rfl,rfl⟩
   ·have h4:all-a<n:=by unfold Fj at h;omega
    clear h;go_enter Tryz.func78,Tryz.ntmps78
    go_wp2
    refine bodyPost_ret (v:=.tuple #[.int .i64 0,.int .i64 0,.bool false]) (by simp[results,Tryz.results78,go_sem]) rfl ?_;exact ⟨rfl,rfl⟩
end Go.Proofs.YtamhnffokoejjaaGreatDoor
