import Derived.Test.YtamhnffokoejjaaGreatDoorChecked
import Derived.Test.YtamhnffokoejjaaGreatDoorKwae
set_option linter.all false
namespace Go.Proofs.YtamhnffokoejjaaGreatDoor
open Go.Proofs.Tryz
open Go.RowKit
section
variable{a h n:Int}
def Q7(n:Int):Bool:=decide (0<=n) && decide (n<=16777216)
theorem Oy:Q7 n=true↔0<=n/\n<=16777216:=by unfold Q7;simp
theorem aZ:Q7 n=false↔n<0\/16777216<n:=by unfold Q7;simp;omega
theorem Kg(h:Q7 n=true):0<=n/\n<=16777216:=Oy.1 h
def E5(p a o i:Int):Bool:=Q7 p && Q7 a && Q7 o && Q7 i
theorem aG{p o i:Int}(h:E5 p a o i=true):(0<=p/\p<=16777216)/\(0<=a/\a<=16777216)/\(0<=o/\o<=16777216)/\0<=i/\i<=16777216:=by
 unfold E5 at h;simp only[Bool.and_eq_true,Oy]at h;omega
def CJ(p a o i:Int):Int:=if E5 p a o i then (if a+o<=p then p-o+i else if a<p then a+i else p) else p
def DB(p a o i:Int):Int:=if E5 p a o i then (if p<=a then p else if p<=a+o then a else p-o+i) else p
theorem B5{b:Int}(h:a=b):Ending.returned (.int .i64 a)=.returned (.int .i64 b):=by rw[h]
theorem CM(n:Int)(w:World)(c:Bool)(hc:Q7 n=c):Calls prog 189 #[.int .i64 n] w fun e w'=>e=.returned (.bool c)/\w=w':=by
 subst hc;by_cases h1:0<=n
 ·by_cases h2:n<=16777216
  ·have Q:Hid (true=Q7 n):=AC (Oy.2 ⟨h1,h2⟩).symm;go_enter func189,ntmps189
   go_wp2
   go_ret;exact ⟨Am Q.out,rfl⟩
  ·have Q:Hid (false=Q7 n):=AC (aZ.2 AD).symm;go_enter func189,ntmps189
   go_wp2
   go_ret;exact ⟨Am Q.out,rfl⟩
 ·have Q:Hid (false=Q7 n):=AC (aZ.2 AD).symm;go_enter func189,ntmps189
  go_wp2
  go_ret;exact ⟨Am Q.out,rfl⟩
theorem Zh(p a o i:Int)(w:World)(c:Int)(hc:CJ p a o i=c):Calls prog 145 #[.int .i64 p,.agg #[.int .i64 a,.int .i64 o,.int .i64 i]] w fun e w'=>e=.returned (.int .i64 c)/\AA w w':=by
 subst hc;have F:Hid (E5 p a o i=false->p=CJ p a o i):=AC (fun h=>by unfold CJ;rw[h];rfl);rcases h1:Q7 p
 ·have Q:Hid (p=CJ p a o i):=AC (F (by unfold E5;simp[h1]));go_enter func145,ntmps145;go_wp2_with ((go_at_call 189;refine (CM _ _ _ (by assumption)).mono ?_;rintro e w' ⟨rfl,rfl⟩))
  go_ret;exact ⟨B5 Q.out,BQ⟩
 ·rcases h2:Q7 a
  ·have Q:Hid (p=CJ p a o i):=AC (F (by unfold E5;simp[h2]));go_enter func145,ntmps145;go_wp2_with ((go_at_call 189;refine (CM _ _ _ (by assumption)).mono ?_;rintro e w' ⟨rfl,rfl⟩))
   go_ret;exact ⟨B5 Q.out,BQ⟩
  ·rcases h3:Q7 o
   ·have Q:Hid (p=CJ p a o i):=AC (F (by unfold E5;simp[h3]));go_enter func145,ntmps145;go_wp2_with ((go_at_call 189;refine (CM _ _ _ (by assumption)).mono ?_;rintro e w' ⟨rfl,rfl⟩))
    go_ret;exact ⟨B5 Q.out,BQ⟩
   ·rcases h4:Q7 i
    ·have Q:Hid (p=CJ p a o i):=AC (F (by unfold E5;simp[h4]));go_enter func145,ntmps145;go_wp2_with ((go_at_call 189;refine (CM _ _ _ (by assumption)).mono ?_;rintro e w' ⟨rfl,rfl⟩))
     go_ret;exact ⟨B5 Q.out,BQ⟩
    ·have b1:=Kg h1;have b2:=Kg h2;have b3:=Kg h3;have b4:=Kg h4;have T:E5 p a o i=true:=by unfold E5;simp[h1,h2,h3,h4]
     by_cases h5:a+o<=p
     ·have Q:Hid (p-o+i=CJ p a o i):=AC (by unfold CJ;rw[if_pos T,if_pos h5]);clear T;go_enter func145,ntmps145;go_wp2_with ((go_at_call 189;refine (CM _ _ _ (by assumption)).mono ?_;rintro e w' ⟨rfl,rfl⟩))
      go_ret;exact ⟨B5 Q.out,BQ⟩
     ·by_cases h6:a<p
      ·have Q:Hid (a+i=CJ p a o i):=AC (by unfold CJ;rw[if_pos T,if_neg h5,if_pos h6]);clear T;go_enter func145,ntmps145;go_wp2_with ((go_at_call 189;refine (CM _ _ _ (by assumption)).mono ?_;rintro e w' ⟨rfl,rfl⟩))
       go_ret;exact ⟨B5 Q.out,BQ⟩
      ·have Q:Hid (p=CJ p a o i):=AC (by unfold CJ;rw[if_pos T,if_neg h5,if_neg h6]);clear T;go_enter func145,ntmps145;go_wp2_with ((go_at_call 189;refine (CM _ _ _ (by assumption)).mono ?_;rintro e w' ⟨rfl,rfl⟩))
       go_ret;exact ⟨B5 Q.out,BQ⟩
theorem dW(p a o i:Int)(w:World)(c:Int)(hc:DB p a o i=c):Calls prog 146 #[.int .i64 p,.agg #[.int .i64 a,.int .i64 o,.int .i64 i]] w fun e w'=>e=.returned (.int .i64 c)/\AA w w':=by
 subst hc;have F:Hid (E5 p a o i=false->p=DB p a o i):=AC (fun h=>by unfold DB;rw[h];rfl);rcases h1:Q7 p
 ·have Q:Hid (p=DB p a o i):=AC (F (by unfold E5;simp[h1]));go_enter func146,ntmps146;go_wp2_with ((go_at_call 189;refine (CM _ _ _ (by assumption)).mono ?_;rintro e w' ⟨rfl,rfl⟩))
  go_ret;exact ⟨B5 Q.out,BQ⟩
 ·rcases h2:Q7 a
  ·have Q:Hid (p=DB p a o i):=AC (F (by unfold E5;simp[h2]));go_enter func146,ntmps146;go_wp2_with ((go_at_call 189;refine (CM _ _ _ (by assumption)).mono ?_;rintro e w' ⟨rfl,rfl⟩))
   go_ret;exact ⟨B5 Q.out,BQ⟩
  ·rcases h3:Q7 o
   ·have Q:Hid (p=DB p a o i):=AC (F (by unfold E5;simp[h3]));go_enter func146,ntmps146;go_wp2_with ((go_at_call 189;refine (CM _ _ _ (by assumption)).mono ?_;rintro e w' ⟨rfl,rfl⟩))
    go_ret;exact ⟨B5 Q.out,BQ⟩
   ·rcases h4:Q7 i
    ·have Q:Hid (p=DB p a o i):=AC (F (by unfold E5;simp[h4]));go_enter func146,ntmps146;go_wp2_with ((go_at_call 189;refine (CM _ _ _ (by assumption)).mono ?_;rintro e w' ⟨rfl,rfl⟩))
     go_ret;exact ⟨B5 Q.out,BQ⟩
    ·have b1:=Kg h1;have b2:=Kg h2;have b3:=Kg h3;have b4:=Kg h4;have T:E5 p a o i=true:=by unfold E5;simp[h1,h2,h3,h4]
     by_cases h5:p<=a
     ·have Q:Hid (p=DB p a o i):=AC (by unfold DB;rw[if_pos T,if_pos h5]);clear T;go_enter func146,ntmps146;go_wp2_with ((go_at_call 189;refine (CM _ _ _ (by assumption)).mono ?_;rintro e w' ⟨rfl,rfl⟩))
      go_ret;exact ⟨B5 Q.out,BQ⟩
     ·by_cases h6:p<=a+o
      ·have Q:Hid (a=DB p a o i):=AC (by unfold DB;rw[if_pos T,if_neg h5,if_pos h6]);have d5:=decide_eq_false h5;clear T;go_enter func146,ntmps146;go_wp2_with ((go_at_call 189;refine (CM _ _ _ (by assumption)).mono ?_;rintro e w' ⟨rfl,rfl⟩))
       go_ret;exact ⟨B5 Q.out,BQ⟩
      ·have Q:Hid (p-o+i=DB p a o i):=AC (by unfold DB;rw[if_pos T,if_neg h5,if_neg h6]);have d5:=decide_eq_false h5;have d6:=decide_eq_false h6;clear T;go_enter func146,ntmps146;go_wp2_with ((go_at_call 189;refine (CM _ _ _ (by assumption)).mono ?_;rintro e w' ⟨rfl,rfl⟩))
       go_ret;exact ⟨B5 Q.out,BQ⟩
def fh(n h:Int):Bool:=decide (0<=n) && decide (n<=h)
theorem ai:fh n h=true↔0<=n/\n<=h:=by unfold fh;simp
theorem Zw:fh n h=false↔¬(0<=n/\n<=h):=by rw[<-ai];simp
theorem LS(n h:Int)(w:World)(c:Bool)(hc:fh n h=c):Calls prog 251 #[.int .i64 n,.int .i64 h] w fun e w'=>e=.returned (.bool c)/\w=w':=by
 subst hc;by_cases h1:0<=n
 ·by_cases h2:n<=h
  ·have Q:Hid (true=fh n h):=AC (ai.2 ⟨h1,h2⟩).symm;go_enter func251,ntmps251
   go_wp2
   go_ret;exact ⟨Am Q.out,rfl⟩
  ·have Q:Hid (false=fh n h):=AC (Zw.2 AD).symm;go_enter func251,ntmps251
   go_wp2
   go_ret;exact ⟨Am Q.out,rfl⟩
 ·have Q:Hid (false=fh n h):=AC (Zw.2 AD).symm;go_enter func251,ntmps251
  go_wp2
  go_ret;exact ⟨Am Q.out,rfl⟩
theorem Ib(n:Int):fh n 16777216=Q7 n:=rfl
theorem JT(p a o i:Int)(w:World)(c:Bool)(hc:E5 p a o i=c):Calls prog 218 #[.int .i64 p,.agg #[.int .i64 a,.int .i64 o,.int .i64 i]] w fun e w'=>e=.returned (.bool c)/\AA w w':=by
 subst hc;rcases h1:fh p 16777216
 ·have Q:Hid (false=E5 p a o i):=AC (by unfold E5;rw[<-Ib p,h1];rfl);go_enter func218,ntmps218;go_wp2_with ((go_at_call 251;refine (LS _ _ _ _ (by assumption)).mono ?_;rintro e w' ⟨rfl,rfl⟩))
  go_ret;exact ⟨Am Q.out,BQ⟩
 ·rcases h2:fh a 16777216
  ·have Q:Hid (false=E5 p a o i):=AC (by unfold E5;rw[<-Ib p,<-Ib a,h1,h2];rfl);go_enter func218,ntmps218;go_wp2_with ((go_at_call 251;refine (LS _ _ _ _ (by assumption)).mono ?_;rintro e w' ⟨rfl,rfl⟩))
   go_ret;exact ⟨Am Q.out,BQ⟩
  ·rcases h3:fh o 16777216
   ·have Q:Hid (false=E5 p a o i):=AC (by unfold E5;rw[<-Ib p,<-Ib a,<-Ib o,h1,h2,h3];rfl);go_enter func218,ntmps218;go_wp2_with ((go_at_call 251;refine (LS _ _ _ _ (by assumption)).mono ?_;rintro e w' ⟨rfl,rfl⟩))
    go_ret;exact ⟨Am Q.out,BQ⟩
   ·obtain ⟨c,h4⟩:∃c,fh i 16777216=c:=⟨_,rfl⟩;have Q:Hid (c=E5 p a o i):=AC (by unfold E5;rw[<-Ib p,<-Ib a,<-Ib o,<-Ib i,h1,h2,h3,h4];simp);go_enter func218,ntmps218;go_wp2_with ((go_at_call 251;refine (LS _ _ _ _ (by assumption)).mono ?_;rintro e w' ⟨rfl,rfl⟩))
    go_ret;exact ⟨Am Q.out,BQ⟩
theorem EU{w w1:World}{x y z:Value}{t:TypeId}(h:AA (w.alloc (.cells #[x,y,z] t)) w1):w1.cell? ⟨w.heap.size,0,none⟩=some x/\w1.cell? ⟨w.heap.size,1,none⟩=some y/\w1.cell? ⟨w.heap.size,2,none⟩=some z:=by
 have h3:(w.alloc (.cells #[x,y,z] t)).heap[w.heap.size]?=some (.cells #[x,y,z] t):=Ae rfl;exact ⟨(h.below.cell (As h3)).trans (by rw[AE h3];rfl),(h.below.cell (As h3)).trans (by rw[AE h3];rfl),(h.below.cell (As h3)).trans (by rw[AE h3];rfl)⟩
theorem Pq(p a o i:Int)(w:World)(c:Int)(hc:CJ p a o i=c):Calls prog 172 #[.int .i64 p,.agg #[.int .i64 a,.int .i64 o,.int .i64 i]] w fun e w'=>e=.returned (.int .i64 c)/\AA w w':=by
 subst hc;rcases T:E5 p a o i
 ·have HM:=AC (fun w=>JT p a o i w false T);have Q:Hid (p=CJ p a o i):=AC (by unfold CJ;rw[T];rfl);clear T;go_enter func172,ntmps172;go_wp2_with fail;refine (HM _).mono ?_;rintro e w1 ⟨rfl,b1⟩;have AG:=AC (AA.trans ((AA.refl w).alloc _) b1);clear b1;go_wp2_with fail;go_ret;exact ⟨B5 Q.out,AG.out⟩
 ·have HM:=AC (fun w=>JT p a o i w true T);obtain ⟨b1,b2,b3,b4⟩:=aG T;by_cases h5:a+o<=p
  ·have Q:Hid (p-o+i=CJ p a o i):=AC (by unfold CJ;rw[if_pos T,if_pos h5]);clear T;go_enter func172,ntmps172;go_wp2_with fail;refine (HM _).mono ?_;rintro e w1 ⟨rfl,b1⟩;obtain ⟨c0,c1,c2⟩:=EU b1;have AG:=AC (AA.trans ((AA.refl w).alloc _) b1);clear b1;go_wp2_with fail;go_ret;exact ⟨B5 Q.out,AG.out⟩
  ·by_cases h6:a<p
   ·have Q:Hid (a+i=CJ p a o i):=AC (by unfold CJ;rw[if_pos T,if_neg h5,if_pos h6]);clear T;go_enter func172,ntmps172;go_wp2_with fail;refine (HM _).mono ?_;rintro e w1 ⟨rfl,b1⟩;obtain ⟨c0,c1,c2⟩:=EU b1;have AG:=AC (AA.trans ((AA.refl w).alloc _) b1);clear b1;go_wp2_with fail;go_ret;exact ⟨B5 Q.out,AG.out⟩
   ·have Q:Hid (p=CJ p a o i):=AC (by unfold CJ;rw[if_pos T,if_neg h5,if_neg h6]);clear T;go_enter func172,ntmps172;go_wp2_with fail;refine (HM _).mono ?_;rintro e w1 ⟨rfl,b1⟩;obtain ⟨c0,c1,c2⟩:=EU b1;have AG:=AC (AA.trans ((AA.refl w).alloc _) b1);clear b1;go_wp2_with fail;go_ret;exact ⟨B5 Q.out,AG.out⟩
theorem SM(p a o i:Int)(w:World)(c:Int)(hc:DB p a o i=c):Calls prog 173 #[.int .i64 p,.agg #[.int .i64 a,.int .i64 o,.int .i64 i]] w fun e w'=>e=.returned (.int .i64 c)/\AA w w':=by
 subst hc;rcases T:E5 p a o i
 ·have HM:=AC (fun w=>JT p a o i w false T);have Q:Hid (p=DB p a o i):=AC (by unfold DB;rw[T];rfl);clear T;go_enter func173,ntmps173;go_wp2_with fail;refine (HM _).mono ?_;rintro e w1 ⟨rfl,b1⟩;obtain ⟨c0,c1,c2⟩:=EU b1;have AG:=AC (AA.trans ((AA.refl w).alloc _) b1);clear b1;go_wp2_with fail;go_ret;exact ⟨B5 Q.out,AG.out⟩
 ·have HM:=AC (fun w=>JT p a o i w true T);obtain ⟨b1,b2,b3,b4⟩:=aG T;by_cases h5:p<=a
  ·have Q:Hid (p=DB p a o i):=AC (by unfold DB;rw[if_pos T,if_pos h5]);clear T;go_enter func173,ntmps173;go_wp2_with fail;refine (HM _).mono ?_;rintro e w1 ⟨rfl,b1⟩;obtain ⟨c0,c1,c2⟩:=EU b1;have AG:=AC (AA.trans ((AA.refl w).alloc _) b1);clear b1;go_wp2_with fail;go_ret;exact ⟨B5 Q.out,AG.out⟩
  ·have d5:=decide_eq_false h5;by_cases h6:p<=a+o
   ·have Q:Hid (a=DB p a o i):=AC (by unfold DB;rw[if_pos T,if_neg h5,if_pos h6]);clear T;go_enter func173,ntmps173;go_wp2_with fail;refine (HM _).mono ?_;rintro e w1 ⟨rfl,b1⟩;obtain ⟨c0,c1,c2⟩:=EU b1;have AG:=AC (AA.trans ((AA.refl w).alloc _) b1);clear b1;go_wp2_with fail;go_ret;exact ⟨B5 Q.out,AG.out⟩
   ·have d6:=decide_eq_false h6;have Q:Hid (p-o+i=DB p a o i):=AC (by unfold DB;rw[if_pos T,if_neg h5,if_neg h6]);clear T;go_enter func173,ntmps173;go_wp2_with fail;refine (HM _).mono ?_;rintro e w1 ⟨rfl,b1⟩;obtain ⟨c0,c1,c2⟩:=EU b1;have AG:=AC (AA.trans ((AA.refl w).alloc _) b1);clear b1;go_wp2_with fail;go_ret;exact ⟨B5 Q.out,AG.out⟩
end
end Go.Proofs.YtamhnffokoejjaaGreatDoor
