import Derived.Test.YtamhnffokoejjaaGreatDoorKwbe
set_option linter.all false
set_option maxHeartbeats 3200000
set_option maxRecDepth 100000
namespace Go.Proofs.YtamhnffokoejjaaGreatDoor
open List(length_take mem_cons not_mem_nil length_append getD_eq_getElem?_getD take_append take_of_length_le)
open Go.Proofs.Tryz
open Go.RowKit
section
variable{l:List Int}{g i:Nat}{t:Tr}{v:Value}{w w':World}
structure LL(g:Nat)(w w':World):Prop where
 os:w'.os=w.os
 tape:w'.tape=w.tape
 output:w'.output=w.output
 size:w.heap.size<=w'.heap.size
 block:∀k,k<w.heap.size->k≠g->w'.heap[k]?=w.heap[k]?
theorem LL.of(h:AA w w'):LL g w w':=⟨h.below.os,h.below.tape,h.below.output,h.below.size,fun k hk _=>h.below.block k hk⟩
theorem LL.trans{a b c:World}(h:LL g a b)(k:LL g b c):LL g a c:=
 ⟨k.os.trans h.os,k.tape.trans h.tape,k.output.trans h.output,Nat.le_trans h.size k.size,fun i hi hn=>(k.block i (Nat.lt_of_lt_of_le hi h.size) hn).trans (h.block i hi hn)⟩
theorem LL.setCell(h:LL g w w')(i:Nat)(v:Value):LL g w (w'.setCell ⟨g,i,none⟩ v):=
 ⟨h.os,h.tape,h.output,by rw[World.size_setCell];exact h.size,fun k hk hn=>(Bh hn (h.block k hk hn))⟩
theorem LL.any{W:World}(hW:AA W w)(hg:W.heap.size<=g)(h:LL g w w'):AA W w':=
 .of ⟨h.os.trans hW.below.os,h.tape.trans hW.below.tape,h.output.trans hW.below.output,Nat.le_trans hW.below.size h.size,
  fun k hk=>(h.block k (Nat.lt_of_lt_of_le hk hW.below.size) (fun e=>by omega)).trans (hW.below.block k hk)⟩
theorem LL.own{k:Nat}{o:Obj}(h:LL g w w')(hk:w.heap[k]?=some o)(Az:k≠g):w'.heap[k]?=some o:=(h.block k (As hk) Az).trans hk
theorem RT.but{k:IntKind}{t s:TypeId}{cs:Array Value}{m:Nat × Nat}(h:RT k t w v l)(hb:LL g w w')(hg:w.heap[g]?=some (.cells cs s m))(Az:s≠t):RT k t w' v l:=by
 obtain ⟨A,cap,h1,h2,h3⟩:=h;refine ⟨A,cap,h1,h2,fun h0=>?_⟩;obtain ⟨b,off,c2,m2,e,bL,hc⟩:=h3 h0;refine ⟨b,off,c2,m2,e,hb.own bL (fun e2=>?_),hc⟩;rw[e2,hg]at bL;cases bL;exact Az rfl
def PT(l:List Int)(v:Value)(w:World):Prop:=RT .u8 5 w v l
theorem SU(h:AA w w')(s:PT l v w):PT l v w':=RT.later s h
theorem bf{f t:Int}{j:Nat}(mi:(i:Int)=E8 f 0 l.length)(mj:(j:Int)=E8 t 0 l.length)(Fr:¬i<j):Bt l f t=[]:=by
 unfold Bt;apply List.drop_of_length_le
 rw[length_take];unfold E8 at mi mj;split at mi <;> (try split at mi) <;> split at mj <;> (try split at mj) <;> omega
theorem ZY(v:Value)(t:Tr)(x y:Int)(i j:Nat)(w:World)(h:L0 w v t)(mi:E8 x 0 (t.len:Int)=(i:Int))(mj:E8 y 0 (t.len:Int)=(j:Int))(Fr:¬i<j):
 Calls prog 62 #[v,.int .i64 x,.int .i64 y] w (IB (PT []) w):=by
 have HL:=AC (fun (w':World) (b:AA w w')=>EP v t w' (h.later b));have xr:=AC (fun w'=>EN x 0 t.len w' _ mi);have o_:=AC (fun w'=>EN y 0 t.len w' _ mj);have d1:(j:Int)<=(i:Int):=AD;clear h mi mj;generalize t.len=n at *;go_enter func62,ntmps62;go_wp2_with fail;refine (HL _ (AA.refl _)).mono ?_;rintro e w2 ⟨rfl,b2⟩;have B2:=AC b2;clear b2;go_wp2_with fail;refine (xr _).mono ?_;rintro e y8 ⟨rfl,rfl⟩;go_wp2_with fail;refine (HL _ B2.out).mono ?_;rintro e w3 ⟨rfl,b3⟩;have B3:=AC (B2.out.trans b3);clear b3;go_wp2_with fail;refine (o_ _).mono ?_;rintro e w3' ⟨rfl,rfl⟩;go_wp2_with fail;go_ret;exact ⟨_,rfl,B3.out,RT.nil _⟩
theorem XP(g:Nat)(most:Int)(t:Tr)(x y:Int)(i c:Nat)(w:World)(h:KE w g most t)(ok:t.Ok)(mi:E8 x 0 (t.len:Int)=(i:Int))(mj:E8 y 0 (t.len:Int)=((i+c:Nat):Int))(hi:i+c<=t.len)(hc:0<c):
 Calls prog 62 #[.pointer (some ⟨g,0,none⟩),.int .i64 x,.int .i64 y] w (IB (PT (Bt t.bs i ((i:Int)+(c:Int)))) w):=by
 have hlen:=ok.len;have HL:=AC (fun (w':World) (b:AA w w')=>EP _ t w' (.inr ⟨g,most,rfl,h.later b⟩));have xr:=AC (fun w'=>EN x 0 t.len w' _ mi);have o_:=AC (fun w'=>EN y 0 t.len w' _ mj);obtain ⟨rv,hg,ht⟩:=h;have HE:=AC (fun (X:Nat) (w':World) (hX:w.heap.size<=X) (hw:Il w X w' [])=>PR w X hX t rv (i:Int) ((i:Int)+(c:Int)) w' [] ht hw (by simp only[List.length_nil];omega) AD AD AD AD);have vm:=run_make_room (P:=prog) 22 5 (.int .u8 0) 1 underlying22 Ov rfl .i64 .i64 c AD AD;obtain ⟨q,rfl⟩:=ht.ptr;have HG:=AC hg;have d1:decide ((i:Int)+(c:Int)<=(i:Int))=false:=decide_eq_false AD;have d3:(i:Int)+(c:Int)-(i:Int)=(c:Int):=AD;have i9:i<=60000:=AD;have c9:c<=60000:=AD;clear ht ok mi mj hg;generalize t.len=n at *;go_enter func62,ntmps62;go_wp2_with fail;refine (HL _ (AA.refl _)).mono ?_;rintro e w2 ⟨rfl,b2⟩;have B2:=AC b2;clear b2;go_wp2_with fail;refine (xr _).mono ?_;rintro e y8 ⟨rfl,rfl⟩;go_wp2_with fail;refine (HL _ B2.out).mono ?_;rintro e w3 ⟨rfl,b3⟩;have B3:=AC (B2.out.trans b3);have s3:=AB B3 HG.out;obtain ⟨r3,l3⟩:=Rn s3;clear b3 s3;go_wp2_with fail;refine (o_ _).mono ?_;rintro e w3' ⟨rfl,rfl⟩;go_wp2_with fail;refine (HE _ _ ?_ ⟨?_,_,Ae Ar,⟨rfl,.inr ⟨w3.heap.size,c,madeCells #[.int .u8 0] c,rfl,?_,I4 Ar (Ae rfl),Nat.zero_le _,by unfold maxLen;omega,by rw[size_madeCells,Nat.mul_one],rfl⟩⟩⟩).mono ?_
 ·have:=B3.out.below.size;omega
 ·have b3:=B3.out;exact BQ
 ·exact B3.out.below.size
 rintro e w4 ⟨rfl,hW,ov,hx,ho⟩;rw[List.nil_append]at ho;have H4:=AC (And.intro hW ho.rt);obtain ⟨A,cap,rfl,-⟩:=ho.form;have r4:=AE hx;clear hW hx ho r3;go_wp2_with fail;go_ret;exact ⟨_,rfl,H4.out.1,H4.out.2⟩
theorem NQ(v:Value)(t:Tr)(x y:Int)(l:List Int)(hl:Bt t.bs x y=l)(w:World)(h:L0 w v t)(ok:t.Ok):
 Calls prog 62 #[v,.int .i64 x,.int .i64 y] w (IB (PT l) w):=by
 subst hl;obtain ⟨i,ei,hi,mi⟩:=Iu x 0 t.len;obtain ⟨j,ej,hj,mj⟩:=Iu y 0 t.len;simp only[Nat.zero_add,Int.natCast_zero,Int.sub_zero]at ei ej mi mj;rw[<-Tr.Bv]at mi mj;by_cases Fr:i<j
 ·obtain ⟨c,rfl⟩:∃c,j=i+c:=⟨j-i,AD⟩;rcases h with ⟨rfl,rfl⟩|⟨g,most,rfl,h⟩
  ·simp only[Tr.len]at hj;omega
  ·have e:Bt t.bs x y=Bt t.bs (i:Int) ((i:Int)+(c:Int)):=by
    rw[TD mi mj Fr];unfold Bt;rw[show ((i:Int)+(c:Int)).toNat=i+c by omega,Int.toNat_natCast,List.drop_take]
   rw[e];exact XP g most t x y i c w h ok ei ej hj AD
 ·rw[bf mi mj Fr];exact ZY v t x y i j w h ei ej Fr
theorem uY(g:Nat)(most:Int)(t:Tr)(i m:Nat)(A:Option Addr)(cap:Nat)(w:World)(h:KE w g most t)(ok:t.Ok)(hi:i<=t.len)(hm:most-t.len<m)(Dk:0<=most/\most<=16777216):
 Calls prog 121 #[.pointer (some ⟨g,0,none⟩),.int .i64 (i:Int),.slice A m cap] w fun e w'=>e=.returned (.int .i64 2)/\AA w w':=by
 have HL:=AC (fun (w':World) (b:AA w w')=>EP _ t w' (.inr ⟨g,most,rfl,h.later b⟩));have hlen:=ok.len;obtain ⟨rv,hg,ht⟩:=h;have HG:=AC hg;obtain ⟨h1,h2⟩:=Dk;have d1:decide ((i:Int)<0)=false:=decide_eq_false AD;have d3:decide (t.len<i)=false:=decide_eq_false AD;clear ht hg ok hi;generalize t.len=n at *;go_enter func121,ntmps121;go_wp2_with fail;refine (HL _ (AA.refl _)).mono ?_;rintro e w1 ⟨rfl,AJ⟩;have AG:=AJ;have AH:=AB AG HG.out;go_wp2_with fail;apply Ac (10) [] AY AY Ar
 case hstab=>
  intro e he v x y BE hv;simp only[mem_cons,not_mem_nil,or_false]at he
 case hlex=>
  intro U;have q0:=fun (v:BA (later U))=>AE (AB ⟨v,rfl⟩ (AB ⟨U,rfl⟩ AH))
  refine Ku ?_
  repeat (go_big_quiet_step ((go_at_call 102;exact EQ (HL _ BQ))))
  exact wpQuiet_nil rfl
 case hown=>
  intro e he o ho;simp only[mem_cons,not_mem_nil,or_false]at he
 case htail=>
  intro g u Aw Az;have AL:AA w1 (later u):=⟨u,rfl⟩;generalize later u=w2 at *;clear u;clear Aw Az;refine DH ?_;have AR:=AG.trans AL;go_wp2_with fail;go_ret;exact ⟨rfl,AR⟩
theorem Sd(g:Nat)(most:Int)(t:Tr)(i:Nat)(A:Option Addr)(cap:Nat)(w:World)(h:KE w g most t)(ok:t.Ok)(hi:i<=t.len)(hm:(t.len:Int)<=most)(Dk:0<=most/\most<=16777216):
 Calls prog 121 #[.pointer (some ⟨g,0,none⟩),.int .i64 (i:Int),.slice A 0 cap] w fun e w'=>e=.returned (.int .i64 0)/\AA w w':=by
 have HL:=AC (fun (w':World) (b:AA w w')=>EP _ t w' (.inr ⟨g,most,rfl,h.later b⟩));have hlen:=ok.len;obtain ⟨rv,hg,ht⟩:=h;have HG:=AC hg;obtain ⟨h1,h2⟩:=Dk;have d1:decide ((i:Int)<0)=false:=decide_eq_false AD;have d3:decide (t.len<i)=false:=decide_eq_false AD;have d4:decide (most-(t.len:Int)<0)=false:=decide_eq_false AD;clear ht hg ok hi;generalize t.len=n at *;go_enter func121,ntmps121;go_wp2_with fail;refine (HL _ (AA.refl _)).mono ?_;rintro e w1 ⟨rfl,AJ⟩;have AG:=AJ;have AH:=AB AG HG.out;go_wp2_with fail;apply Ac (10) [] AY AY Ar
 case hstab=>
  intro e he v x y BE hv;simp only[mem_cons,not_mem_nil,or_false]at he
 case hlex=>
  intro U;have q0:=fun (v:BA (later U))=>AE (AB ⟨v,rfl⟩ (AB ⟨U,rfl⟩ AH))
  refine Ku ?_
  repeat (go_big_quiet_step ((go_at_call 102;exact EQ (HL _ BQ))))
  exact wpQuiet_nil rfl
 case hown=>
  intro e he o ho;simp only[mem_cons,not_mem_nil,or_false]at he
 case htail=>
  intro g u Aw Az;have AL:AA w1 (later u):=⟨u,rfl⟩;generalize later u=w2 at *;clear u;clear Aw Az;refine DH ?_;have AR:=AG.trans AL;go_wp2_with fail;go_ret;exact ⟨rfl,AR⟩
def M7(t:Tr)(i:Nat)(b:List Int):Tr:=Tr.join (Tr.split t i).1 ⟨b,0⟩ (Tr.split t i).2
theorem UF(t:Tr)(i:Nat)(b:List Int):(M7 t i b).bs=t.bs.take i++(b++t.bs.drop i):=by
 unfold M7;obtain ⟨h1,h2⟩:=Tr.GP t i;rw[Tr.LM,h1,h2]
theorem au{b:List Int}(ok:t.Ok)(hi:i<=t.len)(h0:0<b.length)(hb:BX b)(hl:t.len+b.length<=60000):(M7 t i b).Ok:=by
 obtain ⟨f1,f2⟩:=Tr.Ck t i ok.fair;obtain ⟨e1,e2⟩:=Tr.E9 t i ok.even;refine ⟨Tr.F9 f1 ⟨h0,Int.le_refl _,by simp only;omega,hb⟩ f2,Tr.G6 _ _ _ e1 e2,?_⟩;rw[<-Tr.Bv,UF,length_append,length_append,length_take,List.length_drop,Tr.Bv];omega
theorem Wi(g:Nat)(most:Int)(t:Tr)(i:Nat)(u:Value)(b:List Int)(w:World)(h:KE w g most t)(ok:t.Ok)(hi:i<=t.len)(hu:RN .u8 w u b)(hb:BX b)(h0:0<b.length)(hm:(t.len:Int)+b.length<=most)(Dk:0<=most/\most<=16777216)(hl:t.len+b.length<=60000):
 Calls prog 121 #[.pointer (some ⟨g,0,none⟩),.int .i64 (i:Int),u] w fun e w'=>e=.returned (.int .i64 0)/\LL g w w'/\KE w' g most (M7 t i b):=by
 have HL:=AC (fun (w':World) (b:AA w w')=>EP _ t w' (.inr ⟨g,most,rfl,h.later b⟩));have hlen:=ok.len;obtain ⟨rv,hg,ht⟩:=h;have HG:=AC hg;obtain ⟨f1,f2⟩:=Tr.Ck t i ok.fair;obtain ⟨l1,l2⟩:=Tr.LI t i hi;have im:=AC (fun (w':World) (a:AA w w')=>Hp t i (i:Int) rv w' rfl (ht.later a) ok.fair AD AD);have HPc:=AC (fun (w':World) (a:AA w w')=>Ux u b w' (hu.later a) hb h0 AD);have HJ:=AC (fun (w':World) (u1 u2 pv:Value) (h1:CU w' (Tr.split t i).1 u1) (h2:CU w' (Tr.split t i).2 u2) (hp:MC ⟨b,0⟩ pv w')=>(by
  obtain ⟨x,y,rfl,hp⟩:=hp;exact G8 _ _ _ u1 u2 x y w' (M7 t i b) rfl h1 h2 hp f1 ⟨h0,Int.le_refl _,by simp only;omega,hb⟩ f2 (by rw[l1,l2];simp only;omega):Calls prog 169 #[u1,pv,u2] w' (IB (Cx (M7 t i b)) w')))
 obtain ⟨A,cap,rfl,-⟩:=hu.form;obtain ⟨q,rfl⟩:=ht.ptr;obtain ⟨k1,k2⟩:=Dk;have d1:decide ((i:Int)<0)=false:=decide_eq_false AD;have d3:decide (t.len<i)=false:=decide_eq_false AD;have d4:decide (most-(t.len:Int)<(b.length:Int))=false:=decide_eq_false AD;have d6:((b.length:Int) == 0)=false:=by simpa using (by omega:b.length≠0)
 clear ht hg ok hi hu f1 f2 l1 l2 h0;generalize t.len=n at *;generalize b.length=m at *;go_enter func121,ntmps121;go_wp2_with fail;refine (HL _ (AA.refl _)).mono ?_;rintro e w1 ⟨rfl,AJ⟩;have AG:=AJ;have AH:=AB AG HG.out;go_wp2_with fail;apply Ac (10) [] AY AY Ar
 case hstab=>
  intro e he v x y BE hv;simp only[mem_cons,not_mem_nil,or_false]at he
 case hlex=>
  intro U;have q0:=fun (v:BA (later U))=>AE (AB ⟨v,rfl⟩ (AB ⟨U,rfl⟩ AH))
  refine Ku ?_
  repeat (go_big_quiet_step ((go_at_call 102;exact EQ (HL _ BQ))))
  exact wpQuiet_nil rfl
 case hown=>
  intro e he o ho;simp only[mem_cons,not_mem_nil,or_false]at he
 case htail=>
  intro g u Aw Az;have AL:AA w1 (later u):=⟨u,rfl⟩;generalize later u=w2 at *;clear u;clear Aw Az;refine DH ?_;have AR:=AG.trans AL;have AU:=AB AL AH;have BS:=AE AU;go_wp2_with fail;refine (im _ AR).mono ?_;rintro e w3 ⟨_,rfl,AX,u1,u2,rfl,t1,t2⟩;have An:=AR.trans AX;have Ah:=AB AX AU;(try clear BS);have HT:=AC (And.intro t1 t2);clear t1 t2;go_wp2_with fail;refine (HPc _ An).mono ?_;rintro e w4 ⟨pv,rfl,Ao,hp⟩;have Bl:=An.trans Ao;have BK:=AB Ao Ah;have HP:=AC hp;clear hp;go_wp2_with fail;refine (HJ _ _ _ _ (HT.out.1.later Ao) (HT.out.2.later Ao) HP.out).mono ?_;rintro e w5 ⟨u5,rfl,Bd,t5⟩;have DW:=Bl.trans Bd;have DD:=AB Bd BK;obtain ⟨ND,Rk⟩:=DX DD;have HT5:=AC t5;obtain ⟨q5,rfl⟩:=CU.ptr t5;clear t5;go_wp2_with fail;go_ret;exact ⟨rfl,(LL.of DW).setCell 0 _,_,BI DD rfl,CU.NJ DD (by decide) (by decide) (by decide) HT5.out⟩
theorem iB(u:Value)(b:List Int)(most:Int)(w:World)(hu:RN .u8 w u b)(hb:BX b)(h0:0<b.length)(hm:(b.length:Int)<=most)(Dk:0<=most/\most<=16777216)(hl:b.length<=60000):
 Calls prog 87 #[u,.int .i64 most] w fun e w'=>∃g,e=.returned (.tuple #[.pointer (some ⟨g,0,none⟩),.int .i64 0])/\AA w w'/\w.heap.size<=g/\KE w' g most (M7 .nil 0 b):=by
 have HI:Hid (∀w',AA w w'->w'.heap[w.heap.size]?=some (.cells #[.pointer none,.int .i64 most] 146)->Calls prog 121 #[.pointer (some ⟨w.heap.size,0,none⟩),.int .i64 0,u] w' fun e Bg=>e=.returned (.int .i64 0)/\LL w.heap.size w' Bg/\KE Bg w.heap.size most (M7 .nil 0 b)):=AC (fun w' a hg=>by
  have h:KE w' w.heap.size most .nil:=⟨_,hg,rfl⟩;exact Wi w.heap.size most .nil 0 u b w' h ⟨trivial,trivial,Nat.zero_le _⟩ (Nat.zero_le _) (hu.later a) hb h0 (by simp only[Tr.len];omega) Dk (by simp only[Tr.len];omega))
 obtain ⟨A,cap,rfl,-⟩:=hu.form;obtain ⟨k1,k2⟩:=Dk;have d1:decide (most<0)=false:=decide_eq_false AD;have d2:decide (16777216<most)=false:=decide_eq_false AD;clear hu h0 hm hb;go_enter func87,ntmps87;go_wp2_with fail;have s0:(w.alloc (.cells #[.pointer none,.int .i64 most] 146)).heap[w.heap.size]?=some (.cells #[.pointer none,.int .i64 most] 146):=Ae rfl;refine (HI _ BQ s0).mono ?_;rintro e w2 ⟨rfl,b2,r2⟩;have H2:Hid (AA w w2/\KE w2 w.heap.size most (M7 .nil 0 b)):=AC ⟨b2.any BQ (Nat.le_refl _),r2⟩;clear b2 r2 s0;go_wp2_with fail;refine bodyPost_ret (v:=.tuple #[.pointer (some ⟨w.heap.size,0,none⟩),.int .i64 0]) (by simp[results,results87,go_sem]) rfl ?_;exact ⟨_,rfl,H2.out.1,Nat.le_refl _,H2.out.2⟩
theorem ET{P:Program}{F:Act}{o:Oper}{R:Value->World->Prop}(s x:Operand)(t tn:TypeId)(ho:o.op=.call {callee:=.builtin .append,args:= #[s,x],argTypes:= #[t,tn]})(vs vx:Value)(hs:F.eval s=vs)(hx:F.eval x=vx)
 (hr:(Builtin.append_ #[t,tn] o.type #[vs,vx]).run P w=.ok v w') (h:R v w'):BF P F o w R:=by
 refine Cb (w':=w') ?_ h;unfold execOp;simp only[ho,resolve,invoke,builtin,Sem.run_bind,Sem.run_pure,Result.andThen_ok,List.map_toArray,List.map_cons,List.map_nil,hs,hx,hr]
theorem vd(g:Nat)(most:Int)(t:Tr)(x n:Int)(w:World)(h:KE w g most t)(ok:t.Ok)(hx:¬yZ x n t.len):
 Calls prog 120 #[.pointer (some ⟨g,0,none⟩),.int .i64 x,.int .i64 n] w fun e w'=>e=.returned (.tuple #[.slice none 0 0,.int .i64 1])/\AA w w':=by
 have HL:=AC (EP _ t w (.inr ⟨g,most,rfl,h⟩));have hlen:=ok.len;have HS:=AC (fun w'=>kd x n t.len w' hx AD AD);clear h ok hx;generalize t.len=m at *;go_enter func120,ntmps120;go_wp2_with fail;refine HL.out.mono ?_;rintro e w2 ⟨rfl,b2⟩;have B2:=AC b2;clear b2;go_wp2_with fail;refine (HS _).mono ?_;rintro e w3 ⟨rfl,rfl⟩;go_wp2_with fail;refine bodyPost_ret (v:=.tuple #[.slice none 0 0,.int .i64 1]) (by simp[results,results120,go_sem]) rfl ?_;exact ⟨rfl,B2.out⟩
theorem eX(g:Nat)(most:Int)(t:Tr)(x:Int)(w:World)(h:KE w g most t)(ok:t.Ok)(hx:yZ x 0 t.len):
 Calls prog 120 #[.pointer (some ⟨g,0,none⟩),.int .i64 x,.int .i64 0] w fun e w'=>e=.returned (.tuple #[.slice none 0 0,.int .i64 0])/\AA w w':=by
 have HL:=AC (EP _ t w (.inr ⟨g,most,rfl,h⟩));have hlen:=ok.len;have HS:=AC (fun w'=>Sa x 0 t.len w' hx AD);clear h ok hx;generalize t.len=m at *;go_enter func120,ntmps120;go_wp2_with fail;refine HL.out.mono ?_;rintro e w2 ⟨rfl,b2⟩;have B2:=AC b2;clear b2;go_wp2_with fail;refine (HS _).mono ?_;rintro e w3 ⟨rfl,rfl⟩;go_wp2_with fail;refine bodyPost_ret (v:=.tuple #[.slice none 0 0,.int .i64 0]) (by simp[results,results120,go_sem]) rfl ?_;exact ⟨rfl,B2.out⟩
def TL(t:Tr)(i m:Nat):Tr:=Tr.meet (Tr.split (Tr.split t (i+m)).1 i).1 (Tr.split t (i+m)).2
theorem ax(t:Tr)(i m:Nat):(TL t i m).bs=t.bs.take i++t.bs.drop (i+m):=by
 unfold TL;rw[Tr.mr,(Tr.GP _ i).1,(Tr.GP t (i+m)).1,(Tr.GP t (i+m)).2,List.take_take,Nat.min_eq_left (Nat.le_add_right i m)]
theorem nR{m:Nat}(ok:t.Ok):(TL t i m).Ok:=by
 obtain ⟨f1,f2⟩:=Tr.Ck t (i+m) ok.fair;obtain ⟨e1,e2⟩:=Tr.E9 t (i+m) ok.even;refine ⟨Tr.dz (Tr.Ck _ i f1).1 f2,Tr.eq _ _ (Tr.E9 _ i e1).1 e2,?_⟩;have:=ok.len
 rw[<-Tr.Bv,ax,length_append,length_take,List.length_drop,Tr.Bv];omega
theorem j6(g:Nat)(most:Int)(t:Tr)(i m:Nat)(w:World)(h:KE w g most t)(ok:t.Ok)(hi:i+m<=t.len)(hm:0<m):
 Calls prog 120 #[.pointer (some ⟨g,0,none⟩),.int .i64 (i:Int),.int .i64 (m:Int)] w fun e w'=>∃u,e=.returned (.tuple #[u,.int .i64 0])/\LL g w w'/\KE w' g most (TL t i m)/\PT ((t.bs.drop i).take m) u w':=by
 have HL:=AC (EP _ t w (.inr ⟨g,most,rfl,h⟩));have hlen:=ok.len;have HS:=AC (fun w'=>Sa (i:Int) (m:Int) t.len w' ⟨AD,AD,AD,AD⟩ AD);have hcut:Bt t.bs (i:Int) ((i:Int)+(m:Int))=(t.bs.drop i).take m:=by
  unfold Bt;rw[show ((i:Int)+(m:Int)).toNat=i+m by omega,Int.toNat_natCast,List.drop_take,Nat.add_sub_cancel_left]
 have HP:=AC (fun (w':World) (b:AA w w')=>NQ (.pointer (some ⟨g,0,none⟩)) t (i:Int) ((i:Int)+(m:Int)) _ hcut w' (.inr ⟨g,most,rfl,h.later b⟩) ok);obtain ⟨rv,hg,ht⟩:=h;have HG:=AC hg;obtain ⟨f1,f2⟩:=Tr.Ck t (i+m) ok.fair;obtain ⟨l1,l2⟩:=Tr.LI t (i+m) hi;have f3:=(Tr.Ck _ i f1).1;have l3:=(Tr.LI (Tr.split t (i+m)).1 i AD).1;have TO:=AC (fun (w':World) (a:AA w w')=>Hp t (i+m) ((i:Int)+(m:Int)) rv w' AD (ht.later a) ok.fair AD AD);have d8:=AC (fun (w':World) (u:Value) (hu:CU w' (Tr.split t (i+m)).1 u)=>Hp (Tr.split t (i+m)).1 i (i:Int) u w' rfl hu f1 AD AD);have HM:=AC (fun (w':World) (u1 u2:Value) (h1:CU w' (Tr.split (Tr.split t (i+m)).1 i).1 u1) (h2:CU w' (Tr.split t (i+m)).2 u2)=>(ba _ _ u1 u2 w' h1 h2 f3 f2 AD:Calls prog 168 #[u1,u2] w' (IB (Cx (TL t i m)) w')));obtain ⟨q,rfl⟩:=ht.ptr;have d6:((m:Int) == 0)=false:=by simpa using (by omega:m≠0)
 clear ht hg ok hi f1 f2 f3 l1 l2 l3 hcut hm;generalize t.len=n at *;go_enter func120,ntmps120;go_wp2_with fail;refine HL.out.mono ?_;rintro e w1 ⟨rfl,AJ⟩;have AG:=AJ;have AH:=AB AG HG.out;go_wp2_with fail;refine (HS _).mono ?_;rintro e w1' ⟨rfl,rfl⟩;go_wp2_with fail;refine (HP _ AG).mono ?_;rintro e w2 ⟨gv,rfl,AL,zj⟩;have AR:=AG.trans AL;have AU:=AB AL AH;have BS:=AE AU;have HGV:=AC zj;obtain ⟨A9,xo,rfl,-⟩:=RT.form zj;clear zj;generalize ((t.bs.drop i).take m).length=m3 at *;go_wp2_with fail;refine (TO _ AR).mono ?_;rintro e w3 ⟨_,rfl,AX,u1,u2,rfl,t1,t2⟩;have An:=AR.trans AX;have Ah:=AB AX AU;(try clear BS);have HT:=AC (And.intro t1 t2);clear t1 t2;go_wp2_with fail;refine (d8 _ _ HT.out.1).mono ?_;rintro e w4 ⟨_,rfl,Ao,u3,u4,rfl,t3,t4⟩;have Bl:=An.trans Ao;have BK:=AB Ao Ah;have Kw:=AC t3;clear t3 t4;go_wp2_with fail;refine (HM _ _ _ Kw (HT.out.2.later Ao)).mono ?_;rintro e w5 ⟨u5,rfl,Bd,t5⟩;have DW:=Bl.trans Bd;have DD:=AB Bd BK;obtain ⟨ND,Rk⟩:=DX DD;have HT5:=AC t5;obtain ⟨q5,rfl⟩:=CU.ptr t5;clear t5;go_wp2_with fail;refine bodyPost_ret (v:=.tuple #[.slice A9 m3 xo,.int .i64 0]) (by simp[results,results120,go_sem]) rfl ?_;exact ⟨_,rfl,(LL.of DW).setCell 0 _,⟨_,BI DD rfl,CU.NJ DD (by decide) (by decide) (by decide) HT5.out⟩,RT.NJ (RT.later HGV (AX.trans (Ao.trans Bd))) DD (by decide)⟩
theorem PZ(l:List Int)(i:Int)(k:Nat)(h:k<(Ap 0 l).length):(Ap i l).getD k 0=i+(Ap 0 l).getD k 0:=by
 rw[U4 l i];simp only[getD_eq_getElem?_getD,List.getElem?_map,List.getElem?_eq_getElem h,Option.map_some,Option.getD_some];omega
def fY(t:Tr)(k:Nat):Int:=(Ap 0 t.bs).getD k 0
theorem ju(a b:Tr)(p:Pc)(j:Nat)(hj:j<(Tr.node a p b).nf):fY (Tr.node a p b) j=if j<a.nf then fY a j else if j<a.nf+p.fs.length then (a.len:Int)+(p.fs.getD (j-a.nf) 0-p.base) else (a.len:Int)+(p.b.length:Int)+fY b (j-(a.nf+p.fs.length)):=by
 have h1:=Tr.OC a;have h2:(Ap ((0:Int)+(a.bs.length:Int)) p.b).length=p.fs.length:=by rw[Ci,<-Ci p.b p.base];rfl
 have h3:(Ap 0 p.b).length=p.fs.length:=(Ci p.b p.base).symm;have CQ:j<a.nf+p.fs.length+b.nf:=hj;unfold fY;rw[Tr.bs,B_,B_];simp only[getD_eq_getElem?_getD];split
 ·rw[List.getElem?_append_left AD]
 ·rw[List.getElem?_append_right AD,h1];split
  ·rw[List.getElem?_append_left AD];have e1:=PZ p.b ((0:Int)+(a.bs.length:Int)) (j-a.nf) AD;have e2:=PZ p.b p.base (j-a.nf) AD;simp only[getD_eq_getElem?_getD]at e1 e2;unfold Pc.fs;rw[e1,e2,Tr.Bv];omega
  ·rw[List.getElem?_append_right AD,h2,Nat.sub_sub];have e1:=PZ b.bs ((0:Int)+(a.bs.length:Int)+(p.b.length:Int)) (j-(a.nf+p.fs.length)) (by rw[Tr.OC];omega);simp only[getD_eq_getElem?_getD]at e1;rw[e1,Tr.Bv];omega
theorem cY(v:Value)(t:Tr)(x:Int)(w:World)(h:L0 w v t)(hx:x<0\/(t.nf:Int)<=x):
 Calls prog 158 #[v,.int .i64 x] w fun e w'=>e=.returned (.tuple #[.int .i64 0,.bool false])/\AA w w':=by
 have HL:=AC (IJ v t w h);clear h;generalize t.nf=m at *;by_cases h1:x<0
 ·clear hx;go_enter func158,ntmps158;go_wp2_with fail;refine bodyPost_ret (v:=.tuple #[.int .i64 0,.bool false]) (by simp[results,results158,go_sem]) rfl ?_;exact ⟨rfl,AA.refl _⟩
 ·have h2:(m:Int)<=x:=AD;have d1:decide (x<0)=false:=decide_eq_false h1;clear hx h1;go_enter func158,ntmps158;go_wp2_with fail;refine HL.out.mono ?_;rintro e w2 ⟨rfl,b2⟩;have B2:=AC b2;clear b2;go_wp2_with fail;refine bodyPost_ret (v:=.tuple #[.int .i64 0,.bool false]) (by simp[results,results158,go_sem]) rfl ?_;exact ⟨rfl,B2.out⟩
theorem Pz(g:Nat)(most:Int)(t:Tr)(i:Nat)(c:Int)(w:World)(hc:fY t i=c)(h:KE w g most t)(ok:t.Ok)(hi:i<t.nf):
 Calls prog 158 #[.pointer (some ⟨g,0,none⟩),.int .i64 (i:Int)] w fun e w'=>e=.returned (.tuple #[.int .i64 c,.bool true])/\AA w w':=by
 have HL:=AC (IJ _ t w (.inr ⟨g,most,rfl,h⟩));have hlen:=ok.len;obtain ⟨rv,hg,ht⟩:=h;have HG:=AC (And.intro hg ht);obtain ⟨q,rfl⟩:=ht.ptr;have HC:=AC (And.intro hc (And.intro hi ok.fair));have d0:decide ((i:Int)<0)=false:=decide_eq_false AD;have d2:decide (t.nf<=i)=false:=decide_eq_false AD;have OT:=t.Md;have f1:=tG;clear ht hg ok hi hc OT;generalize Lf:t.nf=nn at *;generalize hn:t.len=n at *;have HN:=AC (And.intro Lf hn);clear hn Lf;go_enter func158,ntmps158;go_wp2_with fail;refine HL.out.mono ?_;rintro e w1 ⟨rfl,AJ⟩;have AG:=AJ;have r1:=AE (AB AG HG.out.1);go_wp2_with fail;go_loopg [1,6,7] t.np (fun kk xv nv fv wr=>AA w1 wr/\∃(s:Tr) (j f:Nat),kk=s.np/\xv=.int .i64 (j:Int)/\fv=.int .i64 (f:Int)/\CU w s nv/\s.Fair/\f+s.len<=n/\j<s.nf/\(f:Int)+fY s j=c)
 case atStart=>exact ⟨AA.refl _,t,i,0,rfl,rfl,rfl,HG.out.2,HC.out.2.2,by rw[HN.out.2,Nat.zero_add];exact Nat.le_refl _,by rw[HN.out.1];exact HC.out.2.1,by rw[HC.out.1];omega⟩
 case round=>
  obtain ⟨EW,s,j,f,hk,rfl,rfl,hs,fs,cp,hj,PL⟩:=hrel;have AW:=AG.trans EW
  cases s with
  |nil=>simp[Tr.nf]at hj
  |node a p b=>
   have IY:f+(a.len+p.b.length+b.len)<=n:=cp;have HE:=AC (Ih a b p _ wr (hs.later AW) (by simp only[Tr.len];omega));obtain ⟨kb,lv,rv,bv,fv,rfl,sA,ha,hb,hp⟩:=hs;obtain ⟨fa,fp,fb⟩:=fs;rw[ju a b p j hj]at PL;have CQ:j<a.nf+p.fs.length+b.nf:=hj;have np2:(Tr.node a p b).np=a.np+1+b.np:=rfl;have TH:=AC (fun (w':World) (e:AA w w')=>CO a lv w' (ha.later e));unfold Hd at TH;have iR:=AC (fun (w':World) (d:Nat) (e:AA w w') (hd:d<p.fs.length)=>cu p bv fv w' (d:Int) _ d rfl hd rfl (hp.later e) fp);have HK:=AC sA;have OT:=a.Md;have Ww:=p.ZB;obtain ⟨A,cap,rfl,-⟩:=hp.1.form;obtain ⟨A2,BP,rfl,-⟩:=hp.2.form;unfold FO at HK;unfold GM at iR;have HA:=AC AW;have HB:=AC EW;clear sA cp hj hp AW EW r1;by_cases c1:j<a.nf
   ·rw[if_pos c1]at PL;have HR:Hid (CU w a lv/\a.Fair/\f+a.len<=n/\j<a.nf/\(f:Int)+fY a j=c):=AC ⟨ha,fa,AD,c1,PL⟩;have d3:(j:Int)<(a.nf:Int):=AD;have e9:a.nf<=60000:=AD;have m9:p.fs.length<=60000:=AD;clear ha fa fp fb hb PL CQ IY OT Ww iR;generalize p.b.length=m at *;generalize p.fs.length=m2 at *;generalize p.base=b0 at *;generalize xh:a.nf=e1 at *;have qM:=AC xh;clear xh;go_wp2_with fail;refine HE.out.mono ?_;rintro e w2 ⟨rfl,b2⟩;have r2:=AE (AB (HA.out.trans b2) HK.out);go_wp2_with fail;refine (TH _ (HA.out.trans b2)).mono ?_;rintro e w3 ⟨rfl,b3⟩;have r3:=AE (AB ((HA.out.trans b2).trans b3) HK.out);have B3:=AC ((HB.out.trans b2).trans b3);clear b2 b3 r2;go_wp2_with fail;go_roundg a.np
    case measure=>omega
    case rel=>exact ⟨B3.out,a,j,f,rfl,rfl,rfl,HR.out.1,HR.out.2.1,HR.out.2.2.1,by rw[qM.out];exact HR.out.2.2.2.1,HR.out.2.2.2.2⟩
   ·rw[if_neg c1]at PL;have d3:decide (j<a.nf)=false:=decide_eq_false c1;have d3':decide ((j:Int)<(a.nf:Int))=false:=decide_eq_false AD;by_cases c2:j<a.nf+p.fs.length
    ·rw[if_pos c2]at PL;obtain ⟨d,hd⟩:∃d,j=a.nf+d:=⟨j-a.nf,AD⟩;subst hd;rw[Nat.add_sub_cancel_left]at PL;have Hx:d<p.fs.length:=AD;have J8:p.fs.getD d 0=p.fs[d]:=by simp[getD_eq_getElem?_getD,Hx]
     rw[J8]at PL;have tQ:=Dt p.b p.base p.fs[d] (List.getElem_mem Hx);have Ox:Hid (∀w',AA w w'->Calls prog 194 #[.agg #[.slice A p.b.length cap,.slice A2 p.fs.length BP,.int .i64 p.base],.int .i64 (d:Int)] w' fun e Bg=>e=.returned (.int .i64 (p.fs[d]-p.base))/\AA w' Bg):=AC (fun w' e=>iR w' d e Hx);have d4:decide ((a.nf:Int)+(p.fs.length:Int)<=(a.nf:Int)+(d:Int))=false:=decide_eq_false AD;have d5:decide (p.fs.length<=d)=false:=decide_eq_false AD;have d6:(a.nf:Int)+(d:Int)-(a.nf:Int)=(d:Int):=AD;have e9:a.nf<=60000:=AD;have m9:p.fs.length<=60000:=AD;have q9:a.len<=60000:=AD;have f9:f<=60000:=AD;have d9:d<=60000:=AD;have y1:0<=p.fs[d]-p.base:=AD;have y2:p.fs[d]-p.base<=60000:=AD;generalize p.fs[d]-p.base=y at *;have HCc:Hid ((f:Int)+(a.len:Int)+y=c):=AC AD;clear ha fa fp fb hb PL CQ IY OT Ww iR J8 tQ Hx c2;generalize p.b.length=m at *;generalize p.fs.length=m2 at *;generalize p.base=b0 at *;generalize a.nf=e1 at *;generalize a.len=e2 at *;go_wp2_with fail;refine HE.out.mono ?_;rintro e w2 ⟨rfl,b2⟩;have r2:=AE (AB (HA.out.trans b2) HK.out);go_wp2_with fail;refine (TH _ (HA.out.trans b2)).mono ?_;rintro e w3 ⟨rfl,b3⟩;have r3:=AE (AB ((HA.out.trans b2).trans b3) HK.out);have B3:=AC ((HA.out.trans b2).trans b3);clear b2 b3 r2;go_wp2_with fail;refine (Ox _ B3.out).mono ?_;rintro e w4 ⟨rfl,b4⟩;have B4:=AC (B3.out.trans b4);clear b4 r3;go_wp2_with fail;refine bodyPost_ret (v:=.tuple #[.int .i64 ((f:Int)+(e2:Int)+y),.bool true]) (by simp[results,results158,go_sem]) rfl ?_;exact ⟨by rw[HCc.out],B4.out⟩
    ·rw[if_neg c2]at PL;have HR:Hid (CU w b rv/\b.Fair/\f+(a.len+p.b.length)+b.len<=n/\j-(a.nf+p.fs.length)<b.nf/\((f+(a.len+p.b.length):Nat):Int)+fY b (j-(a.nf+p.fs.length))=c):=AC ⟨hb,fb,AD,AD,AD⟩;have d4:(a.nf:Int)+(p.fs.length:Int)<=(j:Int):=AD;have bnf:=b.Md;have e9:a.nf<=60000:=AD;have m9:p.fs.length<=60000:=AD;have q9:a.len<=60000:=AD;have f9:f<=60000:=AD;have p9:p.b.length<=60000:=AD;have j9:j<=200000:=AD;clear ha fa fp fb hb PL CQ IY OT Ww iR bnf;generalize p.b.length=m at *;generalize p.fs.length=m2 at *;generalize p.base=b0 at *;generalize a.nf=e1 at *;generalize a.len=e2 at *;go_wp2_with fail;refine HE.out.mono ?_;rintro e w2 ⟨rfl,b2⟩;have r2:=AE (AB (HA.out.trans b2) HK.out);go_wp2_with fail;refine (TH _ (HA.out.trans b2)).mono ?_;rintro e w3 ⟨rfl,b3⟩;have r3:=AE (AB ((HA.out.trans b2).trans b3) HK.out);have B3:=AC ((HB.out.trans b2).trans b3);clear b2 b3 r2;go_wp2_with fail
     try go_quiet (fail)
     go_wp2_with fail;go_roundg b.np
     case measure=>omega
     case rel=>exact ⟨by first|exact B3.out|exact B3.out.drewN _,b,j-(e1+m2),f+(e2+m),rfl,by (congr 1;omega),by (congr 1),HR.out.1,HR.out.2.1,HR.out.2.2.1,HR.out.2.2.2.1,HR.out.2.2.2.2⟩
def Tw(t:Tr)(j:Nat):Nat:=(Ap 0 (t.bs.take j)).length
theorem gH(a b:Tr)(p:Pc)(j:Nat):Tw (Tr.node a p b) j=if j<a.len then Tw a j else if j<a.len+p.b.length then a.nf+(Ap p.base (p.b.take (j-a.len))).length else a.nf+p.fs.length+Tw b (j-(a.len+p.b.length)):=by
 have h1:=Tr.Bv a;unfold Tw;rw[Tr.bs];split
 ·rw[List.take_append_of_le_length AD]
 ·split
  ·rw[take_append,take_of_length_le AD,h1,List.take_append_of_le_length AD,B_,length_append,Tr.OC,Ci _ ((0:Int)+_),Ci _ p.base]
  ·rw[take_append,take_of_length_le AD,h1,take_append,take_of_length_le AD,B_,B_,length_append,length_append,Tr.OC,Ci p.b ((0:Int)+_),Ci _ ((0:Int)+_+_),Nat.sub_sub];have e:p.fs.length=(Ap 0 p.b).length:=Ci p.b p.base;omega
theorem ZZ(v:Value)(t:Tr)(x:Int)(w:World)(h:L0 w v t)(hm:E8 x 0 (t.len:Int)=(t.len:Int)):
 Calls prog 150 #[v,.int .i64 x] w fun e w'=>e=.returned (.int .i64 (t.nf:Int))/\AA w w':=by
 have HL:=AC (fun (w':World) (b:AA w w')=>EP v t w' (h.later b));have HB:=AC (fun (w':World) (b:AA w w')=>IJ v t w' (h.later b));have HM:=AC (fun w'=>EN x 0 t.len w' _ hm);clear h hm;generalize t.len=n at *;generalize t.nf=m at *;go_enter func150,ntmps150;go_wp2_with fail;refine (HL _ (AA.refl _)).mono ?_;rintro e w2 ⟨rfl,b2⟩;have B2:=AC b2;clear b2;go_wp2_with fail;refine (HM _).mono ?_;rintro e y8 ⟨rfl,rfl⟩;go_wp2_with fail;refine (HL _ B2.out).mono ?_;rintro e w3 ⟨rfl,b3⟩;have B3:=AC (B2.out.trans b3);clear b3;go_wp2_with fail;refine (HB _ B3.out).mono ?_;rintro e w4 ⟨rfl,b4⟩;have B4:=AC (B3.out.trans b4);clear b4;go_wp2_with fail;go_ret;exact ⟨rfl,B4.out⟩
theorem Xj(g:Nat)(most:Int)(t:Tr)(x:Int)(i c:Nat)(w:World)(hm:E8 x 0 (t.len:Int)=(i:Int))(hc:Tw t i=c)(h:KE w g most t)(ok:t.Ok)(hi:i<t.len):
 Calls prog 150 #[.pointer (some ⟨g,0,none⟩),.int .i64 x] w fun e w'=>e=.returned (.int .i64 (c:Int))/\AA w w':=by
 have HL:=AC (fun (w':World) (b:AA w w')=>EP (.pointer (some ⟨g,0,none⟩)) t w' (.inr ⟨g,most,rfl,h.later b⟩));have HM:=AC (fun w'=>EN x 0 t.len w' _ hm);have hlen:=ok.len;obtain ⟨rv,hg,ht⟩:=h;have HG:=AC (And.intro hg ht);obtain ⟨q,rfl⟩:=ht.ptr;have HC:=AC (And.intro hc (And.intro hi ok.fair));have d0:((i:Int) == (t.len:Int))=false:=by simp;omega
 have c9:c<=60000:=by
  have:=Dg (t.bs.take i) 0
  rw[length_take]at this;unfold Tw at hc;omega
 have f1:=tG;clear ht hg ok hi hc hm;generalize hn:t.len=n at *;have HN:=AC hn;clear hn;go_enter func150,ntmps150;go_wp2_with fail;refine (HL _ (AA.refl _)).mono ?_;rintro e w0 ⟨rfl,b0⟩;have B0:=AC b0;clear b0;go_wp2_with fail;refine (HM _).mono ?_;rintro e w0' ⟨rfl,rfl⟩;go_wp2_with fail;refine (HL _ B0.out).mono ?_;rintro e w1 ⟨rfl,b1⟩;have AG:=B0.out.trans b1;have r1:=AE (AB AG HG.out.1);go_wp2_with fail;go_loopg [1,5,6] t.np (fun kk xv nv fv wr=>AA w1 wr/\∃(s:Tr) (j f:Nat),kk=s.np/\xv=.int .i64 (j:Int)/\fv=.int .i64 (f:Int)/\CU w s nv/\s.Fair/\s.len<=n/\j<s.len/\f+Tw s j=c)
 case atStart=>exact ⟨AA.refl _,t,i,0,rfl,rfl,rfl,HG.out.2,HC.out.2.2,Nat.le_of_eq HN.out,by rw[HN.out];exact HC.out.2.1,by rw[HC.out.1];omega⟩
 case round=>
  obtain ⟨EW,s,j,f,hk,rfl,rfl,hs,fs,cp,hj,PL⟩:=hrel;have AW:=AG.trans EW
  cases s with
  |nil=>simp[Tr.len]at hj
  |node a p b=>
   have IY:a.len+p.b.length+b.len<=n:=cp;have HE:=AC (Ih a b p _ wr (hs.later AW) (by simp only[Tr.len];omega));obtain ⟨kb,lv,rv,bv,fv,rfl,sA,ha,hb,hp⟩:=hs;obtain ⟨fa,fp,fb⟩:=fs;rw[gH a b p j]at PL;have CQ:j<a.len+p.b.length+b.len:=hj;have np2:(Tr.node a p b).np=a.np+1+b.np:=rfl;have TH:=AC (fun (w':World) (e:AA w w')=>CO a lv w' (ha.later e));unfold Hd at TH;have iR:=AC (fun (w':World) (d:Nat) (e:AA w w') (hd:d<=p.b.length)=>Ri p bv fv w' (d:Int) d _ rfl rfl (hp.later e) fp hd);have HK:=AC sA;have OT:=a.Md;have Ww:=p.ZB;obtain ⟨A,cap,rfl,-⟩:=hp.1.form;obtain ⟨A2,BP,rfl,-⟩:=hp.2.form;unfold FO at HK;unfold GM at iR;have HA:=AC AW;have HB:=AC EW;clear sA cp hj hp AW EW r1;have f9:f<=60000:=AD;by_cases c1:j<a.len
   ·rw[if_pos c1]at PL;have HR:Hid (CU w a lv/\a.Fair/\a.len<=n/\j<a.len/\f+Tw a j=c):=AC ⟨ha,fa,AD,c1,PL⟩;have d3:(j:Int)<(a.len:Int):=AD;have e9:a.nf<=60000:=AD;have m9:p.fs.length<=60000:=AD;clear ha fa fp fb hb PL CQ IY OT Ww iR;generalize p.b.length=m at *;generalize p.fs.length=m2 at *;generalize p.base=b0 at *;generalize xh:a.len=e1 at *;have qM:=AC xh;clear xh;generalize a.nf=e3 at *;go_wp2_with fail;refine HE.out.mono ?_;rintro e w2 ⟨rfl,b2⟩;have r2:=AE (AB (HA.out.trans b2) HK.out);go_wp2_with fail;refine (TH _ (HA.out.trans b2)).mono ?_;rintro e w3 ⟨rfl,b3⟩;have r3:=AE (AB ((HA.out.trans b2).trans b3) HK.out);have B3:=AC ((HB.out.trans b2).trans b3);clear b2 b3 r2;go_wp2_with fail;go_roundg a.np
    case measure=>omega
    case rel=>exact ⟨B3.out,a,j,f,rfl,rfl,rfl,HR.out.1,HR.out.2.1,by rw[qM.out];exact HR.out.2.2.1,by rw[qM.out];exact HR.out.2.2.2.1,HR.out.2.2.2.2⟩
   ·rw[if_neg c1]at PL;have d3:decide (j<a.len)=false:=decide_eq_false c1;have d3':decide ((j:Int)<(a.len:Int))=false:=decide_eq_false AD;by_cases c2:j<a.len+p.b.length
    ·rw[if_pos c2]at PL;obtain ⟨d,hd⟩:∃d,j=a.len+d:=⟨j-a.len,AD⟩;subst hd;rw[Nat.add_sub_cancel_left]at PL;have Hx:d<=p.b.length:=AD;obtain ⟨y,hy⟩:=BZ ((Ap p.base (p.b.take d)).length);have Ox:Hid (∀w',AA w w'->Calls prog 191 #[.agg #[.slice A p.b.length cap,.slice A2 p.fs.length BP,.int .i64 p.base],.int .i64 (d:Int)] w' fun e Bg=>e=.returned (.int .i64 (y:Int))/\AA w' Bg):=AC (fun w' e=>by rw[<-hy];exact iR w' d e Hx);rw[hy]at PL;have d4:decide ((a.len:Int)+(p.b.length:Int)<=(a.len:Int)+(d:Int))=false:=decide_eq_false AD;have d5:decide (p.b.length<=d)=false:=decide_eq_false AD;have d6:(a.len:Int)+(d:Int)-(a.len:Int)=(d:Int):=AD;have e9:a.nf<=60000:=AD;have q9:a.len<=60000:=AD;have d9:d<=60000:=AD;have y9:y<=60000:=AD;have HCc:Hid ((f:Int)+(a.nf:Int)+(y:Int)=(c:Int)):=AC AD;clear ha fa fp fb hb PL CQ IY OT Ww iR Hx c2 hy;generalize p.b.length=m at *;generalize p.fs.length=m2 at *;generalize p.base=b0 at *;generalize a.nf=e1 at *;generalize a.len=e2 at *;go_wp2_with fail;refine HE.out.mono ?_;rintro e w2 ⟨rfl,b2⟩;have r2:=AE (AB (HA.out.trans b2) HK.out);go_wp2_with fail;refine (TH _ (HA.out.trans b2)).mono ?_;rintro e w3 ⟨rfl,b3⟩;have r3:=AE (AB ((HA.out.trans b2).trans b3) HK.out);have B3:=AC ((HA.out.trans b2).trans b3);clear b2 b3 r2;go_wp2_with fail;refine (Ox _ B3.out).mono ?_;rintro e w4 ⟨rfl,b4⟩;have B4:=AC (B3.out.trans b4);clear b4 r3;go_wp2_with fail;go_ret;exact ⟨Wc HCc.out,B4.out⟩
    ·rw[if_neg c2]at PL;have HR:Hid (CU w b rv/\b.Fair/\b.len<=n/\j-(a.len+p.b.length)<b.len/\f+(a.nf+p.fs.length)+Tw b (j-(a.len+p.b.length))=c):=AC ⟨hb,fb,AD,AD,AD⟩;have d4:(a.len:Int)+(p.b.length:Int)<=(j:Int):=AD;have e9:a.nf<=60000:=AD;have m9:p.fs.length<=60000:=AD;have q9:a.len<=60000:=AD;have p9:p.b.length<=60000:=AD;have j9:j<=200000:=AD;clear ha fa fp fb hb PL CQ IY OT Ww iR;generalize p.b.length=m at *;generalize p.fs.length=m2 at *;generalize p.base=b0 at *;generalize a.nf=e1 at *;generalize a.len=e2 at *;go_wp2_with fail;refine HE.out.mono ?_;rintro e w2 ⟨rfl,b2⟩;have r2:=AE (AB (HA.out.trans b2) HK.out);go_wp2_with fail;refine (TH _ (HA.out.trans b2)).mono ?_;rintro e w3 ⟨rfl,b3⟩;have r3:=AE (AB ((HA.out.trans b2).trans b3) HK.out);have B3:=AC ((HB.out.trans b2).trans b3);clear b2 b3 r2;go_wp2_with fail
     try go_quiet (fail)
     go_wp2_with fail;go_roundg b.np
     case measure=>omega
     case rel=>exact ⟨by first|exact B3.out|exact B3.out.drewN _,b,j-(e2+m),f+(e1+m2),rfl,by (congr 1;omega),by (congr 1;omega),HR.out.1,HR.out.2.1,HR.out.2.2.1,HR.out.2.2.2.1,HR.out.2.2.2.2⟩
theorem ZW(l:List Int)(i:Nat)(hi:i<=l.length):(Ap 0 (l.take i)).length=below (i:Int) (Ap 0 l):=by
 have:=I7 l 0 i hi
 rw[Int.zero_add]at this;exact this.symm
theorem YG(v:Value)(t:Tr)(x:Int)(c:Nat)(w:World)(hc:below x (Ap 0 t.bs)=c)(h:L0 w v t)(ok:t.Ok):
 Calls prog 150 #[v,.int .i64 x] w fun e w'=>e=.returned (.int .i64 (c:Int))/\AA w w':=by
 obtain ⟨i,ei,hi,mi⟩:=Iu x 0 t.len;simp only[Nat.zero_add,Int.natCast_zero,Int.sub_zero]at ei mi;have hb:below x (Ap 0 t.bs)=below (i:Int) (Ap 0 t.bs):=by
  have fd:=Tr.Bv t;rcases Int.lt_or_le x 0 with h1|h1
  ·have e0:i=0:=by unfold E8 at mi;split at mi <;> omega
   subst e0;have e1:=FU x [] (Ap 0 t.bs) Ar (fun y hy=>by have:=Dt _ _ _ hy;omega);have e2:=FU ((0:Nat):Int) [] (Ap 0 t.bs) Ar (fun y hy=>by have:=Dt _ _ _ hy;omega);rw[List.nil_append]at e1 e2;rw[e1,e2]
  ·rcases Int.lt_or_le (t.len:Int) x with h2|h2
   ·have e0:i=t.len:=by unfold E8 at mi;split at mi <;> (try split at mi) <;> omega
    have e1:=FU x (Ap 0 t.bs) [] (fun y hy=>by have:=Dt _ _ _ hy;omega) Ar;have e2:=FU ((i:Nat):Int) (Ap 0 t.bs) [] (fun y hy=>by have:=Dt _ _ _ hy;omega) Ar;rw[List.append_nil]at e1 e2;rw[e1,e2]
   ·have e0:(i:Int)=x:=by unfold E8 at mi;split at mi <;> (try split at mi) <;> omega
    rw[e0]
 rw[hb,<-ZW t.bs i (by rw[Tr.Bv];exact hi)]at hc;by_cases hie:i=t.len
 ·have e:c=t.nf:=by
   rw[<-hc,take_of_length_le (by rw[Tr.Bv];omega),Tr.OC]
  rw[e];exact ZZ v t x w h (by rw[ei,hie])
 ·rcases h with ⟨rfl,rfl⟩|⟨g,most,rfl,h⟩
  ·simp only[Tr.len]at hi hie;omega
  ·exact Xj g most t x i c w ei hc h ok AD
end
end Go.Proofs.YtamhnffokoejjaaGreatDoor
