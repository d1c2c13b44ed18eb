import Derived.Shelf.Bytes.SlCountOne
import Derived.Lib.JoinLaws
import Derived.Test.YtamhnffokoejjaaGreatDoorKwao
set_option linter.all false
set_option maxHeartbeats 3200000
set_option maxRecDepth 100000
namespace Go.Proofs.YtamhnffokoejjaaGreatDoor
open List(getD_eq_getElem?_getD length_take append_nil length_drop drop_take length_append append_assoc getElem?_append_right length_map range getElem?_map getElem?_range length_range getElem?_drop getElem?_eq_none replicate length_replicate)
open Option(map_some)
open Go.Proofs.Tryz
open Go.RowKit
section
variable{a e f i n n' o s t:Int}{H:List Bool}{A X b l:List Int}{B first k last now:Nat}{T m:Qs}{v:Value}{w w':World}
theorem tM{x:Int}(h:0<=x/\x<=255):UInt8.ofNat x.toNat=10↔x=10:=by
 constructor
 ·intro e;have:=congrArg UInt8.toNat e
  simp only[UInt8.toNat_ofNat']at this;have h2:(10:UInt8).toNat=10:=rfl;rw[h2]at this;omega
 ·rintro rfl;rfl
theorem Rr:∀(l:List Int) (i:Int),BX l->(Ap i l).length=Lib.countByte (Lib.bytesOf l) 10
 |[],i,_=>rfl
 |x::l,i,h=>by
  have ih:=Rr l (i+1) (fun c hc=>h c (by simp[hc]));have hx:=tM (h x Ar);unfold Lib.countByte Lib.bytesOf at *;rw[List.map_cons,List.count_cons,Ap];by_cases e:x=10
  ·rw[if_pos e,List.length_cons,ih,if_pos (by simpa using hx.2 e)]
  ·rw[if_neg e,ih,if_neg (by simpa using fun q=>e (hx.1 q))];rfl
theorem bp(v:Value)(l:List Int)(w:World)(hv:RN .u8 w v l)(hb:BX l)(c:Nat)(hc:(Ap 0 l).length=c):(callFunc 269 #[v,.int .u8 10]).run prog w=.ok (.value (.int .i64 (c:Int))) w:=by
 rw[run_callFunc_extern func269 AY AY AY (e:=Extern.BytealgCount.count) AY];obtain ⟨A,cap,rfl,h2,h3⟩:=hv;rw[Rr l 0 hb]at hc
 cases A with
 |none=>
  have h0:l=[]:=by
   cases l with
   |nil=>rfl
   |cons x t=>obtain ⟨b,off,e,_⟩:=h3 Ar;cases e
  subst h0;subst hc;rw[Lib.run_countNil];rfl
 |some a=>
  rw[Lib.run_countAt w a l.length cap l rfl (fun i hi=>by
   obtain ⟨b,off,e,_,Eu⟩:=h3 AD;cases e;rw[Db,Eu i hi];simp[getD_eq_getElem?_getD,hi]) 10]
  show Result.ok (Next.value (.int .i64 (Lib.countByte (Lib.bytesOf l) 10))) w=_
  rw[hc]
theorem cg(v:Value)(l:List Int)(b2:Nat)(w:World)(hv:RN .u8 w v l)(hb:BX l)(c:Nat)(hc:(Ap 0 l).length=c)(h2:w.cell? ⟨b2,0,none⟩=some (.int .u8 10)):
 Calls prog 250 #[v,.slice (some ⟨b2,0,none⟩) 1 1] w fun e w'=>e=.returned (.int .i64 (c:Int))/\w=w':=by
 have hr:=bp v l w hv hb c hc;clear hv hb hc;go_enter func250,ntmps250;go_wp2_with fail;go_ret;exact ⟨rfl,rfl⟩
theorem Px(v:Value)(l:List Int)(w:World)(hv:RN .u8 w v l)(hb:BX l)(c:Nat)(hc:(Ap 0 l).length=c):
 Calls prog 217 #[v] w fun e w'=>e=.returned (.int .i64 (c:Int))/\AA w w':=by
 have HC:=AC (fun (w':World) (b2:Nat) (a:AA w w') (h:w'.cell? ⟨b2,0,none⟩=some (.int .u8 10))=>cg v l b2 w' (hv.later a) hb c hc h);clear hv hb hc;go_enter func217,ntmps217;go_wp2_with fail;refine (HC _ _ BQ ?_).mono ?_
 ·rw[AE (Ae rfl)];rfl
 rintro e w2 ⟨rfl,rfl⟩;go_wp2_with fail;go_ret;exact ⟨rfl,BQ⟩
theorem YX(v:Value)(l:List Int)(w:World)(hv:RN .u8 w v l)(h0:0<l.length)(hl:l.length<=90000):
 Calls prog 216 #[v] w fun e w'=>∃u,e=.returned u/\AA w w'/\ON .u8 5 w' w.heap.size u l:=by
 obtain ⟨u,w2,k1,k2,k3⟩:=gY hv hl;obtain ⟨A,cap,rfl,h2,h3⟩:=hv;obtain ⟨b,off,rfl,-⟩:=h3 h0;have hq:=fun (w:World) (n:Nat)=>Lib.run_eql_slice_nil (P:=prog) w 22 5 (some ⟨b,off,none⟩) n cap 0 0 underlying22
 have HK:=AC (And.intro k2 k3);have K1:=AC k1;clear k1 k2 k3 h3;generalize l.length=n at *;go_enter func216,ntmps216;go_wp2_with (at_builtin;refine Lib.wpList_append_run _ rfl _ _ _ _ rfl _ _ rfl rfl _ _ K1.out ?_)
 go_ret;exact ⟨_,rfl,HK.out.1,HK.out.2⟩
theorem VT:(prog.info? 21).map (fun i=>(i.zero,i.size,i.bytes))=some (some (.int .i32 0),1,4):=AY
theorem vu(x:Int)(ho:ON .i32 21 w B v l)(hB:B<=w.heap.size)(hl:l.length<=90000):
 ∃u w2,(Builtin.append_ #[189,189] 189 #[v,.slice (some ⟨w.heap.size,0,none⟩) 1 1]).run prog (w.alloc (.cells #[.int .i32 x] 21))=.ok u w2/\ON .i32 21 w2 B u (l++[x])/\(∀W,W.heap.size<=B->AA W w->AA W w2)/\(∀(k:Nat) (o:Obj),w.heap[k]?=some o->v.ownBlock≠some k->w2.heap[k]?=some o):=by
 have a1:AA w (w.alloc (.cells #[.int .i32 x] 21)):=(AA.refl w).alloc _;have hm:RN .i32 (w.alloc (.cells #[.int .i32 x] 21)) (.slice (some ⟨w.heap.size,0,none⟩) 1 1) [x]:=(ON.one (B:=0) (Nat.zero_le _) (Ae rfl)).rn;have XI:=ho.later a1;obtain ⟨u,w2,k1,k2,k3⟩:=RL (s:=189) underlying189 VT (by decide) XI hm (Nat.le_trans hB a1.below.size) (by simp;omega);exact ⟨u,w2,k1,k2,fun W h1 h2=>ON.grown XI h1 (h2.trans a1) k3,fun k o hk Az=>FF k3 (AB a1 hk) Az⟩
theorem iA(l:List Int)(i:Nat)(h:i<l.length):Ap 0 (l.take (i+1))=Ap 0 (l.take i)++(if l[i]=10 then [(i:Int)] else []):=by
 have hl:(l.take i).length=i:=by rw[length_take];omega
 rw[List.take_succ_eq_append_getElem h,B_,hl]
 congr 1
 simp[Ap]
theorem bX(l:List Int):Pc.cut ⟨l,0⟩ 0 l.length=⟨l,0⟩:=by
 unfold Pc.cut;simp
theorem Ux(v:Value)(l:List Int)(w:World)(hv:RN .u8 w v l)(hb:BX l)(h0:0<l.length)(hl:l.length<=80000):
 Calls prog 170 #[v] w (IB (MC ⟨l,0⟩) w):=by
 obtain ⟨C,hC⟩:∃c,(Ap 0 l).length=c:=⟨_,rfl⟩;have fZ:C<=80000:=by have:=Dg l 0;omega
 have fp:Pc.Fair ⟨l,0⟩:=⟨h0,Int.le_refl _,by simp only;omega,hb⟩;have TV:=hv;obtain ⟨A,cap,rfl,h2,h3⟩:=hv;obtain ⟨b,off,rfl,bL,Eu⟩:=h3 h0;obtain ⟨n,hn⟩:=BZ (l.length);have fP:Hid (∀w',AA w w'->Calls prog 216 #[.slice (some ⟨b,off,none⟩) n cap] w' fun e Bg=>∃A2 BP,e=.returned (.slice A2 n BP)/\AA w' Bg/\ON .u8 5 Bg w'.heap.size (.slice A2 n BP) l):=AC (fun w' a=>by
  subst hn;refine (YX _ l w' (TV.later a) h0 AD).mono ?_;rintro e Bg ⟨u,rfl,h1,h2⟩;obtain ⟨A2,BP,rfl,-⟩:=h2.form;exact ⟨A2,BP,rfl,h1,h2⟩)
 have HCo:Hid (∀w',AA w w'->Calls prog 217 #[.slice (some ⟨b,off,none⟩) n cap] w' fun e Bg=>e=.returned (.int .i64 (C:Int))/\AA w' Bg):=AC (fun w' a=>by
  subst hn;exact Px _ l w' (TV.later a) hb C hC)
 have ZS:Hid (∀(w':World) (bv fv:Value),RT .u8 5 w' bv l->RT .i32 21 w' fv (Ap 0 l)->Calls prog 211 #[.agg #[bv,fv,.int .i64 0],.int .i64 0,.int .i64 (n:Int)] w' (IB (MC ⟨l,0⟩) w')):=AC (fun w' bv fv h1 h2=>by
  subst hn;have:=UQ ⟨l,0⟩ bv fv w' 0 (l.length:Int) 0 l.length rfl rfl (Nat.zero_le _) (Nat.le_refl _) ⟨h1,h2⟩ fp
  rw[bX]at this;exact this)
 have vm:=run_make_room (P:=prog) 189 21 (.int .i32 0) 4 underlying189 VT rfl .i64 .i64 C AD AD;have Kk:Hid (∀(i:Nat),i<n->w.cell? ⟨b,off+i,none⟩=some (.int .u8 (l.getD i 0))):=AC (fun i hi=>by subst hn;rw[Eu i hi];simp[getD_eq_getElem?_getD,hi]);have HSn:Hid (∀i,i<n->Ap 0 (l.take (i+1))=Ap 0 (l.take i)++(if l.getD i 0=10 then [(i:Int)] else [])):=AC (fun i hi=>by subst hn;rw[iA l i hi];simp[getD_eq_getElem?_getD,hi]);have HFl:Hid (∀i,(Ap 0 (l.take i)).length<=80000):=AC (fun i=>by have:=Dg (l.take i) 0;rw[length_take]at this;omega);have RC:Hid (l.take n=l):=AC (by subst hn;exact List.take_length);have K21:n<=80000:=AD;rw[hn];clear hC h3 Eu hb fp TV h0 hl hn h2;go_enter func170,ntmps170;go_wp2_with fail;refine AQ (fun wS=>AA w wS/\wS.heap[w.heap.size]?=some (.cells #[.slice none 0 0,.slice none 0 0,.int .i64 0] 191)) ⟨BQ,CG⟩ ?_;rintro w1 ⟨AJ,AH⟩;have AG:=AJ;refine (fP _ AG).mono ?_;rintro e w2 ⟨A2,BP,rfl,AL,o2⟩;have AR:=AG.trans AL;have AU:=AB AL AH;have N9:=AC o2;clear o2;go_wp2_with fail;refine (HCo _ AR).mono ?_;rintro e w3 ⟨rfl,AX⟩;have An:=AR.trans AX;have Ah:=AB AX AU;have CB:=AE Ah;go_wp2_with fail;clear CB;go_loopg [14] n (fun kk iv wr=>∃(i:Nat) (fv:Value),kk=n-i/\i<=n/\iv=.int .i64 (i:Int)/\AA w3 wr/\wr.heap[w3.heap.size+1]?=some (.cells #[.slice A2 n BP,fv,.int .i64 0] 191)/\ON .i32 21 wr w3.heap.size fv (Ap 0 (l.take i))/\fv.ownBlock≠some (w3.heap.size+1))
 case atStart=>
  refine ⟨0,_,AD,AD,rfl,BQ,Ae Ar,⟨rfl,.inr ⟨w3.heap.size,C,madeCells #[.int .i32 0] C,rfl,Nat.le_refl _,I4 Ar (Ae rfl),Nat.zero_le _,by unfold maxLen;omega,by rw[size_madeCells,Nat.mul_one],rfl⟩⟩,by simp[Value.ownBlock]⟩
 case round=>
  obtain ⟨i,fv,hk,hi,rfl,AW,sP,ho,Az⟩:=hrel;have HO:=AC ho;have HA:=AC AW;have HS:=AC sP;have rP:=AE sP;have zP:=AW.below.size;clear sP;by_cases BN:i<n
  ·have d0:(i:Int)<(n:Int):=AD;have c0:wr.cell? ⟨b,off+i,none⟩=some (.int .u8 (l.getD i 0)):=((An.trans AW).below.cell bL).trans (Kk i BN);have cp:=HSn i BN;generalize l.getD i 0=c at *;by_cases YM:c=10
   ·subst YM;rw[if_pos rfl]at cp;obtain ⟨u,wx,k1,k2,k3,k4⟩:=vu (i:Int) ho zP (by have:=HFl i;omega);have K1:=AC k1;have K2:Hid (ON .i32 21 wx w3.heap.size u (Ap 0 (l.take (i+1)))):=AC (by rw[cp];exact k2);have K3:=AC (And.intro (k3 w3 (Nat.le_refl _) AW) (k4 _ _ HS Az));obtain ⟨A4,Kq,e4,-⟩:=ho.form;subst e4;obtain ⟨A5,IA,e5,-⟩:=k2.form;subst e5;clear k1 k2 k3 k4 ho cp AW Az;generalize (Ap 0 (l.take i)).length=m at *;generalize (Ap 0 (l.take i)++[(i:Int)]).length=m5 at *;have rx:=AE K3.out.2;have fx:=Bq K3.out.2;go_wp2_with (at_builtin;refine Lib.wpList_append_run _ rfl _ _ _ _ rfl _ _ rfl rfl _ _ K1.out ?_)
    go_roundg (n-(i+1))
    case measure=>omega
    case rel=>
     refine ⟨i+1,_,rfl,BN,by go_num,K3.out.1.setCell (Nat.le_succ _) _,BI K3.out.2 rfl,?_,UN K2 K3.out.2 (by decide)⟩;exact JJ K3.out.2 (by decide) _ _ K2.out
   ·have D4:(c == 10)=false:=by simpa using YM
    rw[if_neg YM,append_nil]at cp;have K2:Hid (ON .i32 21 wr w3.heap.size fv (Ap 0 (l.take (i+1)))/\fv.ownBlock≠some (w3.heap.size+1)):=AC (by rw[cp];exact ⟨ho,Az⟩);clear ho Az YM cp AW;go_wp2_with fail;go_roundg (n-(i+1))
    case measure=>omega
    case rel=>exact ⟨i+1,fv,rfl,BN,by go_num,HA.out,HS.out,K2.out.1,K2.out.2⟩
  ·obtain rfl:i=n:=AD
   rw[RC.out]at HO;have HR8:=AC ((N9.out.later (AX.trans AW)).rt);have HR3:=AC (HO.out.rt);obtain ⟨A4,Kq,e4,-⟩:=ho.form;subst e4;have s0:=AB AW Ah;clear ho Az AW BN hk;go_wp2_with fail;refine (ZS _ _ _ HR8 HR3.out).mono ?_;rintro e w4 ⟨_,rfl,b4,bv5,fv5,rfl,h5⟩;have H5:=AC (And.intro h5 (An.trans (HA.out.trans b4)));obtain ⟨A5,IA,rfl,-⟩:=h5.1.form;obtain ⟨A6,LZ,rfl,-⟩:=h5.2.form;have s1:=AB b4 s0;obtain ⟨r1,f1⟩:=DX s1;clear h5 s0 Ah;generalize (Pc.mk l 0).b.length=n5 at *;generalize (Pc.mk l 0).fs.length=n6 at *;have e5:GM (.slice A5 n5 IA) (.slice A6 n6 LZ) ⟨l,0⟩=.agg #[.slice A5 n5 IA,.slice A6 n6 LZ,.int .i64 0]:=rfl;rw[e5];clear e5;go_wp2_with fail;have Mf:AA w (((w4.setCell ⟨w.heap.size,0,none⟩ (.slice A5 n5 IA)).setCell ⟨w.heap.size,1,none⟩ (.slice A6 n6 LZ)).setCell ⟨w.heap.size,2,none⟩ (.int .i64 0)):=by
    have a4:=H5.out.2;exact BQ
   refine bodyPost_ret (v:=.agg #[.slice A5 n5 IA,.slice A6 n6 LZ,.int .i64 0]) (by simp[results,results170,go_sem, *]) rfl ?_;exact ⟨_,rfl,Mf,_,_,rfl,EA.oZ s1 (by decide) (by decide) H5.out.1⟩
theorem Wc{b:Int}(h:a=b):Ending.returned (.int .i64 a)=.returned (.int .i64 b):=by rw[h]
def E8(n low high:Int):Int:=if n<low\/high<low then low else if high<n then high else n
theorem EN(n low high:Int)(w:World)(c:Int)(hc:E8 n low high=c):
 Calls prog 89 #[.int .i64 n,.int .i64 low,.int .i64 high] w fun e w'=>e=.returned (.int .i64 c)/\w=w':=by
 subst hc;by_cases h1:n<low
 ·have Q:Hid (low=E8 n low high):=AC (by unfold E8;rw[if_pos (.inl h1)]);go_enter func89,ntmps89
  go_wp2
  go_ret;exact ⟨Wc Q.out,rfl⟩
 ·by_cases h2:high<low
  ·have Q:Hid (low=E8 n low high):=AC (by unfold E8;rw[if_pos (.inr h2)]);go_enter func89,ntmps89
   go_wp2
   go_ret;exact ⟨Wc Q.out,rfl⟩
  ·by_cases h3:high<n
   ·have Q:Hid (high=E8 n low high):=AC (by unfold E8;rw[if_neg AD,if_pos h3]);go_enter func89,ntmps89
    go_wp2
    go_ret;exact ⟨Wc (by rw[<-Q.out];omega),rfl⟩
   ·have Q:Hid (n=E8 n low high):=AC (by unfold E8;rw[if_neg AD,if_neg h3]);go_enter func89,ntmps89
    go_wp2
    go_ret;exact ⟨Wc (by rw[<-Q.out];omega),rfl⟩
def yZ(a n all:Int):Prop:=0<=a/\a<=all/\0<=n/\n<=all-a
theorem Sa(a n all:Int)(w:World)(h:yZ a n all)(ha:all<=16777216):
 Calls prog 78 #[.int .i64 a,.int .i64 n,.int .i64 all] w fun e w'=>e=.returned (.tuple #[.int .i64 a,.int .i64 (a+n),.bool true])/\w=w':=by
 obtain ⟨h1,h2,h3,h4⟩:=h;go_enter func78,ntmps78
 go_wp2
 refine bodyPost_ret (v:=.tuple #[.int .i64 a,.int .i64 (a+n),.bool true]) (by simp[results,results78,go_sem]) rfl ?_;exact ⟨rfl,rfl⟩
theorem kd(a n all:Int)(w:World)(h:¬yZ a n all)(ha:all<=16777216)(h0:0<=all):
 Calls prog 78 #[.int .i64 a,.int .i64 n,.int .i64 all] w fun e w'=>e=.returned (.tuple #[.int .i64 0,.int .i64 0,.bool false])/\w=w':=by
 by_cases h1:a<0
 ·clear h;go_enter func78,ntmps78
  go_wp2
  refine bodyPost_ret (v:=.tuple #[.int .i64 0,.int .i64 0,.bool false]) (by simp[results,results78,go_sem]) rfl ?_;exact ⟨rfl,rfl⟩
 ·by_cases h2:all<a
  ·clear h;go_enter func78,ntmps78
   go_wp2
   refine bodyPost_ret (v:=.tuple #[.int .i64 0,.int .i64 0,.bool false]) (by simp[results,results78,go_sem]) rfl ?_;exact ⟨rfl,rfl⟩
  ·by_cases h3:n<0
   ·clear h;go_enter func78,ntmps78
    go_wp2
    refine bodyPost_ret (v:=.tuple #[.int .i64 0,.int .i64 0,.bool false]) (by simp[results,results78,go_sem]) rfl ?_;exact ⟨rfl,rfl⟩
   ·have h4:all-a<n:=by
     rcases Int.lt_or_le (all-a) n with h4|h4
     ·exact h4
     ·exact absurd ⟨AD,AD,AD,h4⟩ h
    clear h;go_enter func78,ntmps78
    go_wp2
    refine bodyPost_ret (v:=.tuple #[.int .i64 0,.int .i64 0,.bool false]) (by simp[results,results78,go_sem]) rfl ?_;exact ⟨rfl,rfl⟩
def Bt(l:List Int)(f t:Int):List Int:=(l.take t.toNat).drop f.toNat
theorem OP(a b:List Int)(f t:Int):Bt (a++b) f t=Bt a f t++Bt b (f-a.length) (t-a.length):=by
 unfold Bt;rw[List.take_append,List.drop_append,length_take]
 congr 1
 rcases Nat.le_total a.length t.toNat with h|h
 ·rw[Nat.min_eq_right h]
  congr 1
  ·omega
  ·congr 1;omega
 ·have e1:t.toNat-a.length=0:=AD;have e2:(t-(a.length:Int)).toNat=0:=AD;rw[e1,e2];simp
theorem eZ(h:t<=f\/(l.length:Int)<=f\/t<=0):Bt l f t=[]:=by
 unfold Bt;apply List.drop_of_length_le
 rw[length_take];omega
theorem KH(l:List Int)(f t:Int):(Bt l f t).length<=l.length:=by
 unfold Bt;rw[length_drop,length_take];omega
theorem TD{i j:Nat}(hi:(i:Int)=E8 f 0 l.length)(hj:(j:Int)=E8 t 0 l.length)(Fr:i<j):Bt l f t=(l.drop i).take (j-i):=by
 unfold Bt;unfold E8 at hi hj;have e1:l.take t.toNat=l.take j:=by
  split at hj
  ·omega
  ·split at hj
   ·rw[List.take_of_length_le AD,List.take_of_length_le AD]
   ·congr 1;omega
 have e2:f.toNat=i:=by
  split at hi
  ·omega
  ·split at hi
   ·split at hj <;> (try split at hj) <;> omega
   ·omega
 rw[e1,e2,drop_take]
theorem RN.mid(h:RN .u8 w v l)(lo hi:Nat)(h1:lo<hi)(h2:hi<=l.length):∃A cap,RN .u8 w (.slice A (hi-lo) cap) ((l.drop lo).take (hi-lo))/\
 ∀w',(Instr.sliceAt 22 v (some (.int .i64 (lo:Int))) (some (.int .i64 (hi:Int))) none).run prog w'=.ok (.slice A (hi-lo) cap) w':=by
 obtain ⟨A,cap,rfl,h3,h4⟩:=h;obtain ⟨b,off,rfl,hb,hc⟩:=h4 AD;have hl:((l.drop lo).take (hi-lo)).length=hi-lo:=by rw[length_take,length_drop];omega
 refine ⟨some ⟨b,off+lo,none⟩,cap-lo,⟨_,_,by rw[hl],by rw[hl];omega,fun _=>⟨b,off+lo,rfl,hb,fun j hj=>?_⟩⟩,fun w'=>?_⟩
 ·rw[hl]at hj;rw[Nat.add_assoc,hc (lo+j) AD,List.getElem_take,List.getElem_drop]
 ·rw[run_sliceAt_slice w' _ _ _ _ _ underlying22,run_slice_lh w' _ (some ⟨b,off,none⟩) l.length cap underlying22 .i64 .i64 (lo:Int) (hi:Int) AD AD AD];have hz:∀w,(Go.sizeOf (prog.elem 22)).run prog w=.ok 1 w:=fun w=>by simp[go_sem]
  rw[hz];simp only[Result.andThen,sliced,Int.toNat_natCast,Nat.mul_one];rw[if_neg AD,map_some,Db]
def Il(W:World)(X:Nat)(w:World)(L:List Int):Prop:=AA W w/\∃ov,w.heap[X]?=some (.cells #[ov] 22)/\ON .u8 5 w W.heap.size ov L
theorem mg{u:Value}{m:List Int}(ho:ON .u8 5 w B v l)(hm:RN .u8 w u m)(hB:B<=w.heap.size)(hlen:l.length+m.length<=100000):
 ∃v' w',(Builtin.append_ #[22,22] 22 #[v,u]).run prog w=.ok v' w'/\ON .u8 5 w' B v' (l++m)/\w.grownBy w' v.ownBlock:=RL (s:=22) underlying22 Ov (by decide) ho hm hB hlen
theorem oo(W:World)(X:Nat)(u:Value)(L M:List Int)(w:World)(hX:W.heap.size<=X)(h:Il W X w L)(hm:RN .u8 w u M)(hl:L.length+M.length<=100000):
 Calls prog 104 #[u,.pointer (some ⟨X,0,none⟩)] w fun e w'=>e=.returned (.tuple #[])/\Il W X w' (L++M):=by
 obtain ⟨hW,ov,hx,ho⟩:=h;obtain ⟨v',w2,k1,k2,k3⟩:=mg ho hm hW.below.size hl;have Az:=UN ho hx (by decide);have tK:=FF k3 hx Az;have HK:Hid (AA W w2/\w2.heap[X]?=some (.cells #[ov] 22)/\ON .u8 5 w2 W.heap.size v' (L++M)):=AC ⟨ON.grown ho (Nat.le_refl _) hW k3,tK,k2⟩;have K1:=AC k1;obtain ⟨A,cap,rfl,-⟩:=ho.form;obtain ⟨A2,BP,rfl,-⟩:=hm.form;obtain ⟨A3,E7,rfl,-⟩:=k2.form;have r1:=AE hx;have r2:=AE HK.out.2.1;have f2:=Bq HK.out.2.1;clear hW hx ho k1 k2 k3 Az tK hm;generalize L.length=n1 at *;generalize M.length=n2 at *;generalize (L++M).length=n3 at *;go_enter func104,ntmps104;go_wp2_with (at_builtin;refine Lib.wpList_append_run _ rfl _ _ _ _ rfl _ _ rfl rfl _ _ K1.out ?_)
 go_end0
 refine ⟨rfl,?_⟩;exact ⟨HK.out.1.setCell hX _,_,BI HK.out.2.1 rfl,JJ HK.out.2.1 (by decide) _ _ HK.out.2.2⟩
theorem Il.later{W:World}{X:Nat}{L:List Int}(h:Il W X w L)(ha:AA w w'):Il W X w' L:=by
 obtain ⟨hW,ov,hx,ho⟩:=h;exact ⟨hW.trans ha,ov,AB ha hx,ho.later ha⟩
theorem gp(W:World)(X:Nat)(L:List Int)(f t:Int)(w:World)(h:Il W X w L):
 Calls prog 103 #[.pointer none,.int .i64 f,.int .i64 t,.func (.func 104) #[] #[.pointer (some ⟨X,0,none⟩)]] w fun e w'=>e=.returned (.tuple #[])/\Il W X w' L:=by
 have H:=AC h;clear h;go_enter func103,ntmps103;go_wp2_with fail;refine bodyPost_ret (v:=.tuple #[]) (by simp[results,results103,go_sem]) rfl ⟨rfl,?_⟩;exact H.out
theorem jE(W:World)(X:Nat)(L:List Int)(l r:Tr)(p:Pc)(v:Value)(f t:Int)(w:World)(hv:CU W (.node l p r) v)(h:Il W X w L)(hc:((Tr.node l p r).len:Int)<=f\/t<=0):
 Calls prog 103 #[v,.int .i64 f,.int .i64 t,.func (.func 104) #[] #[.pointer (some ⟨X,0,none⟩)]] w fun e w'=>e=.returned (.tuple #[])/\Il W X w' L:=by
 have H:=AC h;obtain ⟨k,lv,rv,bv,fv,rfl,hk,-⟩:=CU.later h.1 hv;have r0:=AE hk;unfold FO at r0;clear h hk hv;generalize (Tr.node l p r).len=n at *;by_cases h1:(n:Int)<=f
 ·clear hc;go_enter func103,ntmps103;go_wp2_with fail;refine bodyPost_ret (v:=.tuple #[]) (by simp[results,results103,go_sem]) rfl ⟨rfl,?_⟩;exact H.out
 ·have h2:t<=0:=AD;have d1:decide ((n:Int)<=f)=false:=decide_eq_false h1;clear hc h1;go_enter func103,ntmps103;go_wp2_with fail;refine bodyPost_ret (v:=.tuple #[]) (by simp[results,results103,go_sem]) rfl ⟨rfl,?_⟩;exact H.out
def Xy(W:World)(X:Nat)(t:Tr):Prop:=∀(v:Value) (x y:Int) (w:World) (L:List Int),CU W t v->Il W X w L->L.length+t.len<=90000->(t.len:Int)<=x+90000->x<=90000->(t.len:Int)<=y+90000->y<=90000->
 Calls prog 103 #[v,.int .i64 x,.int .i64 y,.func (.func 104) #[] #[.pointer (some ⟨X,0,none⟩)]] w fun e w'=>e=.returned (.tuple #[])/\Il W X w' (L++Bt t.bs x y)
theorem Iu(x:Int)(s n:Nat):∃i:Nat,E8 x s ((s+n:Nat):Int)=((s+i:Nat):Int)/\i<=n/\(i:Int)=E8 (x-s) 0 n:=by
 refine ⟨(E8 (x-s) 0 n).toNat,?_,?_,?_⟩
 all_goals
  unfold E8;split
  ·(try split) <;> omega
  ·(try split) <;> (try split) <;> omega
theorem ng(W:World)(X:Nat)(hX:W.heap.size<=X)(l r:Tr)(p:Pc)(ihl:Xy W X l)(ihr:Xy W X r)(v:Value)(x y:Int)(w:World)(L:List Int)(hv:CU W (.node l p r) v)(h:Il W X w L)
 (hl:L.length+(Tr.node l p r).len<=90000) (h1:((Tr.node l p r).len:Int)<=x+90000) (h2:x<=90000) (h3:((Tr.node l p r).len:Int)<=y+90000) (h4:y<=90000) (hc:x<((Tr.node l p r).len:Int)) (D4:0<y):
 Calls prog 103 #[v,.int .i64 x,.int .i64 y,.func (.func 104) #[] #[.pointer (some ⟨X,0,none⟩)]] w fun e w'=>e=.returned (.tuple #[])/\Il W X w' (L++Bt (Tr.node l p r).bs x y):=by
 have HN:=AC (fun (w':World) (b:AA W w')=>Ih l r p v w' (CU.later b hv) AD);obtain ⟨k,lv,rv,bv,fv,rfl,hk,hvl,yK,hp⟩:=hv;have Fx:(Tr.node l p r).len=l.len+p.b.length+r.len:=rfl;obtain ⟨i,ei,hi,mi⟩:=Iu x l.len p.b.length;obtain ⟨j,ej,hj,mj⟩:=Iu y l.len p.b.length;have eb:Bt (Tr.node l p r).bs x y=Bt l.bs x y++(Bt p.b (x-l.len) (y-l.len)++Bt r.bs (x-((l.len:Int)+(p.b.length:Int))) (y-((l.len:Int)+(p.b.length:Int)))):=by
  rw[Tr.bs,OP,OP,Tr.Bv,show x-(l.len:Int)-(p.b.length:Int)=x-((l.len:Int)+(p.b.length:Int)) by omega,show y-(l.len:Int)-(p.b.length:Int)=y-((l.len:Int)+(p.b.length:Int)) by omega]
 have k1:=KH l.bs x y;have k2:=KH p.b (x-l.len) (y-l.len);rw[Tr.Bv]at k1;have HL:=AC (fun (w':World) (hw:Il W X w' L)=>ihl lv x y w' L hvl hw AD AD h2 AD h4);have HR:=AC (fun (w':World) (hw:Il W X w' (L++Bt l.bs x y++Bt p.b (x-l.len) (y-l.len)))=>ihr rv (x-((l.len:Int)+(p.b.length:Int))) (y-((l.len:Int)+(p.b.length:Int))) w' _ yK hw (by rw[length_append,length_append];omega) AD AD AD AD);have xr:=AC (fun w'=>EN x l.len ((l.len:Int)+(p.b.length:Int)) w' _ ((congrArg (E8 x l.len) AD).trans ei));have o_:=AC (fun w'=>EN y l.len ((l.len:Int)+(p.b.length:Int)) w' _ ((congrArg (E8 y l.len) AD).trans ej));have HE:Hid (∀w',Il W X w' (L++Bt l.bs x y++Bt p.b (x-l.len) (y-l.len)++Bt r.bs (x-((l.len:Int)+(p.b.length:Int))) (y-((l.len:Int)+(p.b.length:Int))))->Il W X w' (L++Bt (Tr.node l p r).bs x y)):=AC (fun w' hw=>by rw[eb,<-append_assoc,<-append_assoc];exact hw);have HK:=AC hk;have HP:Hid (i<j->∃A cap,RN .u8 W (.slice A (j-i) cap) (Bt p.b (x-l.len) (y-l.len))/\∀w',(Instr.sliceAt 22 bv (some (.int .i64 (i:Int))) (some (.int .i64 (j:Int))) none).run prog w'=.ok (.slice A (j-i) cap) w'):=AC (fun Fr=>by
  rw[TD mi mj Fr];exact RN.mid hp.1.rn i j Fr AD)
 have xw:Hid (¬i<j->Bt p.b (x-l.len) (y-l.len)=[]):=AC (fun Fr=>by
  unfold Bt;apply List.drop_of_length_le
  rw[length_take];unfold E8 at mi mj;split at mi <;> (try split at mi) <;> split at mj <;> (try split at mj) <;> omega)
 obtain ⟨A,cap,rfl,-⟩:=hp.1.form;have HQ:=AC (fun (u:Value) (w':World) (M:List Int) (hw:Il W X w' (L++Bt l.bs x y)) (hm:RN .u8 w' u (Bt p.b (x-l.len) (y-l.len)))=>oo W X u _ _ w' hX hw hm (by rw[length_append];omega));have b1:l.len<=90000:=AD;have b2:p.b.length<=90000:=AD;have H0:=AC h;have Ag:=AB h.1 hk;have Bx:=AE Ag;unfold FO at HK Bx;clear hvl yK hp hk h hl Fx eb k1 k2 ei ej mi mj ihl ihr Ag;generalize (Bt r.bs (x-((l.len:Int)+(p.b.length:Int))) (y-((l.len:Int)+(p.b.length:Int))))=D3 at *;generalize Bt p.b (x-l.len) (y-l.len)=D2 at *;generalize Bt l.bs x y=D1 at *;generalize p.b.length=n at *;generalize p.base=b0 at *;generalize l.len=e1 at *;generalize (Tr.node l p r).len=N at *;have d1:decide ((N:Int)<=x)=false:=decide_eq_false AD;have d2:decide (y<=0)=false:=decide_eq_false AD;go_enter func103,ntmps103;go_wp2_with fail;refine (HN _ H0.out.1).mono ?_;rintro e w1 ⟨rfl,AJ⟩;have H1:=AC (H0.out.later AJ);have r1:=AE (AB H1.out.1 HK.out);clear Bx AJ;go_wp2_with fail;refine (HL _ H1.out).mono ?_;rintro e w2 ⟨rfl,o2⟩;have H2:=AC o2;have r2:=AE (AB o2.1 HK.out);clear r1 o2;go_wp2_with fail;refine (xr _).mono ?_;rintro e y8 ⟨rfl,rfl⟩;go_wp2_with fail;refine (o_ _).mono ?_;rintro e y8 ⟨rfl,rfl⟩;by_cases Fr:i<j
 ·obtain ⟨A9,xo,m1,m2⟩:=HP Fr;have M1:=AC m1;have d4:(e1:Int)+(i:Int)<(e1:Int)+(j:Int):=AD;have d5:(e1:Int)+(i:Int)-(e1:Int)=(i:Int):=AD;have d6:(e1:Int)+(j:Int)-(e1:Int)=(j:Int):=AD;clear m1;go_wp2_with fail;refine (HQ _ _ [] H2 (M1.out.later H2.out.1)).mono ?_;rintro e w3 ⟨rfl,o3⟩;have H3:=AC o3;have r3:=AE (AB o3.1 HK.out);clear r2 o3;go_wp2_with fail;refine (HR _ H3.out).mono ?_;rintro e w4 ⟨rfl,o4⟩;have H4:=AC (HE _ o4);clear o4;go_wp2_with fail
  go_end0
  exact ⟨rfl,H4.out⟩
 ·have M2:=xw Fr;have H3:Hid (Il W X w2 (L++D1++D2)):=AC (by rw[M2,append_nil];exact H2.out);have d4:decide ((e1:Int)+(i:Int)<(e1:Int)+(j:Int))=false:=decide_eq_false AD;have d5:decide (i<j)=false:=decide_eq_false Fr;clear M2 Fr;go_wp2_with fail;refine (HR _ H3.out).mono ?_;rintro e w4 ⟨rfl,o4⟩;have H4:=AC (HE _ o4);clear o4;go_wp2_with fail
  go_end0
  exact ⟨rfl,H4.out⟩
theorem PR(W:World)(X:Nat)(hX:W.heap.size<=X):∀t:Tr,Xy W X t
 |.nil=>fun v x y w L hv h _ _ _ _ _=>by
  obtain rfl:v=.pointer none:=hv
  have e:Bt Tr.nil.bs x y=[]:=by simp[Bt,Tr.bs]
  rw[e,append_nil];exact gp W X L x y w h
 |.node l p r=>fun v x y w L hv h hl h1 h2 h3 h4=>by
  by_cases hc:((Tr.node l p r).len:Int)<=x\/y<=0
  ·have e:Bt (Tr.node l p r).bs x y=[]:=eZ (by rw[Tr.Bv];omega);rw[e,append_nil];exact jE W X L l r p v x y w hv h hc
  ·exact ng W X hX l r p (PR W X hX l) (PR W X hX r) v x y w L hv h hl h1 h2 h3 h4 AD AD
def Fo(n:Int):Int:=if n<1 then 1 else if 4096<n then 4096 else n
theorem aD(n:Int):1<=Fo n/\Fo n<=4096:=by unfold Fo;split <;> (try split) <;> omega
def Do(X:List Int)(a o:Nat)(i:List Int):List Int:=X.take a++i++X.drop (a+o)
theorem F7{a o:Nat}{i:List Int}(h:a+o<=X.length):(Do X a o i).length=X.length-o+i.length:=by
 unfold Do;rw[length_append,length_append,length_take,length_drop];omega
theorem SG{a o:Nat}{i:List Int}(h:a<=X.length)(he:e<=a):Bt (Do X a o i) s e=Bt X s e:=by
 unfold Bt Do;rw[append_assoc,List.take_append_of_le_length (by rw[length_take];omega),List.take_take,Nat.min_eq_left AD]
theorem P8{a o:Nat}{i:List Int}{d:Int}(h:a+o<=X.length)(hs:(a:Int)+o<=s)(yV:s<=e)(hd:d=(i.length:Int)-o):Bt (Do X a o i) (s+d) (e+d)=Bt X s e:=by
 obtain ⟨s',rfl⟩:∃s':Nat,s=(a:Int)+o+s':=⟨(s-a-o).toNat,AD⟩;obtain ⟨e',rfl⟩:∃e':Nat,e=(a:Int)+o+e':=⟨(e-a-o).toNat,AD⟩;have hl:(X.take a++i).length=a+i.length:=by rw[length_append,length_take];omega
 unfold Bt Do;rw[show ((a:Int)+o+e'+d).toNat=(X.take a++i).length+e' by omega,show ((a:Int)+o+s'+d).toNat=(X.take a++i).length+s' by omega,List.take_length_add_append,List.drop_length_add_append,show ((a:Int)+o+e').toNat=a+o+e' by omega,show ((a:Int)+o+s').toNat=a+o+s' by omega,drop_take,drop_take,List.drop_drop,show a+o+e'-(a+o+s')=e'-s' by omega]
structure ql(F F':List Int)(n n' a o i:Int)(p m q r:Nat):Prop where
 len:F.length=p+m+q
 xB:F'.length=p+r+q
 fst:∀k,k<=p->Jw F' k=Jw F k
 rz:∀k,k<p->Nw F' n' k=Nw F n k
 snd:∀j,j<q->Jw F' (p+r+1+j)=Jw F (p+m+1+j)+(i-o)
 ru:∀j,j<q->Nw F' n' (p+r+1+j)=Nw F n (p+m+1+j)+(i-o)
 qz:∀k,k<p->Nw F n k<a
 jk:∀k,k<=p->Jw F k<=a
 NJ:∀j,j<q->a+o+1<=Jw F (p+m+1+j)
theorem Y8{B:List Int}(h:k<A.length):(A++B).getD k 0=A.getD k 0:=by simp[List.getD_eq_getElem?_getD,List.getElem?_append_left h]
theorem YN{B:List Int}:(A++B).getD (A.length+k) 0=B.getD k 0:=by rw[getD_eq_getElem?_getD,getD_eq_getElem?_getD,getElem?_append_right AD,show A.length+k-A.length=k by omega]
theorem Mi(h:k<A.length)(d:Int):(A.map (· +d)).getD k 0=A.getD k 0+d:=by simp[List.getD_eq_getElem?_getD,h]
theorem km{P M Q N:List Int}(hn:n'=n-o+i)(hP:∀x∈P,x<a)(hQ:∀x∈Q,a+o<=x)(ha:0<=a):
 ql (P++M++Q) (P++N++Q.map (· +(i-o))) n n' a o i P.length M.length Q.length N.length:=by
 have hPm:∀k,k<P.length->P.getD k 0<a:=fun k hk=>by rw[getD_in hk];exact hP _ (List.getElem_mem hk)
 have hQm:∀k,k<Q.length->a+o<=Q.getD k 0:=fun k hk=>by rw[getD_in hk];exact hQ _ (List.getElem_mem hk)
 have e1:∀(X Y:List Int) k,k<P.length->(P++X++Y).getD k 0=P.getD k 0:=fun X Y k hk=>by rw[append_assoc,Y8 hk]
 have e2:∀(X Y:List Int) k,(P++X++Y).getD (P.length+X.length+k) 0=Y.getD k 0:=fun X Y k=>by rw[<-length_append,YN]
 refine ⟨by simp only[length_append],by simp only[length_append,length_map],fun k hk=>?_,fun k hk=>?_,fun j hj=>?_,fun j hj=>?_,fun k hk=>?_,fun k hk=>?_,fun j hj=>?_⟩
 ·unfold Jw;split
  ·rfl
  ·rw[e1 _ _ _ AD,e1 _ _ _ AD]
 ·unfold Nw;rw[if_pos (by simp only[length_append];omega),if_pos (by simp only[length_append];omega),e1 _ _ _ hk,e1 _ _ _ hk]
 ·unfold Jw;rw[if_neg AD,if_neg AD,show P.length+N.length+1+j-1=P.length+N.length+j by omega,show P.length+M.length+1+j-1=P.length+M.length+j by omega,e2,e2,Mi hj];omega
 ·unfold Nw;simp only[length_append,length_map];by_cases h:j+1<Q.length
  ·rw[if_pos AD,if_pos AD,show P.length+N.length+1+j=P.length+N.length+(j+1) by omega,show P.length+M.length+1+j=P.length+M.length+(j+1) by omega,e2,e2,Mi h]
  ·rw[if_neg AD,if_neg AD];omega
 ·unfold Nw;rw[if_pos (by simp only[length_append];omega),e1 _ _ _ hk];exact hPm k hk
 ·unfold Jw;split
  ·exact ha
  ·rw[e1 _ _ _ AD];have:=hPm (k-1) AD
   omega
 ·unfold Jw;rw[if_neg AD,show P.length+M.length+1+j-1=P.length+M.length+j by omega,e2];have:=hQm j hj
  omega
theorem gA{a o:Nat}{i:List Int}(h:a+o<=b.length):
 ql (Ap 0 b) (Ap 0 (Do b a o i)) b.length (Do b a o i).length a o i.length (below a (Ap 0 b)) (below ((a+o:Nat):Int) (Ap 0 b)-below a (Ap 0 b)) (Ap 0 (b.drop (a+o))).length (below ((a+i.length:Nat):Int) (Ap 0 (Do b a o i))-below a (Ap 0 b))/\below a (Ap 0 b)<=below ((a+o:Nat):Int) (Ap 0 b)/\below a (Ap 0 b)<=below ((a+i.length:Nat):Int) (Ap 0 (Do b a o i)):=by
 have zJ:(b.take a).length=a:=by rw[length_take];omega
 have htd:((b.drop a).take o).length=o:=by rw[length_take,length_drop];omega
 have X15:b.take (a+o)=b.take a++(b.drop a).take o:=by rw[List.take_add]
 have k0:=I7 b 0 a AD;have k1:=I7 b 0 (a+o) h;have k2:=I7 (Do b a o i) 0 (a+i.length) (by rw[F7 h];omega);rw[Int.zero_add]at k0 k1 k2;have e2:(Do b a o i).take (a+i.length)=b.take a++i:=by
  unfold Do;rw[<-show (b.take a++i).length=a+i.length by rw[length_append,zJ],List.take_left]
 have f1:Ap 0 (b.take (a+o))=Ap 0 (b.take a)++Ap a ((b.drop a).take o):=by rw[X15,B_,zJ,Int.zero_add]
 have f2:Ap 0 (b.take a++i)=Ap 0 (b.take a)++Ap a i:=by rw[B_,zJ,Int.zero_add]
 rw[k0,k1,k2,e2,f1,f2,length_append,length_append];have g1:Ap 0 b=Ap 0 (b.take a)++Ap a ((b.drop a).take o)++Ap ((a+o:Nat):Int) (b.drop (a+o)):=by
  conv=>lhs;rw[<-List.take_append_drop (a+o) b]
  rw[B_,f1,length_take,Nat.min_eq_left h,Int.zero_add]
 have g2:Ap 0 (Do b a o i)=Ap 0 (b.take a)++Ap a i++(Ap ((a+o:Nat):Int) (b.drop (a+o))).map (· +((i.length:Int)-o)):=by
  unfold Do;rw[B_,f2,length_append,zJ,<-Nu,show ((a+o:Nat):Int)+((i.length:Int)-o)=0+((a+i.length:Nat):Int) by omega]
 rw[g1,g2];have pp:=km (P:=Ap 0 (b.take a)) (M:=Ap a ((b.drop a).take o)) (Q:=Ap ((a+o:Nat):Int) (b.drop (a+o))) (N:=Ap a i) (n:=b.length) (n':=(Do b a o i).length) (a:=a) (o:=o) (i:=i.length) (by rw[F7 h];omega) (fun x hx=>by have:=Dt _ _ _ hx;omega) (fun x hx=>by have:=Dt _ _ _ hx;omega) AD;rw[Ci (b.drop (a+o))]at pp;refine ⟨?_,AD,AD⟩;simpa using pp
structure T5(b:List Int)(a o:Nat)(i:List Int)(first last now:Nat):Prop where
 le1:first<=last
 le2:first<=now
 ll:last<=(Ap 0 b).length
 ln:now<=(Ap 0 (Do b a o i)).length
 tail:(Ap 0 b).length-last=(Ap 0 (Do b a o i)).length-now
 fst:∀k,k<=first->Jw (Ap 0 (Do b a o i)) k=Jw (Ap 0 b) k
 rz:∀k,k<first->Nw (Ap 0 (Do b a o i)) (Do b a o i).length k=Nw (Ap 0 b) b.length k
 snd:∀k,last<k->k<=(Ap 0 b).length->Jw (Ap 0 (Do b a o i)) (k-last+now)=Jw (Ap 0 b) k+((i.length:Int)-o)
 ru:∀k,last<k->k<=(Ap 0 b).length->Nw (Ap 0 (Do b a o i)) (Do b a o i).length (k-last+now)=Nw (Ap 0 b) b.length k+((i.length:Int)-o)
 qz:∀k,k<first->Nw (Ap 0 b) b.length k<a
 jk:∀k,k<=first->Jw (Ap 0 b) k<=a
 NJ:∀k,last<k->k<=(Ap 0 b).length->(a:Int)+o+1<=Jw (Ap 0 b) k
theorem lR{a o:Nat}{i:List Int}(h:a+o<=b.length):T5 b a o i (below a (Ap 0 b)) (below ((a+o:Nat):Int) (Ap 0 b)) (below ((a+i.length:Nat):Int) (Ap 0 (Do b a o i))):=by
 obtain ⟨p,h1,h2⟩:=gA (i:=i) h;have l1:=p.len;have l2:=p.xB;have hs:=p.snd;have he:=p.ru;have hf:=p.NJ;refine ⟨h1,h2,AD,AD,AD,p.fst,p.rz,fun k hk hl=>?_,fun k hk hl=>?_,p.qz,p.jk,fun k hk hl=>?_⟩
 ·have:=hs (k-below ((a+o:Nat):Int) (Ap 0 b)-1) AD
  rwa [show below a (Ap 0 b)+(below ((a+i.length:Nat):Int) (Ap 0 (Do b a o i))-below a (Ap 0 b))+1+(k-below ((a+o:Nat):Int) (Ap 0 b)-1)=k-below ((a+o:Nat):Int) (Ap 0 b)+below ((a+i.length:Nat):Int) (Ap 0 (Do b a o i)) by omega,show below a (Ap 0 b)+(below ((a+o:Nat):Int) (Ap 0 b)-below a (Ap 0 b))+1+(k-below ((a+o:Nat):Int) (Ap 0 b)-1)=k by omega]at this
 ·have:=he (k-below ((a+o:Nat):Int) (Ap 0 b)-1) AD
  rwa [show below a (Ap 0 b)+(below ((a+i.length:Nat):Int) (Ap 0 (Do b a o i))-below a (Ap 0 b))+1+(k-below ((a+o:Nat):Int) (Ap 0 b)-1)=k-below ((a+o:Nat):Int) (Ap 0 b)+below ((a+i.length:Nat):Int) (Ap 0 (Do b a o i)) by omega,show below a (Ap 0 b)+(below ((a+o:Nat):Int) (Ap 0 b)-below a (Ap 0 b))+1+(k-below ((a+o:Nat):Int) (Ap 0 b)-1)=k by omega]at this
 ·have:=hf (k-below ((a+o:Nat):Int) (Ap 0 b)-1) AD
  rwa [show below a (Ap 0 b)+(below ((a+o:Nat):Int) (Ap 0 b)-below a (Ap 0 b))+1+(k-below ((a+o:Nat):Int) (Ap 0 b)-1)=k by omega]at this
theorem Ue{p:Int}(h0:0<=p)(h1:p<=16777216)(h2:0<=a)(h3:a<=16777216)(h4:0<=o)(h5:o<=16777216)(h6:0<=i)(h7:i<=16777216):E5 p a o i=true:=by
 unfold E5;simp only[Bool.and_eq_true,Oy];exact ⟨⟨⟨⟨h0,h1⟩,h2,h3⟩,h4,h5⟩,h6,h7⟩
structure Fv(n n' a o i:Int):Prop where
 a0:0<=a
 o0:0<=o
 ao:a+o<=n
 i0:0<=i
 n':n'=n-o+i
 nb:n<=60000
 ib:i<=60000
def rZ(a o i p:Int):Int:=if a+o<=p then p-o+i else if a<p then a+i else p
def lZ(a o i p:Int):Int:=if p<=a then p else if p<=a+o then a else p-o+i
theorem Fv.span(h:Fv n n' a o i){s:Int × Int}(hs:0<=s.1/\s.1<s.2/\s.2<=n):IK a o i s=if rZ a o i s.1<lZ a o i s.2 then some (rZ a o i s.1,lZ a o i s.2) else none:=by
 obtain ⟨h1,h2,h3,h4,h5,h6,h7⟩:=h;unfold IK CJ DB rZ lZ;rw[if_pos (Ue AD AD AD AD AD AD AD AD),if_pos (Ue AD AD AD AD AD AD AD AD)]
theorem Fv.mono(h:Fv n n' a o i){p q:Int}(hp:p<=q):rZ a o i p<=rZ a o i q:=by
 obtain ⟨h1,h2,h3,h4,h5,h6,h7⟩:=h;unfold rZ;split <;> split <;> (try split) <;> (try split) <;> omega
theorem Fv.lr(h:Fv n n' a o i)(p:Int):lZ a o i p<=rZ a o i p:=by
 obtain ⟨h1,h2,h3,h4,h5,h6,h7⟩:=h;unfold rZ lZ;split <;> split <;> (try split) <;> (try split) <;> omega
theorem Fv.MS{n n' a o i:Int}(h:Fv n n' a o i):∀(l:Qs) (e e':Int),0<=e->BJ n e l=true->e'<=rZ a o i e->BJ n' e' (Bf a o i l)=true
 |[],_,_,_,_,_=>rfl
 |s::l,e,e',h0,hg,he=>by
  unfold BJ at hg;rw[Bool.and_eq_true,decide_eq_true_iff]at hg;obtain ⟨⟨g1,g2,g3⟩,g4⟩:=hg;have mJ:=h.span (s:=s) ⟨AD,g2,g3⟩;have m1:=h.mono g1;have m2:=h.mono (show e<=s.2 by omega);have m3:=h.lr s.2;by_cases hc:rZ a o i s.1<lZ a o i s.2
  ·rw[if_pos hc]at mJ;have e1:Bf a o i (s::l)=(rZ a o i s.1,lZ a o i s.2)::Bf a o i l:=by unfold Bf;rw[List.filterMap_cons_some mJ]
   rw[e1];unfold BJ;rw[Bool.and_eq_true,decide_eq_true_iff];refine ⟨⟨AD,hc,?_⟩,Fv.MS h l s.2 _ AD g4 m3⟩;obtain ⟨h1,h2,h3,h4,h5,h6,h7⟩:=h;show lZ a o i s.2<=n'
   unfold lZ;split <;> (try split) <;> omega
  ·rw[if_neg hc]at mJ;have e1:Bf a o i (s::l)=Bf a o i l:=by unfold Bf;rw[List.filterMap_cons_none mJ]
   rw[e1];exact Fv.MS h l s.2 e' AD g4 AD
theorem Fv.any(h:Fv n n' a o i){x x':Int}(key:∀s:Int × Int,0<=s.1->s.1<s.2->s.2<=n->((rZ a o i s.1<x'/\x'<=lZ a o i s.2)↔(s.1<x/\x<=s.2))){l:Qs}(hg:BJ n 0 l=true):(Bf a o i l).any (NN x' n')=l.any (NN x n):=by
 have hm:=GE (Int.le_refl 0) hg;have one:∀s∈l,((∃r,IK a o i s=some r/\NN x' n' r=true)↔NN x n s=true):=by
  intro s hs;obtain ⟨m1,m2,m3⟩:=hm s hs;have k:=key s m1 m2 m3;rw[h.span ⟨m1,m2,m3⟩];have hl:lZ a o i s.2<=n':=by
   obtain ⟨h1,h2,h3,h4,h5,h6,h7⟩:=h;unfold lZ;split <;> (try split) <;> omega
  have hr:0<=rZ a o i s.1:=by
   obtain ⟨h1,h2,h3,h4,h5,h6,h7⟩:=h;unfold rZ;split <;> (try split) <;> omega
  by_cases hc:rZ a o i s.1<lZ a o i s.2
  ·rw[if_pos hc];unfold NN;simp only[decide_eq_true_iff];constructor
   ·rintro ⟨r,e,q1,q2,q3,q4⟩;cases e;have:=k.1 ⟨q2,q3⟩
    omega
   ·rintro ⟨q1,q2,q3,q4⟩;have:=k.2 ⟨q2,q3⟩
    exact ⟨_,rfl,AD,AD,AD,hl⟩
  ·rw[if_neg hc];unfold NN;simp only[decide_eq_true_iff];constructor
   ·rintro ⟨r,e,_⟩;cases e
   ·rintro ⟨q1,q2,q3,q4⟩;have:=k.2 ⟨q2,q3⟩
    omega
 rw[Bool.eq_iff_iff,List.any_eq_true,List.any_eq_true];constructor
 ·rintro ⟨r,hr,q⟩;obtain ⟨s,hs,e⟩:=List.mem_filterMap.1 hr;exact ⟨s,hs,(one s hs).1 ⟨r,e,q⟩⟩
 ·rintro ⟨s,hs,q⟩;obtain ⟨r,e,h1⟩:=(one s hs).2 q;exact ⟨r,List.mem_filterMap.2 ⟨s,hs,e⟩,h1⟩
theorem Fv.ahead(h:Fv n n' a o i){x:Int}(hx:x<=a){l:Qs}(hg:BJ n 0 l=true):(Bf a o i l).any (NN x n')=l.any (NN x n):=
 h.any (fun s m1 m2 m3=>by
  obtain ⟨h1,h2,h3,h4,h5,h6,h7⟩:=h;unfold rZ lZ;split <;> split <;> (try split) <;> (try split) <;> omega) hg
theorem Fv.behind(h:Fv n n' a o i){x:Int}(hx:a+o+1<=x){l:Qs}(hg:BJ n 0 l=true):(Bf a o i l).any (NN (x+(i-o)) n')=l.any (NN x n):=
 h.any (fun s m1 m2 m3=>by
  obtain ⟨h1,h2,h3,h4,h5,h6,h7⟩:=h;unfold rZ lZ;split <;> split <;> (try split) <;> (try split) <;> omega) hg
def G_{α:Type}(l m:List α)(i n:Nat):List α:=l.take i++m++l.drop (i+n)
theorem Ub{α:Type}{f f':Nat->α}{N N':Nat}(h1:first<=last)(h2:first<=now)(h3:last<=N)(h4:now<=N')(h5:N-last=N'-now)(ha:∀k,k<first->f' k=f k)(hb:∀k,last<k->k<=N->f' (k-last+now)=f k):
 (range (N'+1)).map f'=G_ ((range (N+1)).map f) ((range (now-first+1)).map fun k=>f' (first+k)) first (last-first+1):=by
 unfold G_;apply List.ext_getElem?
 intro k;by_cases hk:k<=N'
 ·rw[getElem?_map,getElem?_range AD,map_some];by_cases q1:k<first
  ·rw[append_assoc,List.getElem?_append_left (by simp only[length_map,length_range,length_take];omega),List.getElem?_take_of_lt q1,getElem?_map,getElem?_range AD,map_some,ha k q1]
  ·by_cases q2:k<=now
   ·rw[List.getElem?_append_left (by simp only[length_map,length_range,length_take,length_append];omega),getElem?_append_right (by simp only[length_map,length_range,length_take];omega)];simp only[length_map,length_range,length_take];rw[getElem?_map,getElem?_range AD,map_some,show first+(k-min first (N+1))=k by omega]
   ·rw[getElem?_append_right (by simp only[length_map,length_range,length_take,length_append];omega),getElem?_drop];simp only[length_map,length_range,length_take,length_append];rw[getElem?_map,getElem?_range AD,map_some,<-hb _ AD AD,show first+(last-first+1)+(k-(min first (N+1)+(now-first+1)))-last+now=k by omega]
 ·rw[getElem?_eq_none (by simp only[length_map,length_range];omega),getElem?_eq_none (by simp only[length_map,length_range,length_append,length_take,length_drop];omega)]
def A_(b X:List Int)(k:Nat):List Int:=Bt X (Jw (Ap 0 b) k) (Nw (Ap 0 b) b.length k)
def Co{α:Type}(T:List Int->List Int->α)(b S:List Int):List α:=(range ((Ap 0 b).length+1)).map fun k=>T (A_ b b k) (A_ b S k)
theorem Cc{α:Type}(T:List Int->List Int->α)(b S:List Int):(Co T b S).length=(Ap 0 b).length+1:=by simp[Co]
def Fq{α:Type}(T:List Int->List Int->α)(b S:List Int)(lf m:Nat):List α:=(range m).map fun k=>T (A_ b b (lf+k)) (A_ b S (lf+k))
theorem Va{α:Type}(T:List Int->List Int->α)(b S:List Int):Fq T b S 0 ((Ap 0 b).length+1)=Co T b S:=by
 unfold Fq Co;simp only[Nat.zero_add]
theorem oB{α:Type}(T:List Int->List Int->α){b S i j:List Int}{a o first last now:Nat}(h:T5 b a o i first last now)(hb:a+o<=b.length)(hS:S.length=b.length)(hj:j.length=i.length):
 Co T (Do b a o i) (Do S a o j)=G_ (Co T b S) (Fq T (Do b a o i) (Do S a o j) first (now-first+1)) first (last-first+1):=by
 have yV:=fun k hk=>(GJ b).se (k:=k) hk
 refine Ub (f:=fun k=>T (A_ b b k) (A_ b S k)) (f':=fun k=>T (A_ (Do b a o i) (Do b a o i) k) (A_ (Do b a o i) (Do S a o j) k)) h.le1 h.le2 h.ll h.ln h.tail (fun k hk=>?_) (fun k hk hl=>?_)
 ·have:=h.qz k hk
  simp only[A_];rw[h.fst k AD,h.rz k hk,SG AD AD,SG AD AD]
 ·have q1:=h.NJ k hk hl;have q2:=yV k hl;simp only[A_];rw[h.snd k hk hl,h.ru k hk hl,P8 hb AD q2 rfl,P8 AD AD q2 (by rw[hj])]
theorem jt{S S':List Int}(hl:S'.length=S.length)(h0:0<=s)(h:∀p:Nat,s<=p->(p:Int)<e->S'[p]?=S[p]?):Bt S' s e=Bt S s e:=by
 unfold Bt;apply List.ext_getElem?
 intro p;rw[getElem?_drop,getElem?_drop];by_cases hp:s.toNat+p<e.toNat
 ·rw[List.getElem?_take_of_lt hp,List.getElem?_take_of_lt hp];exact h _ AD AD
 ·rw[getElem?_eq_none (by rw[length_take];omega),getElem?_eq_none (by rw[length_take];omega)]
theorem mx{α:Type}(T:List Int->List Int->α){b S S':List Int}{f t:Int}(h0:0<=f)(qL:f<=t)(ht:t<=b.length)(hl:S'.length=S.length)(h:∀p:Nat,(p:Int)<f\/t<p->S'[p]?=S[p]?):
 Co T b S'=G_ (Co T b S) (Fq T b S' (below f (Ap 0 b)) (below t (Ap 0 b)-below f (Ap 0 b)+1)) (below f (Ap 0 b)) (below t (Ap 0 b)-below f (Ap 0 b)+1):=by
 have hF:=GJ b;have l1:=Iq (F:=Ap 0 b) (n:=b.length) h0 AD;have l2:=Iq (F:=Ap 0 b) (n:=b.length) (x:=t) AD ht;have hle:below f (Ap 0 b)<=below t (Ap 0 b):=(ED hF l1.1 AD).2 AD;have hd:∀k,k<=(Ap 0 b).length->(k<below f (Ap 0 b)\/below t (Ap 0 b)<k)->A_ b S' k=A_ b S k:=by
  intro k hk hc;refine jt hl (hF.s0 hk) (fun p p1 p2=>h p ?_);rcases hc with hc|hc
  ·have:=l1.2.2.2 k hc
   exact .inl AD
  ·have:=(ED hF hk (x:=t) AD)
   exact .inr AD
 refine Ub (f:=fun k=>T (A_ b b k) (A_ b S k)) (f':=fun k=>T (A_ b b k) (A_ b S' k)) hle hle l2.1 l2.1 rfl (fun k hk=>?_) (fun k hk hl=>?_)
 ·simp only[hd k AD (.inl hk)]
 ·rw[show k-below t (Ap 0 b)+below t (Ap 0 b)=k by omega];simp only[hd k hl (.inr hk)]
def Be(b:List Int)(F:Qs):List Bool:=(range ((Ap 0 b).length+1)).map fun k:Nat=>Gz (Ap 0 b) b.length (k:Int) F
def Gr(T:Qs)(on:Bool)(H:List Bool):List Bool:=(range H.length).map fun k:Nat=>if C9 T (k:Int) then on else H.getD k false
theorem CI(T:Qs)(on:Bool)(H:List Bool):(Gr T on H).length=H.length:=by simp[Gr]
theorem BT(b:List Int)(F:Qs):(Be b F).length=(Ap 0 b).length+1:=by simp[Be]
theorem Hc(b:List Int)(F:Qs){k:Nat}(h:k<=(Ap 0 b).length):(Be b F).getD k false=Gz (Ap 0 b) b.length k F:=by
 unfold Be;rw[getD_eq_getElem?_getD,getElem?_map,getElem?_range AD];rfl
theorem I9{on:Bool}(h:k<H.length):(Gr T on H).getD k false=if C9 T (k:Int) then on else H.getD k false:=by
 unfold Gr;rw[getD_eq_getElem?_getD,getElem?_map,getElem?_range h];rfl
theorem KI{G:List Bool}(hl:H.length=G.length)(h:∀k,k<H.length->H.getD k false=G.getD k false):H=G:=by
 apply List.ext_getElem hl
 intro k k1 k2;have:=h k k1
 simpa[getD_eq_getElem?_getD,k1,k2] using this
theorem ct{l T1 T2:Qs}(h1:∀y,C9 T1 y=(Gz (Ap 0 b) b.length y m && !Gz (Ap 0 b) b.length y l))(h2:∀y,C9 T2 y=(Gz (Ap 0 b) b.length y l && !Gz (Ap 0 b) b.length y m)):Gr T2 true (Gr T1 false (Be b m))=Be b l:=by
 have hl:(Gr T2 true (Gr T1 false (Be b m))).length=(Ap 0 b).length+1:=by rw[CI,CI,BT]
 refine KI (by rw[hl,BT]) (fun k hk=>?_);rw[hl]at hk;rw[I9 (by rw[CI,BT];exact hk),I9 (by rw[BT];exact hk),Hc b m AD,Hc b l AD,h1,h2];cases Gz (Ap 0 b) b.length k m <;> cases Gz (Ap 0 b) b.length k l <;> rfl
theorem ou{i:List Int}{a o:Nat}(h:T5 b a o i first last now)(hb:a+o<=b.length)(hg:BJ b.length 0 m=true)(nb:b.length<=60000)(ib:i.length<=60000)
 (hT:∀y,C9 T y=(decide ((first:Int)<=y/\y<=now) && Gz (Ap 0 (Do b a o i)) (Do b a o i).length y (Bf a o i.length m))):
 Gr T true (G_ (Be b m) (replicate (now-first+1) false) first (last-first+1))=Be (Do b a o i) (Bf a o i.length m):=by
 have E:Fv b.length (Do b a o i).length a o i.length:=⟨AD,AD,AD,AD,by rw[F7 hb];omega,AD,AD⟩;have q1:=h.le1;have q2:=h.le2;have q3:=h.ll;have q4:=h.ln;have q5:=h.tail;have hl:(G_ (Be b m) (replicate (now-first+1) false) first (last-first+1)).length=(Ap 0 (Do b a o i)).length+1:=by
  unfold G_;simp only[length_append,length_take,length_drop,length_replicate,BT];omega
 refine KI (by rw[CI,hl,BT]) (fun k hk=>?_);rw[CI,hl]at hk;rw[I9 (by rw[hl];exact hk),Hc _ _ AD,hT];by_cases c1:k<first
 ·have e1:(G_ (Be b m) (replicate (now-first+1) false) first (last-first+1)).getD k false=(Be b m).getD k false:=by
   unfold G_;rw[append_assoc,getD_eq_getElem?_getD,List.getElem?_append_left (by rw[length_take,BT];omega),List.getElem?_take_of_lt c1,<-getD_eq_getElem?_getD]
  rw[e1,Hc b m AD,decide_eq_false AD,Bool.false_and,if_neg (by decide)];rw[<-Tp (GJ b) AD,<-Tp (GJ (Do b a o i)) AD,h.fst k AD];exact (E.ahead (h.jk k AD) hg).symm
 ·by_cases c2:k<=now
  ·have e1:(G_ (Be b m) (replicate (now-first+1) false) first (last-first+1)).getD k false=false:=by
    unfold G_;rw[getD_eq_getElem?_getD,List.getElem?_append_left (by simp only[length_append,length_take,length_replicate,BT];omega),getElem?_append_right (by simp only[length_take,BT];omega),List.getElem?_replicate];split <;> rfl
   rw[e1,decide_eq_true AD,Bool.true_and];split
   ·rename_i c;rw[c]
   ·rename_i c;exact (Bool.eq_false_iff.2 c).symm
  ·obtain ⟨k',rfl⟩:∃k',k=k'-last+now:=⟨k-now+last,AD⟩;have c3:last<k':=AD;have c4:k'<=(Ap 0 b).length:=AD;have e1:(G_ (Be b m) (replicate (now-first+1) false) first (last-first+1)).getD (k'-last+now) false=(Be b m).getD k' false:=by
    unfold G_;rw[getD_eq_getElem?_getD,getElem?_append_right (by simp only[length_append,length_take,length_replicate,BT];omega),getElem?_drop,getD_eq_getElem?_getD];simp only[length_append,length_take,length_replicate,BT];rw[show first+(last-first+1)+(k'-last+now-(min first ((Ap 0 b).length+1)+(now-first+1)))=k' by omega]
   rw[e1,Hc b m AD,decide_eq_false AD,Bool.false_and,if_neg (by decide)];rw[<-Tp (GJ b) AD,<-Tp (GJ (Do b a o i)) AD,h.snd k' c3 c4];exact (E.behind (h.NJ k' c3 c4) hg).symm
def KE(w:World)(g:Nat)(most:Int)(t:Tr):Prop:=∃rv,w.heap[g]?=some (.cells #[rv,.int .i64 most] 146)/\CU w t rv
theorem KE.later{g:Nat}{most:Int}{t:Tr}(h:KE w g most t)(ha:AA w w'):KE w' g most t:=by
 obtain ⟨rv,h1,h2⟩:=h;exact ⟨rv,AB ha h1,CU.later ha h2⟩
structure Tr.Ok(t:Tr):Prop where
 fair:t.Fair
 even:t.DQ
 len:t.len<=60000
theorem XY(g:Nat)(most:Int)(t:Tr)(w:World)(h:KE w g most t):Calls prog 113 #[.pointer (some ⟨g,0,none⟩)] w fun e w'=>e=.returned (Hd t)/\AA w w':=by
 obtain ⟨rv,hg,ht⟩:=h;have HN:=AC (fun (w':World) (b:AA w w')=>CO t rv w' (ht.later b));obtain ⟨q,rfl⟩:=ht.ptr;unfold Hd at HN ⊢;have lg:=As hg;have r0:=AE hg;clear ht hg;generalize t.len=a1 at *;generalize t.nf=a2 at *;generalize t.np=a3 at *;generalize t.Ad=a4 at *;go_enter func113,ntmps113;go_wp2_with fail;have s0:(w.alloc (.cells #[.int .i64 0,.int .i64 0,.int .i64 0,.int .i64 0] 157)).heap[w.heap.size]?=some (.cells #[.int .i64 0,.int .i64 0,.int .i64 0,.int .i64 0] 157):=Ae rfl;refine (HN _ BQ).mono ?_;rintro e w2 ⟨rfl,b2⟩;have s2:=AB b2 s0;obtain ⟨r2,f2⟩:=DX s2;have aw:AA w w2:=AA.trans BQ b2;clear s0 b2 r0;go_wp2_with fail;refine bodyPost_ret (v:=.agg #[.int .i64 (a1:Int),.int .i64 (a2:Int),.int .i64 (a3:Int),.int .i64 (a4:Int)]) (by simp[results,results113,go_sem, *]) rfl ⟨rfl,?_⟩;exact BQ
theorem Ya(w:World):Calls prog 113 #[.pointer none] w fun e w'=>e=.returned (Hd .nil)/\AA w w':=by
 go_enter func113,ntmps113;go_wp2_with fail;refine bodyPost_ret (v:=Hd .nil) (by simp[results,results113,go_sem,Hd,Tr.len,Tr.nf,Tr.np,Tr.Ad]) rfl ⟨rfl,?_⟩;exact BQ
def L0(w:World)(v:Value)(t:Tr):Prop:=(v=.pointer none/\t=.nil)\/∃g most,v=.pointer (some ⟨g,0,none⟩)/\KE w g most t
theorem L0.later{t:Tr}(h:L0 w v t)(ha:AA w w'):L0 w' v t:=by
 rcases h with h|⟨g,most,e,h⟩
 ·exact .inl h
 ·exact .inr ⟨g,most,e,h.later ha⟩
theorem SA(v:Value)(t:Tr)(w:World)(h:L0 w v t):Calls prog 113 #[v] w fun e w'=>e=.returned (Hd t)/\AA w w':=by
 rcases h with ⟨rfl,rfl⟩|⟨g,most,rfl,h⟩
 ·exact Ya w
 ·exact XY g most t w h
theorem EP(v:Value)(t:Tr)(w:World)(h:L0 w v t):Calls prog 102 #[v] w fun e w'=>e=.returned (.int .i64 (t.len:Int))/\AA w w':=by
 have HN:=AC (SA v t w h);unfold Hd at HN;have f0:=xz;clear h;go_enter func102,ntmps102;go_wp2_with fail;refine HN.out.mono ?_;rintro e w2 ⟨rfl,b2⟩;go_wp2_with fail;go_ret;exact ⟨rfl,b2⟩
theorem IJ(v:Value)(t:Tr)(w:World)(h:L0 w v t):Calls prog 73 #[v] w fun e w'=>e=.returned (.int .i64 (t.nf:Int))/\AA w w':=by
 have HN:=AC (SA v t w h);unfold Hd at HN;have f0:=tG;clear h;go_enter func73,ntmps73;go_wp2_with fail;refine HN.out.mono ?_;rintro e w2 ⟨rfl,b2⟩;go_wp2_with fail;go_ret;exact ⟨rfl,b2⟩
end
end Go.Proofs.YtamhnffokoejjaaGreatDoor
