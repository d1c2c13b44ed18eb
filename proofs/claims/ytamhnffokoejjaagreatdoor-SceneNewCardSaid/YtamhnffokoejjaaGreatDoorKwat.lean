import Derived.Lib.AppendZeros
import Derived.Test.YtamhnffokoejjaaGreatDoorKwar
set_option linter.all false
set_option maxHeartbeats 3200000
set_option maxRecDepth 100000
namespace Go.Proofs.YtamhnffokoejjaaGreatDoor
open List(length_append length_nil length_take length_drop length)
open Nat(le_refl le_trans)
open Go.Proofs.Tryz
open Go.RowKit
def kE(W:World)(l:Qs)(e:Ending)(w':World):Prop:=∃v,e=.returned v/\AA W w'/\OQ 61 w' W.heap.size v l
theorem Lo(v:Value)(gc:Nat)(cb:Array Value)(l:Qs)(s:Nat)(w:World)(P:Nat->World->Prop)(Q:World->Prop)(hs:s<l.length)(hn:l.length<=100000)(hP:P 0 w)(hr:∀j x,P j x->QR x v l)
 (Q8:∀args w,(callFunc gc args).run prog w=.ok (.enter gc args) w)
 (GL:∀(j:Nat) (h:j<s) (w':World),P j w'->Calls prog gc (#[.agg #[.int .i64 l[j].1,.int .i64 l[j].2]]++cb) w' fun e Bg=>e=.returned (.bool false)/\P (j+1) Bg)
 (vz:∀w':World,P s w'->Calls prog gc (#[.agg #[.int .i64 l[s].1,.int .i64 l[s].2]]++cb) w' fun e Bg=>e=.returned (.bool true)/\Q Bg):
 Calls prog 208 #[v,.func (.func gc) #[] cb] w fun e w'=>e=.returned (.int .i64 (s:Int))/\Q w':=by
 obtain ⟨A,cap,rfl,h2⟩:=(hr 0 w hP).form;have HR:=AC hr;have TH:=AC GL;have Q13:=AC vz;have HP:=AC hP;obtain ⟨n,Lf⟩:=BZ (l.length);have HN:=AC Lf;rw[Lf]at h2 hn hs HR ⊢;clear Lf hr GL vz hP;go_enter func208,ntmps208;go_wp2_with fail;go_loopg [8] n (fun k i wr=>∃j:Nat,k=n-j/\j<=s/\i=.int .i64 j/\P j wr)
 case atStart=>exact ⟨0,AD,AD,rfl,HP.out⟩
 case round=>
  obtain ⟨j,hk,hj,rfl,hp⟩:=hrel;have lj:j<l.length:=by rw[HN.out];omega
  have BN:j<n:=AD;have q:=HR j wr hp;rw[<-HN.out]at q;obtain ⟨b,off,rfl,hb,c0,c1⟩:=q.at j lj;have tp:=AC hp;clear q hp;by_cases he:j<s
  ·have HD:=AC (TH j he wr tp.out);generalize l[j]=x at *;obtain ⟨f,t⟩:=x;simp only at c0 c1 HD
   go_wp2_with fail;refine HD.out.mono ?_;rintro e w1 ⟨rfl,p1⟩;have XV:=AC p1;clear p1;go_wp2_with fail;go_roundg (n-(j+1))
   case measure=>omega
   case rel=>exact ⟨j+1,rfl,he,by go_num,XV.out⟩
  ·obtain rfl:j=s:=AD
   have HD:=AC (Q13 wr tp.out);generalize l[j]=x at *;obtain ⟨f,t⟩:=x;simp only at c0 c1 HD
   go_wp2_with fail;refine HD.out.mono ?_;rintro e w1 ⟨rfl,p1⟩;have XV:=AC p1;clear p1;go_wp2_with fail;go_ret;exact ⟨rfl,XV.out⟩
theorem TS(v:Value)(gc:Nat)(cb:Array Value)(l:Qs)(w:World)(P:Nat->World->Prop)(hn:l.length<=100000)(hP:P 0 w)(hr:∀j x,P j x->QR x v l)
 (Q8:∀args w,(callFunc gc args).run prog w=.ok (.enter gc args) w)
 (GL:∀(j:Nat) (h:j<l.length) (w':World),P j w'->Calls prog gc (#[.agg #[.int .i64 l[j].1,.int .i64 l[j].2]]++cb) w' fun e Bg=>e=.returned (.bool false)/\P (j+1) Bg):
 Calls prog 208 #[v,.func (.func gc) #[] cb] w fun e w'=>e=.returned (.int .i64 (-1))/\P l.length w':=by
 obtain ⟨A,cap,rfl,h2⟩:=(hr 0 w hP).form;have HR:=AC hr;have TH:=AC GL;have HP:=AC hP;obtain ⟨n,Lf⟩:=BZ (l.length);have HN:=AC Lf;rw[Lf]at h2 hn HR ⊢;clear Lf hr GL hP;go_enter func208,ntmps208;go_wp2_with fail;go_loopg [8] n (fun k i wr=>∃j:Nat,k=n-j/\j<=n/\i=.int .i64 j/\P j wr)
 case atStart=>exact ⟨0,AD,AD,rfl,HP.out⟩
 case round=>
  obtain ⟨j,hk,hj,rfl,hp⟩:=hrel;have tp:=AC hp;clear hp;by_cases BN:j<n
  ·have lj:j<l.length:=by rw[HN.out];omega
   have q:=HR j wr tp.out;rw[<-HN.out]at q;obtain ⟨b,off,rfl,hb,c0,c1⟩:=q.at j lj;have HD:=AC (TH j lj wr tp.out);clear q;generalize l[j]=x at *;obtain ⟨f,t⟩:=x;simp only at c0 c1 HD
   go_wp2_with fail;refine HD.out.mono ?_;rintro e w1 ⟨rfl,p1⟩;have XV:=AC p1;clear p1;go_wp2_with fail;go_roundg (n-(j+1))
   case measure=>omega
   case rel=>exact ⟨j+1,rfl,BN,by go_num,XV.out⟩
  ·obtain rfl:j=n:=AD
   go_wp2_with fail;go_ret;exact ⟨rfl,tp.out⟩
def YS(gc:Nat)(cb:Array Value)(p:Int × Int->Bool):Prop:=∀(b1 b2:Int) (w':World),Calls prog gc (#[.agg #[.int .i64 b1,.int .i64 b2]]++cb) w' fun e Bg=>e=.returned (.bool (p (b1,b2)))/\AA w' Bg
theorem VD(v:Value)(gc:Nat)(cb:Array Value)(p:Int × Int->Bool)(l:Qs)(c:Bool)(w:World)(hc:l.any p=c)(hv:QR w v l)(hn:l.length<=100000)
 (Q8:∀args w,(callFunc gc args).run prog w=.ok (.enter gc args) w) (WD:YS gc cb p):
 Calls prog 208 #[v,.func (.func gc) #[] cb] w fun e w'=>(∃r:Int,e=.returned (.int .i64 r)/\decide (0<=r)=c)/\AA w w':=by
 cases c with
 |false=>
  refine (TS v gc cb l w (fun _ x=>AA w x) hn (AA.refl w) (fun _ x a=>hv.later a) Q8 (fun j h w' a=>?_)).mono ?_
  ·have hp:p l[j]=false:=by
    have:=List.any_eq_false.1 hc l[j] (List.getElem_mem h)
    simpa using this
   refine (WD l[j].1 l[j].2 w').mono ?_;rintro e Bg ⟨rfl,b⟩;exact ⟨by rw[hp],a.trans b⟩
  ·rintro e w' ⟨rfl,a⟩;exact ⟨⟨_,rfl,rfl⟩,a⟩
 |true=>
  have hl:l.findIdx p<l.length:=List.findIdx_lt_length_of_exists (by simpa using List.any_eq_true.1 hc);refine (Lo v gc cb l (l.findIdx p) w (fun _ x=>AA w x) (fun x=>AA w x) hl hn (AA.refl w) (fun _ x a=>hv.later a) Q8 (fun j h w' a=>?_) (fun w' a=>?_)).mono ?_
  ·have hp:p l[j]=false:=by simpa using List.not_of_lt_findIdx h
   refine (WD l[j].1 l[j].2 w').mono ?_;rintro e Bg ⟨rfl,b⟩;exact ⟨by rw[hp],a.trans b⟩
  ·have hp:p l[l.findIdx p]=true:=List.findIdx_getElem (w:=hl);refine (WD l[l.findIdx p].1 l[l.findIdx p].2 w').mono ?_;rintro e Bg ⟨rfl,b⟩;exact ⟨by rw[hp],a.trans b⟩
  ·rintro e w' ⟨rfl,a⟩;exact ⟨⟨_,rfl,decide_eq_true AD⟩,a⟩
theorem Hm(v:Value)(gc:Nat)(cb:Array Value)(p:Int × Int->Bool)(l:Qs)(c:Bool)(w:World)(hc:l.any p=c)(hv:QR w v l)(hn:l.length<=100000)
 (Q8:∀args w,(callFunc gc args).run prog w=.ok (.enter gc args) w) (WD:YS gc cb p):
 Calls prog 220 #[v,.func (.func gc) #[] cb] w fun e w'=>e=.returned (.bool c)/\AA w w':=by
 have HX:=AC (VD v gc cb p l c w hc hv hn Q8 WD);clear hv WD hc Q8;go_enter func220,ntmps220;go_wp2_with fail;refine HX.out.mono ?_;rintro e w1 ⟨⟨r,rfl,hr⟩,AJ⟩;have HB:=AC hr;clear hr;go_wp2_with fail;go_ret;exact ⟨Am HB.out,AJ⟩
theorem Uv(v:Value)(l:Qs)(w:World)(hv:QR w v l)(hl:l.length<=190000):Calls prog 275 #[v] w (kE w l):=by
 obtain ⟨u,w2,q1,q2,q3⟩:=aL B8 hv hl;have K1:=AC q1;have K2:=AC (And.intro q2 q3);obtain ⟨A,cap,rfl,h2,h3⟩:=hv;have hq:=fun (w:World) (n:Nat)=>Lib.run_eql_slice_nil (P:=prog) w 84 61 A n cap 0 0 underlying84
 cases A with
 |none=>
  have h0:l=[]:=by
   cases l with
   |nil=>rfl
   |cons x t=>obtain ⟨b,off,e,_⟩:=h3 Ar;cases e
  subst h0;clear q1 q2 q3 h2 h3 K1 K2;go_enter func275,ntmps275;go_wp2_with fail;go_ret;exact ⟨_,rfl,AA.refl _,OQ.nil _ _ _⟩
 |some ad=>
  clear q1 q2 q3 h2 h3;generalize l.length=n at *;go_enter func275,ntmps275;go_wp2_with (at_builtin;refine Lib.wpList_append_run _ rfl _ _ _ _ rfl _ _ rfl rfl _ _ K1.out ?_)
  go_ret;exact ⟨_,rfl,K2.out⟩
theorem em(w:World)(n:Nat)(h0:0<n)(hn:n<=300000):
 ∃g cap w2,(Builtin.append_ #[84,3] 84 #[.slice none 0 0,.int .i64 (n:Int)]).run prog w=.ok (.slice (some ⟨g,0,none⟩) n cap) w2/\AA w w2/\OQ 61 w2 w.heap.size (.slice (some ⟨g,0,none⟩) 0 cap) []:=by
 obtain ⟨i0,Gv,JM,Ie,JN⟩:=info_parts B8.info;have JY:=grownCap_ge w n 0 61;have Ls:=grownCap_le_maxLen w n 0 61 (by unfold maxLen;omega);refine ⟨_,_,_,Lib.run_append_nil_zeros (P:=prog) w 84 3 84 61 i0 (.agg #[.int .i64 0,.int .i64 0]) .i64 .i64 underlying84 AY Gv JM n h0 (by rw[Ie];decide) AD (by rw[JN];omega),?_,rfl,.inr ⟨w.heap.size,_,_,rfl,le_refl _,Ae rfl,Nat.zero_le _,Ls,?_,rfl⟩⟩
 ·exact (((AA.refl w).drewN 1).alloc _)
 ·rw[Array.size_append,size_zeroCells,size_zeroCells];show n*2+(grownCap w n 0 61-n)*2=_
  omega
theorem Wa(w:World):Calls prog 276 #[.slice none 0 0,.int .i64 0] w (kE w []):=by
 go_enter func276,ntmps276;go_wp2_with fail;go_ret;exact ⟨_,rfl,AA.refl _,OQ.nil _ _ _⟩
theorem Vw(n:Nat)(w:World)(h0:0<n)(hn:n<=300000):Calls prog 276 #[.slice none 0 0,.int .i64 n] w (kE w []):=by
 obtain ⟨g,cap,w2,k1,k2,k3⟩:=em w n h0 hn;have K1:=AC k1;have HB:=AC (And.intro k2 k3);clear k1 k2 k3;go_enter func276,ntmps276;go_wp2_with (at_builtin;refine Lib.wpList_append_run _ rfl _ _ _ _ rfl _ _ rfl rfl _ _ K1.out ?_)
 go_ret;exact ⟨_,rfl,HB.out⟩
theorem ZR(n:Int)(w:World)(h0:0<=n)(hn:n<=300000):Calls prog 276 #[.slice none 0 0,.int .i64 n] w (kE w []):=by
 obtain ⟨N,rfl⟩:=Int.eq_ofNat_of_zero_le h0;rcases Nat.eq_zero_or_pos N with rfl|hp
 ·exact Wa w
 ·exact Vw N w hp AD
theorem Vu(g:Nat)(v1 v2 v3:Value)(a b c:Qs)(w:World)(hg:g<w.heap.size)(c1:w.cell? ⟨g,0,none⟩=some v1)(c2:w.cell? ⟨g,1,none⟩=some v2)(c3:w.cell? ⟨g,2,none⟩=some v3)(h1:QR w v1 a)(h2:QR w v2 b)(h3:QR w v3 c)(hs:a.length+b.length+c.length<=90000):
 Calls prog 256 #[.slice (some ⟨g,0,none⟩) 3 3] w (kE w (a++b++c)):=by
 have H1:=AC h1;have H2:=AC h2;have H3:=AC h3;obtain ⟨A1,q1,rfl,_,_⟩:=h1;obtain ⟨A2,q2,rfl,_,_⟩:=h2;obtain ⟨A3,q3,rfl,_,_⟩:=h3;have Q6:=AC c1;have Hw:=AC c2;have ul:=AC c3;have HG:=AC (fun n w=>ZR n w);have s1:a.length<=90000:=AD;have s2:b.length<=90000:=AD;have s3:c.length<=90000:=AD;go_enter func256,ntmps256;go_wp2_with fail;refine wp_loop_rounds 4 ?_;rw[rounds_succ];go_wp2_with fail;rw[rounds_succ];go_wp2_with fail;rw[rounds_succ];go_wp2_with fail;rw[rounds_succ];go_wp2_with fail;refine (HG _ _ AD AD).mono ?_;rintro e w1 ⟨x1,rfl,b1,o1⟩;have El:=AC (And.intro b1 o1);clear b1 o1 c1 c2 c3;obtain ⟨A9,q9,rfl,_,_⟩:=OQ.rq El.out.2;go_wp2_with fail;refine wp_loop_rounds 4 ?_;rw[rounds_succ];have c1:w1.cell? ⟨g,0,none⟩=some (.slice A1 a.length q1):=(El.out.1.below.cell hg).trans Q6.out;obtain ⟨x2,w2,k1,k2,k3⟩:=OZ B8 El.out.2 (H1.out.later El.out.1) El.out.1.below.size (by simp only[length_append,length_nil];omega);have K1:=AC k1;have FA:=AC (And.intro (OQ.grown El.out.2 (le_refl _) El.out.1 k3) k2);clear k1 k2 k3;go_wp2_with (at_builtin;refine Lib.wpList_append_run _ rfl _ _ _ _ rfl _ _ rfl rfl _ _ K1.out ?_)
 rw[rounds_succ];have c2:w2.cell? ⟨g,1,none⟩=some (.slice A2 b.length q2):=(FA.out.1.below.cell hg).trans Hw.out;obtain ⟨x3,w3,k1,k2,k3⟩:=OZ B8 FA.out.2 (H2.out.later FA.out.1) FA.out.1.below.size (by simp only[length_append,length_nil];omega);have K2:=AC k1;have Fw:=AC (And.intro (OQ.grown FA.out.2 (le_refl _) FA.out.1 k3) k2);clear k1 k2 k3;go_wp2_with (at_builtin;refine Lib.wpList_append_run _ rfl _ _ _ _ rfl _ _ rfl rfl _ _ K2.out ?_)
 rw[rounds_succ];have c3:w3.cell? ⟨g,2,none⟩=some (.slice A3 c.length q3):=(Fw.out.1.below.cell hg).trans ul.out;obtain ⟨x4,w4,k1,k2,k3⟩:=OZ B8 Fw.out.2 (H3.out.later Fw.out.1) Fw.out.1.below.size (by simp only[length_append,length_nil];omega);have K3:=AC k1;have Y7:=AC (And.intro (OQ.grown Fw.out.2 (le_refl _) Fw.out.1 k3) k2);clear k1 k2 k3;go_wp2_with (at_builtin;refine Lib.wpList_append_run _ rfl _ _ _ _ rfl _ _ rfl rfl _ _ K3.out ?_)
 rw[rounds_succ];go_wp2_with fail;go_ret;exact ⟨_,rfl,Y7.out⟩
section
variable {B:Nat}
theorem OQ.block{t:TypeId}{w:World}{B:Nat}{v:Value}{l:Qs}(h:OQ t w B v l)(h0:0<l.length):∃g cap,v=.slice (some ⟨g,0,none⟩) l.length cap/\B<=g:=by
 rcases h.2 with ⟨_,e⟩|⟨g,cap,cur,e,h2,_⟩
 ·omega
 ·exact ⟨g,cap,e,h2⟩
def C_(W:World)(l:Qs)(v:Value)(w:World):Prop:=∃T:Ht,CD W.heap.size T v w/\T.hs=l/\T.Cd/\T.Ad=I0 l.length/\T.CW.Nodup/\∀b∈T.CW,W.heap.size<=b
theorem C_.wide{W V:World}{l:Qs}{v:Value}{w:World}(s:C_ W l v w)(h:V.heap.size<=W.heap.size):C_ V l v w:=by
 obtain ⟨T,h1,h2,h3,h4,h5,h6⟩:=s;exact ⟨T,h1.mono h,h2,h3,h4,h5,fun b hb=>le_trans h (h6 b hb)⟩
theorem N8(A:Option Addr)(cap:Nat)(w:World):Calls prog 255 #[.slice A 0 cap] w (Gd (C_ w []) w):=by
 have HB:Hid (C_ w [] (.pointer none) w):=AC ⟨.nil,JA (le_refl _),rfl,Ht.Cd.nil,by rw[show ([]:Qs).length=0 from rfl,I0];rfl,List.nodup_nil,fun b hb=>by cases hb⟩;go_enter func255,ntmps255;go_wp2_with fail;go_ret;exact ⟨_,rfl,AA.refl _,HB.out⟩
theorem Vb(v:Value)(l:Qs)(w:World)(hv:QR w v l)(h0:0<l.length)(hl:l.length<=32)(hT:D8 l):Calls prog 255 #[v] w (Gd (C_ w l) w):=by
 have HC:=AC (Uv v l w hv AD);have HN:=AC (fun (w':World) (u:Value) (o:OQ 61 w' w.heap.size u l)=>Xa u l w' (OQ.rq o) AD hT);have HE:Hid (∀(w1 w2:World) (u:Value) (g:Nat),OQ 61 w1 w.heap.size u l->AA w w1->w1.heap.size<=g->AA w1 w2->w2.heap[g]?=some (.cells #[.pointer none,.pointer none,u,.int .i64 (l.length:Int),.int .i64 (DL l),.int .i64 (DG l),.int .i64 1] 249)->C_ w l (.pointer (some ⟨g,0,none⟩)) w2):=AC (fun w1 w2 u g o a0 fV a hg=>by
  obtain ⟨b,cap,rfl,hb⟩:=OQ.block o h0;exact ⟨.leaf b l,⟨(a0.trans a).below.size,_,⟨g,cap,rfl,rfl,hg,OQ.wide (Nat.zero_le _) (OQ.later a o)⟩,fun x hx=>by
   rcases List.mem_cons.1 hx with rfl|hx
   ·exact le_trans a0.below.size fV
   ·obtain rfl:x=b:=by simpa using hx
    exact hb⟩,rfl,⟨trivial,h0⟩,(JF h0 hl).symm,by simp[Ht.CW],fun x hx=>by
   obtain rfl:x=b:=by simpa[Ht.CW] using hx
   exact hb⟩)
 obtain ⟨A,cap,rfl,-⟩:=hv.form;have HL:Hid (∀u w1,OQ 61 w1 w.heap.size u l->∃A cap,u=.slice A l.length cap):=AC (fun u w1 o=>by obtain ⟨A,cap,e,_⟩:=OQ.form o;exact ⟨A,cap,e⟩);have h1:((l.length:Int) == 0)=false:=by simp;intro h;rw[h]at h0;simp at h0
 have h2:(l.length:Int)<=32:=AD;clear hv hT;generalize l.length=n at *;go_enter func255,ntmps255;go_wp2_with fail;refine HC.out.mono ?_;rintro e w1 ⟨u,rfl,b1,o1⟩;have HO:=AC (And.intro b1 o1);clear b1 o1;obtain ⟨A2,BP,rfl⟩:=HL u w1 HO.out.2;go_wp2_with fail;refine (HN w1 _ HO.out.2).mono ?_;rintro e w2 ⟨g,rfl,fV,b2,hg⟩;have HG:=AC (And.intro (HO.out.1.trans b2) (HE w1 w2 _ g HO.out.2 HO.out.1 fV b2 hg));clear b2 hg fV;go_wp2_with fail;go_ret;exact ⟨_,rfl,HG.out.1,HG.out.2⟩
def TX(W:World)(a b:Qs)(x y:Value)(w:World):Prop:=∃S T:Ht,CD W.heap.size S x w/\CD W.heap.size T y w/\S.hs=a/\T.hs=b/\S.Cd/\T.Cd/\S.Ad=I0 a.length/\T.Ad=I0 b.length/\(S.CW++T.CW).Nodup/\∀b∈S.CW++T.CW,W.heap.size<=b
theorem bF{W w w':World}{a b:Qs}{x y:Value}(hW:AA W w)(h:C_ W a x w)(k:C_ w b y w')(hl:AA w w'):TX W a b x y w':=by
 obtain ⟨S,h1,h2,h3,h4,h5,h6⟩:=h;obtain ⟨T,k1,k2,k3,k4,k5,k6⟩:=k;refine ⟨S,T,AV hl h1,k1.mono hW.below.size,h2,k2,h3,k3,h4,k4,?_,?_⟩
 ·refine List.nodup_append.2 ⟨h5,k5,fun p hp q hq e=>?_⟩;obtain ⟨_,F,hF,_⟩:=h1;have q1:=As (hF.rows p hp).2.choose_spec;have q2:=k6 q hq;omega
 ·intro p hp;rcases List.mem_append.1 hp with hp|hp
  ·exact h6 p hp
  ·exact le_trans hW.below.size (k6 p hp)
def stB(W:World)(a b:Qs):Nat->(Nat->Value)->World->Prop
 |0,_,_=>True
 |1,g,x=>C_ W a (g 3) x
 |2,g,x=>TX W a b (g 3) (g 7) x
 |_,g,x=>C_ W (a++b) (g 8) x
def aM(n:Nat):Prop:=∀(v:Value) (l:Qs) (w:World),l.length<=n->QR w v l->l.length<=90000->D8 l->Calls prog 255 #[v] w (Gd (C_ w l) w)
theorem V2(N:Nat)(ih:aM N)(v:Value)(l:Qs)(w:World)(hN:l.length<=N+1)(hv:QR w v l)(h0:32<l.length)(hl:l.length<=90000)(hT:D8 l):Calls prog 255 #[v] w (Gd (C_ w l) w):=by
 obtain ⟨h,hh⟩:=BZ (l.length/2);have lt:(l.take h).length=h:=by rw[length_take];omega
 have ld:(l.drop h).length=l.length-h:=length_drop;have uf:l.take h++l.drop h=l:=List.take_append_drop ..;obtain ⟨A1,Cg,q1,k1⟩:=hv.Sk B8 h AD;obtain ⟨u2,q2,k2⟩:=hv.jp B8 h AD;have El:=AC (fun (w':World) (a:AA w w')=>ih (.slice A1 h Cg) (l.take h) w' AD (q1.later a) AD (hT.take h));have FA:=AC (fun (w':World) (a:AA w w')=>ih u2 (l.drop h) w' AD (q2.later a) AD (hT.drop h));have HT:Hid (∀(x:World) (u y:Value),AA w x->TX w (l.take h) (l.drop h) u y x->Calls prog 273 #[u,y] x (Gd (C_ w (l.take h++l.drop h)) x)):=AC (fun x u y a ⟨S,T,s1,t1,s2,t2,s3,t3,s4,t4,d1,d2⟩=>by
  have n1:S≠.nil:=fun e=>by rw[e]at s2;simp only[Ht.hs]at s2;rw[<-s2]at lt;simp at lt;omega
  have n2:T≠.nil:=fun e=>by rw[e]at t2;simp only[Ht.hs]at t2;rw[<-t2]at ld;simp at ld;omega
  have hb:=eP (n:=l.length);rw[hh]at hb;rw[lt]at s4;rw[ld]at t4;refine (Dd S T u y x s1 t1 ⟨⟨n1,n2,s3.2,t3.2⟩,by rw[Ht.hs,s2,t2,uf];exact hT,by rw[Ht.hs,s2,t2,uf];exact hl⟩).mono ?_;rintro e x' ⟨z,rfl,b,hz⟩;refine ⟨z,rfl,b,.node S T,hz,by rw[Ht.hs,s2,t2],⟨⟨AD,AD,s3.1,t3.1⟩,n1,n2,s3.2,t3.2⟩,?_,d1,d2⟩;rw[Ht.Ad,uf,NP h0,hh];omega)
 obtain ⟨A,cap,rfl,-⟩:=hv.form;obtain ⟨A2,BP,rfl,-⟩:=q2.form;rw[ld]at FA k2;rw[uf]at HT;have HE:=AC uf;have h1:((l.length:Int) == 0)=false:=by simp;intro h;rw[h]at h0;simp at h0
 have h2:decide ((l.length:Int)<=32)=false:=decide_eq_false AD;have h3:(l.length:Int)/2=(h:Int):=AD;clear hv hT ih q1 q2 lt ld uf h0 hN hh;generalize hn:l.length=n at *;clear hn;obtain ⟨a,ha⟩:=BZ (l.take h);obtain ⟨b,hb⟩:=BZ (l.drop h);rw[ha]at El HT HE;rw[hb]at FA HT HE;clear ha hb;go_enter func255,ntmps255;go_wp2_with fail;apply CS 9 [(3,undef),(7,undef),(8,undef)] [⟨3,10,fun _ _=>True⟩,⟨7,14,fun _ _=>True⟩,⟨8,15,fun _ _=>True⟩] (AA w) (stB w a b) AY AY AY Ar AY (AA.refl w).drew (fun _=>trivial)
 case hlex=>
  intro U hU;simp only[actFrom,actOp,List.lookup,Nat.reduceBEq,Nat.reduceLeDiff,Nat.reduceAdd,if_false,if_true]
  repeat (go_big_quiet_step (fail))
  exact wpQuiet_nil rfl
 case hact=>
  intro i hi o ho;have PA:i=0\/i=1\/i=2:=by simp at hi;omega
  rcases PA with rfl|rfl|rfl
  ·cases ho;refine ⟨rfl,fun g x hC hS=>?_⟩;refine Bp ?_;refine AO ?_ ((El x hC).mono fun e x' ⟨u,h1,h2,h3⟩=>⟨u,h1,hC.trans h2,.inl ⟨_,List.mem_of_getElem? (i:=0) rfl,rfl⟩,h3.wide hC.below.size⟩);simp[go_sem,execOp]
  ·cases ho;refine ⟨rfl,fun g x hC hS=>?_⟩;have D9:C_ w a (g 3) x:=hS;refine Bp ?_;refine AO ?_ ((FA x hC).mono fun e x' ⟨u,h1,h2,h3⟩=>⟨u,h1,hC.trans h2,.inl ⟨_,List.mem_of_getElem? (i:=1) rfl,rfl⟩,bF hC D9 h3 h2⟩);simp[go_sem,execOp]
  ·cases ho;refine ⟨rfl,fun g x hC hS=>?_⟩;have D9:TX w a b (g 3) (g 7) x:=hS;refine Bp ?_;refine AO ?_ ((HT x (g 3) (g 7) hC D9).mono fun e x' ⟨u,h1,h2,h3⟩=>⟨u,h1,hC.trans h2,.inl ⟨_,List.mem_of_getElem? (i:=2) rfl,rfl⟩,by show C_ w (a++b) u x';rw[HE.out];exact h3⟩);simp[go_sem,execOp]
 case htail=>
  intro g x hC hS;have D9:C_ w (a++b) (g 8) x:=hS;rw[HE.out]at D9;have HZ:=AC (And.intro hC D9);clear hC hS D9;refine DH ?_;generalize g 8=u at *;go_wp2_with fail;go_ret;exact ⟨_,rfl,HZ.out.1,HZ.out.2⟩
theorem mN(n:Nat):aM n:=by
 induction n with
 |zero=>
  intro v l w hn hv hl hT;obtain rfl:=List.eq_nil_of_length_eq_zero (Nat.le_zero.1 hn)
  obtain ⟨A,cap,rfl,_⟩:=hv.form;exact N8 A cap w
 |succ n ih=>
  intro v l w hn hv hl hT;by_cases h0:l.length=0
  ·obtain rfl:=List.eq_nil_of_length_eq_zero h0
   obtain ⟨A,cap,rfl,_⟩:=hv.form;exact N8 A cap w
  ·by_cases h1:l.length<=32
   ·exact Vb v l w hv AD h1 hT
   ·exact V2 n ih v l w hn hv AD hl hT
theorem ZK(v:Value)(l:Qs)(w:World)(hv:QR w v l)(hl:l.length<=90000)(hT:D8 l):Calls prog 255 #[v] w (Gd (C_ w l) w):=mN l.length v l w (le_refl _) hv hl hT
end
section
variable {B:Nat}
def Ra(B:Nat)(t:Ht)(l:Qs)(swap:Bool)(w:World)(e:Ending)(w':World):Prop:=∃u s,e=.returned (.tuple (if swap then #[s,u] else #[u,s]))/\AA w w'/\CD B t u w'/\QR w' s l
def Tk(B:Nat)(t:Ht):Prop:=∀(i:Nat) (v:Value) (w:World),CD B t v w->i<=t.hs.length->Calls prog 252 #[v,.int .i64 (i:Int)] w (Ra B (t.ahead i).1 (t.ahead i).2 false w)
def QU(B:Nat)(t:Ht):Prop:=∀(i:Nat) (v:Value) (w:World),CD B t v w->i<=t.hs.length->Calls prog 253 #[v,.int .i64 (i:Int)] w (Ra B (t.behind i).2 (t.behind i).1 true w)
theorem YI{w:World}(hB:B<=w.heap.size)(i:Int):Calls prog 252 #[.pointer none,.int .i64 i] w (Ra B .nil [] false w):=by
 go_enter func252,ntmps252;go_wp2_with fail;refine bodyPost_ret (v:=.tuple #[.pointer none,.slice none 0 0]) (by simp[results,results252,go_sem]) rfl ?_;exact ⟨_,_,rfl,AA.refl _,JA hB,QR.void _ _ _⟩
theorem Vy{w:World}(hB:B<=w.heap.size)(i:Int):Calls prog 253 #[.pointer none,.int .i64 i] w (Ra B .nil [] true w):=by
 go_enter func253,ntmps253;go_wp2_with fail;refine bodyPost_ret (v:=.tuple #[.slice none 0 0,.pointer none]) (by simp[results,results253,go_sem]) rfl ?_;exact ⟨_,_,rfl,AA.refl _,JA hB,QR.void _ _ _⟩
theorem WK(b:Nat)(l:Qs)(i:Nat)(v:Value)(w:World)(h:CD B (.leaf b l) v w)(hi:i<=l.length):Calls prog 252 #[v,.int .i64 (i:Int)] w (Ra B .nil (l.take i) false w):=by
 have hB:=h.1;obtain ⟨k,cap,rfl,hk,ho⟩:=h.leaf;obtain ⟨A1,Cg,q1,k1⟩:=(OQ.rq ho).Sk B8 i hi;have HQ:=AC q1;unfold Bm at hk;have r0:=AE hk;clear hk ho q1;generalize l.take i=m at *;generalize l.length=n at *;go_enter func252,ntmps252;go_wp2_with fail
 go_quiet (fail)
 go_wp2_with fail;refine bodyPost_ret (v:=.tuple #[.pointer none,.slice A1 i Cg]) (by simp[results,results252,go_sem]) rfl ?_;exact ⟨_,_,rfl,(AA.refl _).drewN _,JA hB,HQ.out.later ((AA.refl _).drewN _)⟩
theorem Tg(b:Nat)(l:Qs)(i:Nat)(v:Value)(w:World)(h:CD B (.leaf b l) v w)(hi:i<=l.length):Calls prog 253 #[v,.int .i64 (i:Int)] w (Ra B .nil (l.drop i) true w):=by
 have hB:=h.1;obtain ⟨k,cap,rfl,hk,ho⟩:=h.leaf;obtain ⟨u1,q1,k1⟩:=(OQ.rq ho).jp B8 i hi;have HQ:=AC q1;obtain ⟨A1,Cg,rfl,-⟩:=q1.form;unfold Bm at hk;have r0:=AE hk;clear hk ho q1;generalize (l.drop i).length=n1 at *;generalize l.drop i=m at *;generalize l.length=n at *;go_enter func253,ntmps253;go_wp2_with fail;refine bodyPost_ret (v:=.tuple #[.slice A1 n1 Cg,.pointer none]) (by simp[results,results253,go_sem]) rfl ?_;exact ⟨_,_,rfl,AA.refl _,JA hB,HQ.out⟩
theorem VB(l r:Ht)(ih:Tk B l)(i:Nat)(v:Value)(w:World)(h:CD B (.node l r) v w)(hf:(Ht.node l r).Fit)(hi:i<=l.hs.length):Calls prog 252 #[v,.int .i64 (i:Int)] w (Ra B (l.ahead i).1 (l.ahead i).2 false w):=by
 have hm:=hf.most;rw[Ht.hs,length_append]at hm;obtain ⟨k,av,bv,rfl,na,nb,hk,ha,hb⟩:=h.node;have HJ:=AC (fun (w':World) (e:AA w w')=>ih i av w' (AV e ha) hi);obtain ⟨k1,a0,a1,a2,rfl,h1⟩:=ha.D6 na;unfold Bm at hk h1;have r0:=AE hk;have r1:=AE h1;have d2:decide ((i:Int)-(l.hs.length:Int)<=0)=true:=decide_eq_true AD;have d3: -90000<=(i:Int)-(l.hs.length:Int):=AD;clear ha hb hk h1 hf ih;generalize (l.ahead i).1=t1 at *;generalize (l.ahead i).2=m1 at *;generalize l.hs.length=n at *;go_enter func252,ntmps252;go_wp2_with fail;refine (HJ _ (AA.refl w)).mono ?_;rintro e w1 ⟨u,s,rfl,b1,p1,q1⟩;have HU:=AC (And.intro b1 (And.intro p1 q1));clear b1 p1 q1;go_wp2_with fail;refine bodyPost_ret (v:=.tuple #[u,s]) (by simp[results,results252,go_sem]) rfl ?_;exact ⟨_,_,rfl,HU.out.1,HU.out.2.1,HU.out.2.2⟩
theorem UK(l r:Ht)(ih:Tk B r)(i:Nat)(v:Value)(w:World)(h:CD B (.node l r) v w)(hf:(Ht.node l r).Fit)(fn:(Ht.node l r).Cd)(hi:¬i<=l.hs.length)(fD:i-l.hs.length<=r.hs.length):Calls prog 252 #[v,.int .i64 (i:Int)] w (Ra B (l.join (r.ahead (i-l.hs.length)).1) (r.ahead (i-l.hs.length)).2 false w):=by
 have hm:=hf.most;rw[Ht.hs,length_append]at hm;obtain ⟨k,av,bv,rfl,na,nb,hk,ha,hb⟩:=h.node;have hg:=Ht.Mh r (i-l.hs.length);have pj:(r.ahead (i-l.hs.length)).1.hs.length<=r.hs.length:=by
  have:=congrArg length hg
  rw[length_append,length_take]at this;omega
 have sK:D8 (r.ahead (i-l.hs.length)).1.hs:=by
  have:D8 (r.hs.take (i-l.hs.length)):=hf.right.Hz.take _
  rw[<-hg]at this;exact this.left
 have HJ:=AC (fun (w':World) (e:AA w w')=>ih (i-l.hs.length) bv w' (AV e hb) fD);have HK:=AC (fun (w':World) (u:Value) (e:AA w w') (hu:CD B (r.ahead (i-l.hs.length)).1 u w')=>LJ l (r.ahead (i-l.hs.length)).1 av u w' _ rfl (AV e ha) hu fn.left (Ht.Jh _ _ fn.right) hf.left.Hz sK AD);obtain ⟨k1,a0,a1,a2,rfl,h1⟩:=ha.D6 na;obtain ⟨q2,rfl⟩:=hb.ptr;unfold Bm at hk h1;have Ag:=hk;have r0:=AE hk;have r1:=AE h1;have hj:((i-l.hs.length:Nat):Int)=(i:Int)-(l.hs.length:Int):=AD;rw[hj]at HJ;have d2:decide ((i:Int)-(l.hs.length:Int)<=0)=false:=decide_eq_false AD;have d3:(i:Int)-(l.hs.length:Int)<=90000:=AD;clear ha hb h1 hf ih hj hg pj sK fn;generalize l.join (r.ahead (i-l.hs.length)).1=t1 at *;generalize (r.ahead (i-l.hs.length)).1=t2 at *;generalize (r.ahead (i-l.hs.length)).2=m1 at *;generalize l.hs.length=n at *;go_enter func252,ntmps252;go_wp2_with fail;refine (HJ _ (AA.refl w)).mono ?_;rintro e w1 ⟨u,s,rfl,AJ,p1,q1⟩;have HQ:=AC q1;have HC:=AC (HK _ _ AJ p1);obtain ⟨A5,IA,rfl,-⟩:=q1.form;have AG:=AJ;have AH:=AB AJ Ag;have B7:=AE AH;clear p1 q1 r0 r1;go_wp2_with fail;refine HC.out.mono ?_;rintro e w2 ⟨u2,rfl,b2,p2⟩;have HU:=AC (And.intro (AG.trans b2) (And.intro p2 (HQ.out.later b2)));clear b2 p2;go_wp2_with fail;refine bodyPost_ret (v:=.tuple #[u2,.slice A5 m1.length IA]) (by simp[results,results252,go_sem]) rfl ?_;exact ⟨_,_,rfl,HU.out.1,HU.out.2.1,HU.out.2.2⟩
theorem Re(l r:Ht)(ih:QU B r)(i:Nat)(v:Value)(w:World)(h:CD B (.node l r) v w)(hf:(Ht.node l r).Fit)(hi:l.hs.length<=i)(fD:i-l.hs.length<=r.hs.length):Calls prog 253 #[v,.int .i64 (i:Int)] w (Ra B (r.behind (i-l.hs.length)).2 (r.behind (i-l.hs.length)).1 true w):=by
 have hm:=hf.most;rw[Ht.hs,length_append]at hm;obtain ⟨k,av,bv,rfl,na,nb,hk,ha,hb⟩:=h.node;have HJ:=AC (fun (w':World) (e:AA w w')=>ih (i-l.hs.length) bv w' (AV e hb) fD);obtain ⟨k1,a0,a1,a2,rfl,h1⟩:=ha.D6 na;obtain ⟨q2,rfl⟩:=hb.ptr;unfold Bm at hk h1;have r0:=AE hk;have r1:=AE h1;have hj:((i-l.hs.length:Nat):Int)=(i:Int)-(l.hs.length:Int):=AD;rw[hj]at HJ;have d3:(i:Int)-(l.hs.length:Int)<=90000:=AD;clear ha hb hk h1 hf ih hj;generalize (r.behind (i-l.hs.length)).2=t1 at *;generalize (r.behind (i-l.hs.length)).1=m1 at *;generalize l.hs.length=n at *;go_enter func253,ntmps253;go_wp2_with fail;refine (HJ _ (AA.refl w)).mono ?_;rintro e w1 ⟨u,s,rfl,b1,p1,q1⟩;have HU:=AC (And.intro b1 (And.intro p1 q1));clear b1 p1 q1;go_wp2_with fail;refine bodyPost_ret (v:=.tuple #[s,u]) (by simp[results,results253,go_sem]) rfl ?_;exact ⟨_,_,rfl,HU.out.1,HU.out.2.1,HU.out.2.2⟩
theorem Tm(l r:Ht)(ih:QU B l)(i:Nat)(v:Value)(w:World)(h:CD B (.node l r) v w)(hf:(Ht.node l r).Fit)(fn:(Ht.node l r).Cd)(hi:¬l.hs.length<=i):Calls prog 253 #[v,.int .i64 (i:Int)] w (Ra B ((l.behind i).2.join r) (l.behind i).1 true w):=by
 have hm:=hf.most;rw[Ht.hs,length_append]at hm;obtain ⟨k,av,bv,rfl,na,nb,hk,ha,hb⟩:=h.node;have hg:=Ht.LE l i;have pj:(l.behind i).2.hs.length<=l.hs.length:=by
  have:=congrArg length hg
  rw[length_append,length_drop]at this;omega
 have sK:D8 (l.behind i).2.hs:=by
  have:D8 (l.hs.drop i):=hf.left.Hz.drop _
  rw[<-hg]at this;exact this.right
 have HJ:=AC (fun (w':World) (e:AA w w')=>ih i av w' (AV e ha) AD);have HK:=AC (fun (w':World) (u:Value) (e:AA w w') (hu:CD B (l.behind i).2 u w')=>LJ (l.behind i).2 r u bv w' _ rfl hu (AV e hb) (Ht.IM _ _ fn.left) fn.right sK hf.right.Hz AD);obtain ⟨k1,a0,a1,a2,rfl,h1⟩:=ha.D6 na;obtain ⟨q2,rfl⟩:=hb.ptr;unfold Bm at hk h1;have Ag:=hk;have r0:=AE hk;have r1:=AE h1;have d3: -90000<=(i:Int)-(l.hs.length:Int):=AD;clear ha hb h1 hf ih hg pj sK fn;generalize (l.behind i).2.join r=t1 at *;generalize (l.behind i).2=t2 at *;generalize (l.behind i).1=m1 at *;generalize l.hs.length=n at *;go_enter func253,ntmps253;go_wp2_with fail;refine (HJ _ (AA.refl w)).mono ?_;rintro e w1 ⟨u,s,rfl,AJ,p1,q1⟩;have HQ:=AC q1;have HC:=AC (HK _ _ AJ p1);obtain ⟨A5,IA,rfl,-⟩:=q1.form;have AG:=AJ;have AH:=AB AJ Ag;have B7:=AE AH;clear p1 q1 r0 r1;go_wp2_with fail;refine HC.out.mono ?_;rintro e w2 ⟨u2,rfl,b2,p2⟩;have HU:=AC (And.intro (AG.trans b2) (And.intro p2 (HQ.out.later b2)));clear b2 p2;go_wp2_with fail;refine bodyPost_ret (v:=.tuple #[.slice A5 m1.length IA,u2]) (by simp[results,results253,go_sem]) rfl ?_;exact ⟨_,_,rfl,HU.out.1,HU.out.2.1,HU.out.2.2⟩
theorem Tn:∀(t:Ht),t.Fit->t.Cd->Tk B t
 |.nil,_,_,i,v,w,h,hi=>by
  have hB:=h.1;obtain rfl:=h.nil
  exact YI hB i
 |.leaf b l,_,_,i,v,w,h,hi=>WK b l i v w h hi
 |.node l r,hf,fn,i,v,w,h,hi=>by
  rw[Ht.hs,length_append]at hi;unfold Ht.ahead;split
  ·rename_i hc
   exact VB l r (Tn l hf.left fn.left) i v w h hf hc
  ·rename_i hc
   exact UK l r (Tn r hf.right fn.right) i v w h hf fn hc AD
theorem QL:∀(t:Ht),t.Fit->t.Cd->QU B t
 |.nil,_,_,i,v,w,h,hi=>by
  have hB:=h.1;obtain rfl:=h.nil
  exact Vy hB i
 |.leaf b l,_,_,i,v,w,h,hi=>Tg b l i v w h hi
 |.node l r,hf,fn,i,v,w,h,hi=>by
  rw[Ht.hs,length_append]at hi;unfold Ht.behind;split
  ·rename_i hc
   exact Re l r (QL r hf.right fn.right) i v w h hf hc AD
  ·rename_i hc
   exact Tm l r (QL l hf.left fn.left) i v w h hf fn hc
structure Ht.Ok(t:Ht):Prop where
 Yx:t.Cd
 Hz:D8 t.hs
 most:t.hs.length<=45000
 rows:t.CW.Nodup
theorem Ht.Ok.fit{t:Ht}(h:t.Ok):t.Fit:=⟨h.Yx.2,h.Hz,by have:=h.most;omega⟩
def Im(B:Nat)(W:World)(t:Ht)(l:Qs)(v:Value)(w:World):Prop:=∃T:Ht,CD B T v w/\T.hs=l/\T.Cd/\T.CW.Nodup/\∀b∈T.CW,b∈t.CW\/W.heap.size<=b
theorem Kr(t:Ht)(a b:Nat)(v u:Value)(l:Qs)(w:World)(h:CD B t v w)(IO:t.Ok)(sD:a<=b)(hb:b<=t.hs.length)(hu:QR w u l)(hl:t.hs.length+l.length<=80000)(hT:D8 l):
 Calls prog 222 #[v,.int .i64 (a:Int),.int .i64 (b:Int),u] w (Gd (Im B w t (t.hs.take a++l++t.hs.drop b)) w):=by
 have HA:=AC (Tn t IO.fit IO.Yx a v w h AD);have HB:=AC (fun (w':World) (e:AA w w')=>QL t IO.fit IO.Yx b v w' (AV e h) hb);have yg:=Ht.Mh t a;have Iz:=Ht.LE t b;have uW:=Ht.Jh t a IO.Yx;have Hr:=Ht.IM t b IO.Yx;have hbk:=Ht.MD t a b sD;have sr:=hbk.nodup IO.rows;have la:(t.ahead a).1.hs.length+(t.ahead a).2.length=a:=by
  have:=congrArg length yg
  rw[length_append,length_take]at this;omega
 have lb:(t.behind b).1.length+(t.behind b).2.hs.length=t.hs.length-b:=by
  have:=congrArg length Iz
  rwa [length_append,length_drop]at this
 have ta:D8 ((t.ahead a).1.hs++(t.ahead a).2):=by rw[yg];exact IO.Hz.take _
 have tb:D8 ((t.behind b).1++(t.behind b).2.hs):=by rw[Iz];exact IO.Hz.drop _
 have L6:∀x,x∈(t.ahead a).1.CW\/x∈(t.behind b).2.CW->x∈t.CW:=fun x hx=>hbk.subset (List.mem_append.2 hx)
 have vh:Hid (∀x∈t.CW,x<w.heap.size):=AC (fun x hx=>by
  obtain ⟨_,F,hF,_⟩:=h;exact As (hF.rows x hx).2.choose_spec)
 have HR:Hid (t.hs.take a++l++t.hs.drop b=(t.ahead a).1.hs++((t.ahead a).2++l++(t.behind b).1)++(t.behind b).2.hs):=AC (by rw[<-yg,<-Iz];simp);generalize (t.ahead a).1=X at *;generalize (t.ahead a).2=p at *;generalize (t.behind b).1=q at *;generalize (t.behind b).2=Y at *;have Yv:=AC (fun (g:Nat) (v1 v2 v3:Value) (w':World) (hg:g<w'.heap.size) c1 c2 c3 (h1:QR w' v1 p) (h2:QR w' v2 l) (h3:QR w' v3 q)=>Vu g v1 v2 v3 p l q w' hg c1 c2 c3 h1 h2 h3 AD);have tm:D8 (p++l++q):=(ta.right.append hT).append tb.left;have lm:(p++l++q).length=p.length+l.length+q.length:=by rw[length_append,length_append]
 have HBu:=AC (fun (w':World) (z:Value) (hz:QR w' z (p++l++q))=>ZK z (p++l++q) w' hz AD tm);have HJ1:=AC (fun (w':World) (x z:Value) (M:Ht) (hx:CD B X x w') (hz:CD B M z w') (hM:M.hs=p++l++q) (fM:M.Cd)=>LJ X M x z w' _ rfl hx hz uW fM ta.left (by rw[hM];exact tm) (by rw[hM,lm];omega));have HJ2:=AC (fun (w':World) (x z:Value) (M:Ht) (hx:CD B (X.join M) x w') (hz:CD B Y z w') (hM:M.hs=p++l++q) (fM:M.Cd)=>LJ (X.join M) Y x z w' _ rfl hx hz (uW.join fM) Hr (by rw[Ht.IH,hM];exact ta.left.append tm) tb.right (by rw[Ht.IH,hM,length_append,lm];omega));have HE:Hid (∀(w1 w':World) (M:Ht) (z:Value),AA w w1->CD B ((X.join M).join Y) z w'->M.hs=p++l++q->M.Cd->M.CW.Nodup->(∀x∈M.CW,w1.heap.size<=x)->Im B w t (t.hs.take a++l++t.hs.drop b) z w'):=AC (fun w1 w' M z e hz hM fM nM bM=>by
  refine ⟨_,hz,?_,(uW.join fM).join Hr,?_,fun x hx=>?_⟩
  ·rw[Ht.IH,Ht.IH,hM,HR.out]
  ·rw[Ht.GX,Ht.GX];obtain ⟨n1,n2,n3⟩:=List.nodup_append.1 sr;have old:∀x,x∈X.CW\/x∈Y.CW->∀y∈M.CW,x≠y:=fun x hx y hy e2=>by
    have q1:=vh x (L6 x hx);have q2:=bM y hy;have q3:=e.below.size;omega
   refine List.nodup_append.2 ⟨List.nodup_append.2 ⟨n1,nM,fun x hx y hy=>old x (.inl hx) y hy⟩,n2,fun x hx y hy=>?_⟩;rcases List.mem_append.1 hx with hx|hx
   ·exact n3 x hx y hy
   ·exact fun e2=>old y (.inr hy) x hx e2.symm
  ·rw[Ht.GX,Ht.GX]at hx;rcases List.mem_append.1 hx with hx|hx
   ·rcases List.mem_append.1 hx with hx|hx
    ·exact .inl (L6 x (.inl hx))
    ·exact .inr (le_trans e.below.size (bM x hx))
   ·exact .inl (L6 x (.inr hx)))
 have HU:=AC hu;have HBs:=AC h.1;obtain ⟨q0,rfl⟩:=h.ptr;obtain ⟨A0,Td,rfl,-⟩:=hu.form;clear h IO hbk sr la lb ta tb L6 HR yg Iz uW Hr tm lm hu hT;generalize t.hs.take a++l++t.hs.drop b=R at *;generalize p++l++q=pm at *;generalize l.length=nl at *;go_enter func222,ntmps222;go_wp2_with fail;refine HA.out.mono ?_;rintro e w1 ⟨x1,s1,rfl,AJ,p1,q1⟩;have H1:=AC (And.intro AJ (And.intro p1 q1));obtain ⟨q4,rfl⟩:=p1.ptr;obtain ⟨A1,Cg,rfl,-⟩:=q1.form;clear AJ p1 q1;go_wp2_with fail;refine (HB _ H1.out.1).mono ?_;rintro e w2 ⟨x2,s2,rfl,AL,p2,q2⟩;have H2:=AC (And.intro (H1.out.1.trans AL) (And.intro p2 q2));have H1:=AC (And.intro (AV AL H1.out.2.1) (H1.out.2.2.later AL));obtain ⟨q5,rfl⟩:=p2.ptr;obtain ⟨A2,BP,rfl,-⟩:=q2.form;have AR:=H2.out.1;clear AL p2 q2;go_wp2_with fail;refine AQ (fun wS=>AA w2 wS/\wS.heap[w2.heap.size]?=some (.cells #[.slice A1 p.length Cg,.slice A0 nl Td,.slice A2 q.length BP] 84)) ⟨BQ,CG⟩ ?_;rintro w3 ⟨AX,Ah⟩;have An:=AR.trans AX;obtain ⟨CB,Jv⟩:=Rn Ah;refine (Yv w2.heap.size _ _ _ w3 Jv (by rw[CB];rfl) (by rw[CB];rfl) (by rw[CB];rfl) (H1.out.2.later AX) (HU.out.later An) (H2.out.2.2.later AX)).mono ?_;rintro e w4 ⟨x4,rfl,Ao,o4⟩;have H4:=AC (And.intro (An.trans Ao) (And.intro (AX.trans Ao) o4));obtain ⟨A4,Kq,rfl,-⟩:=OQ.form o4;clear o4 Ao;go_wp2_with fail;refine (HBu w4 _ (OQ.rq H4.out.2.2)).mono ?_;rintro e w5 ⟨x5,rfl,Bd,p5⟩;obtain ⟨M,hM,e1,e2,-,e3,e4⟩:=p5;have hM:=hM.mono (le_trans HBs H4.out.1.below.size);have H5:=AC (And.intro e1 (And.intro e2 (And.intro e3 e4)));obtain ⟨q6,rfl⟩:=hM.ptr;have HC5:=AC (HJ1 w5 _ _ M (AV (H4.out.2.1.trans Bd) H1.out.1) hM e1 e2);have H6:=AC (H4.out.2.1.trans Bd);have H7:=AC (H4.out.1.trans Bd);clear hM e1 e2 e3 e4 Bd;go_wp2_with fail;refine HC5.out.mono ?_;rintro e w6 ⟨x6,rfl,Ec,p6⟩;have z6:=AC (HJ2 w6 _ _ M p6 (AV (H6.out.trans Ec) H2.out.2.1) H5.out.1 H5.out.2.1);have H8:=AC (H7.out.trans Ec);clear p6 Ec;go_wp2_with fail;refine z6.out.mono ?_;rintro e w7 ⟨x7,rfl,Fp,p7⟩;have H9:=AC (And.intro (H8.out.trans Fp) (HE w4 w7 M x7 H4.out.1 p7 H5.out.1 H5.out.2.1 H5.out.2.2.1 H5.out.2.2.2));clear p7 Fp;go_wp2_with fail;go_ret;exact ⟨_,rfl,H9.out.1,H9.out.2⟩
end
end Go.Proofs.YtamhnffokoejjaaGreatDoor
