import Derived.Test.YtamhnffokoejjaaGreatDoorKwbi
import Derived.Test.YtamhnffokoejjaaGreatDoorKwan
import Derived.Test.YtamhnffokoejjaaGreatDoorKwax
set_option linter.all false
set_option maxHeartbeats 3200000
set_option maxRecDepth 100000
namespace Go.Proofs.YtamhnffokoejjaaGreatDoor
open List(replicate length_append length_take getElem_mem length_set ext_getElem? getElem?_eq_getElem getElem?_eq_none length_reverse)
open Nat(lt_or_ge le_refl)
open Go.Proofs.Tryz
open Go.RowKit
section
variable{a b r:Aa}{B cap g i j:Nat}{L l:Qs}{v:Value}{w:World}
theorem ma(x:Int)(w:World):Calls prog 246 #[.int .i64 x] w fun e w'=>e=.returned (.bool false)/\w=w':=by
 go_enter func246,ntmps246
 go_wp2
 go_ret;exact ⟨Am Ar,rfl⟩
theorem mc(x:Int)(w:World):Calls prog 206 #[.int .i64 x] w fun e w'=>e=.returned (.bool false)/\w=w':=by
 go_enter func206,ntmps206
 go_wp2
 go_ret;exact ⟨Am Ar,rfl⟩
theorem dr(x y:Int)(c:Bool)(hc:decide (x<y)=c)(w:World):Calls prog 205 #[.int .i64 x,.int .i64 y] w fun e w'=>e=.returned (.bool c)/\w=w':=by
 have HN:=AC ma;have HC:=AC hc;clear hc;go_enter func205,ntmps205;go_wp2_with (go_at_call 246;refine (HN _ _).mono ?_;rintro e w' ⟨rfl,rfl⟩)
 go_ret;exact ⟨Am (by rw[<-HC.out]),rfl⟩
theorem UI(b off n cap:Nat)(g:Nat->Int)(x:Int)(w:World)(hb:b<w.heap.size)(OW:∀t,t<n->w.cell? ⟨b,off+t,none⟩=some (.int .i64 (g t)))(hs:∀t u,t<u->u<n->g t<g u)(hn:n<=90000):
 Calls prog 163 #[.slice (some ⟨b,off,none⟩) n cap,.int .i64 x] w fun e w'=>(∃(k:Nat) (c:Bool),e=.returned (.tuple #[.int .i64 (k:Int),.bool c])/\k<=n/\(∀t,t<k->g t<x)/\(k<n->x<=g k))/\AA w w':=by
 have HN:=AC mc;have vX:=AC dr;have HS:=AC hs;have HC:=AC OW;clear hs OW;go_enter func163,ntmps163;go_wp2_with fail;go_loopg [7,8] n (fun kk iv jv wr=>AA w wr/\∃i j:Nat,kk=j-i/\i<=j/\j<=n/\iv=.int .i64 (i:Int)/\jv=.int .i64 (j:Int)/\(∀t,t<i->g t<x)/\(∀t,t<n->j<=t->x<=g t))
 case atStart=>exact ⟨AA.refl _,0,n,AD,AD,AD,rfl,rfl,fun t h=>by omega,fun t h h'=>by omega⟩
 case round=>
  obtain ⟨AW,i,j,hk,Fr,hj,rfl,rfl,q1,q2⟩:=hrel;have HA:=AC AW;have HQ:=AC (And.intro q1 q2);clear q1 q2 AW;by_cases BN:i<j
  ·have d0:(i:Int)<(j:Int):=AD;obtain ⟨h,hh⟩:=BZ ((i+j)/2);have hi:i<=h/\h<j:=AD;have c0:wr.cell? ⟨b,off+h,none⟩=some (.int .i64 (g h)):=(HA.out.below.cell hb).trans (HC h AD);by_cases hc:g h<x
   ·have HL:=AC (vX (g h) x true (by simpa using hc));go_wp2_with fail;refine (HL wr).mono ?_;rintro e w' ⟨rfl,rfl⟩;go_wp2_with fail;go_roundg (j-(h+1))
    case measure=>omega
    case rel=>exact ⟨HA.out,h+1,j,rfl,AD,hj,by (congr 1;omega),rfl,fun t ht=>by
     rcases lt_or_ge t h with h1|h1
     ·have:=HS t h h1 AD;omega
     ·obtain rfl:t=h:=AD
      exact hc,HQ.out.2⟩
   ·have HL:=AC (vX (g h) x false (by simpa using hc));go_wp2_with fail;refine (HL wr).mono ?_;rintro e w' ⟨rfl,rfl⟩;go_wp2_with fail;go_roundg (h-i)
    case measure=>omega
    case rel=>exact ⟨HA.out,i,h,rfl,AD,AD,rfl,by (congr 1;omega),HQ.out.1,fun t ht h1=>by
     rcases lt_or_ge h t with h2|h2
     ·have:=HS h t h2 ht;omega
     ·obtain rfl:t=h:=AD
      omega⟩
  ·obtain rfl:i=j:=AD
   have KQ:Hid (∀c:Bool,(∃(k:Nat) (c':Bool),Ending.returned (.tuple #[.int .i64 (i:Int),.bool c])=.returned (.tuple #[.int .i64 (k:Int),.bool c'])/\k<=n/\(∀t,t<k->g t<x)/\(k<n->x<=g k))/\AA w wr):=AC (fun c=>⟨⟨i,c,rfl,hj,HQ.out.1,fun h=>HQ.out.2 i h (le_refl _)⟩,HA.out⟩);by_cases hin:i<n
   ·have d0:(i:Int)<(n:Int):=AD;have c0:wr.cell? ⟨b,off+i,none⟩=some (.int .i64 (g i)):=(HA.out.below.cell hb).trans (HC i hin);clear BN hk;by_cases he:g i=x
    ·go_wp2_with fail;refine bodyPost_ret (v:=.tuple #[.int .i64 (i:Int),.bool true]) (by simp[results,results163,go_sem]) rfl ?_;exact KQ.out true
    ·have he2:(g i == x)=false:=by simpa using he
     clear he;go_wp2_with (go_at_call 206;refine (HN _ _).mono ?_;rintro e w' ⟨rfl,rfl⟩)
     refine bodyPost_ret (v:=.tuple #[.int .i64 (i:Int),.bool false]) (by simp[results,results163,go_sem]) rfl ?_;exact KQ.out false
   ·have d0:decide ((i:Int)<(n:Int))=false:=decide_eq_false AD;clear BN hk;go_wp2_with fail;refine bodyPost_ret (v:=.tuple #[.int .i64 (i:Int),.bool false]) (by simp[results,results163,go_sem]) rfl ?_;exact KQ.out false
theorem T3(A:Option Addr)(cap:Nat)(x:Int)(w:World):
 Calls prog 163 #[.slice A 0 cap,.int .i64 x] w fun e w'=>e=.returned (.tuple #[.int .i64 0,.bool false])/\AA w w':=by
 go_enter func163,ntmps163;go_wp2_with fail;refine wp_loop_rounds 1 ?_;rw[rounds_succ];go_wp2_with fail;refine bodyPost_ret (v:=.tuple #[.int .i64 0,.bool false]) (by simp[results,results163,go_sem]) rfl ⟨rfl,?_⟩;exact BQ
theorem VS(v:Value)(l:List Int)(x:Int)(w:World)(k:Nat)(hk:below x l=k)(hv:RN .i64 w v l)(hs:l.Pairwise (· < ·))(hn:l.length<=90000):
 Calls prog 163 #[v,.int .i64 x] w fun e w'=>(∃c,e=.returned (.tuple #[.int .i64 (k:Int),.bool c]))/\AA w w':=by
 subst hk;obtain ⟨A,cap,rfl,h2,h3⟩:=hv;rcases Nat.eq_zero_or_pos l.length with h0|h0
 ·obtain rfl:=List.eq_nil_of_length_eq_zero h0
  refine (T3 A cap x w).mono ?_;rintro e w' ⟨rfl,b⟩;exact ⟨⟨false,rfl⟩,b⟩
 ·obtain ⟨b,off,rfl,hb,hc⟩:=h3 h0;have MI:=List.pairwise_iff_getElem.1 hs;have hg:∀t (h:t<l.length),l.getD t 0=l[t]:=fun t h=>by simp[List.getD_eq_getElem?_getD,h]
  refine (UI b off l.length cap (fun t=>l.getD t 0) x w hb (fun t ht=>by rw[hc t ht,hg t ht]) (fun t u h1 h2=>by rw[hg t AD,hg u h2];exact MI t u _ _ h1) hn).mono ?_;rintro e w' ⟨⟨k,c,rfl,q1,q2,q3⟩,bb⟩;refine ⟨⟨c,?_⟩,bb⟩;rw[U6 q1 (fun t h ht=>by have:=q2 t ht;rwa [hg t h]at this) (fun h=>by have:=q3 h;rwa [hg k h]at this)]
def Lz(r:Aa)(j:Nat):List Int:=(Cu r).take j++replicate (r.length-j) 0
theorem Jq(h:j<=r.length):(Lz r j).length=r.length:=by
 unfold Lz;rw[length_append,length_take,Bz,List.length_replicate];omega
theorem cC(h:j<r.length):(Lz r j).set j (LG r (j+1))=Lz r (j+1):=by
 have hl:j<(Cu r).length:=by rw[Bz];exact h
 have e:(Cu r)[j]=(LG r (j+1):Int):=by simp[Cu]
 unfold Lz;rw[List.set_append_right _ _ (by rw[length_take];omega),length_take,Nat.min_eq_left AD,Nat.sub_self,show r.length-j=(r.length-(j+1))+1 by omega,List.replicate_succ,List.set_cons_zero,List.take_succ_eq_append_getElem hl,e,List.append_assoc];rfl
theorem dS(r:Aa):Lz r r.length=Cu r:=by
 unfold Lz;rw[Nat.sub_self,List.replicate_zero,List.append_nil,List.take_of_length_le (by rw[Bz];omega)]
theorem qA(n:Nat)(hn:n<=90000)(w:World):(Instr.makeSlice 42 (.int .i64 (n:Int)) (.int .i64 (n:Int))).run prog w=.ok (.slice (some ⟨w.heap.size,0,none⟩) n n) (w.alloc (.cells (madeCells #[.int .i64 0] n) 3)):=
 run_make_row' (P:=prog) 42 3 (.int .i64 0) 8 underlying42 FZ rfl .i64 .i64 n AD AD w
theorem V_(B n:Nat)(hn:n<=90000)(w:World)(hB:B<=w.heap.size):ON .i64 3 (w.alloc (.cells (madeCells #[.int .i64 0] n) 3)) B (.slice (some ⟨w.heap.size,0,none⟩) n n) (replicate n 0):=by
 have:=ON.of (B:=B) (l:=replicate n 0) (cap:=n) (cur:=madeCells #[.int .i64 0] n) hB (Ae (w:=w) rfl) Ar (by unfold maxLen;omega) (size_madeCells _ _) (fun j hj=>by
  rw[<-Array.getElem?_toList,toList_madeCells_one];rw[List.length_replicate]at hj;simp[hj])
 simpa using this
theorem O7(v:Value)(r:Aa)(w:World)(hv:FH w v r)(hf:KT r)(hn:r.length<=60000)(hl:(AM r).length<=60000):
 Calls prog 36 #[v] w fun e w'=>∃u,e=.returned (.agg #[v,u])/\AA w w'/\ON .i64 3 w' w.heap.size u (Cu r):=by
 obtain ⟨A,cap,rfl,JY,hc⟩:=hv;have HC:=AC hc;have HF:=AC hf;obtain ⟨n,Lf⟩:=BZ (r.length);have HL:=AC Lf;have Q11:=Lf;rw[Lf]at JY hn ⊢;have HM:=fun w=>qA n AD w
 clear hc hf Lf;have nz:=V_ w.heap.size n AD (w.alloc (.cells #[.slice none 0 0,.slice none 0 0] 78)) Ar;have e0:Lz r 0=replicate n 0:=by unfold Lz;rw[List.take_zero,Nat.sub_zero,Q11];rfl
 rw[<-e0]at nz;have nz:=AC nz;have HR0:Hid (((w.alloc (.cells #[.slice none 0 0,.slice none 0 0] 78)).alloc (.cells (madeCells #[.int .i64 0] n) 3)).heap[w.heap.size]?=some (.cells #[.slice none 0 0,.slice none 0 0] 78)):=AC (AB ((AA.refl _).alloc _) (Ae rfl));have LY:=AC (((AA.refl w).alloc (.cells #[.slice none 0 0,.slice none 0 0] 78)).alloc (.cells (madeCells #[.int .i64 0] n) 3));go_enter func36,ntmps36;go_wp2_with fail;simp only[World.size_alloc]at nz;generalize (w.alloc (.cells #[.slice none 0 0,.slice none 0 0] 78)).alloc (.cells (madeCells #[.int .i64 0] n) 3)=w0 at *;obtain ⟨G,hg⟩:=BZ (w.heap.size);rw[hg]at nz HR0 ⊢;have HG:=AC hg;clear hg;go_loopg [12,4] n (fun kk iv ev wr=>AA w wr/\wr.heap[G]?=some (.cells #[.slice none 0 0,.slice none 0 0] 78)/\∃j:Nat,kk=n-j/\j<=n/\iv=.int .i64 j/\ev=.int .i64 (LG r j)/\ON .i64 3 wr G (.slice (some ⟨G+1,0,none⟩) n n) (Lz r j))
 case atStart=>exact ⟨LY.out,HR0.out,0,AD,AD,rfl,rfl,nz.out⟩
 case round=>
  obtain ⟨AW,hR,j,hk,hj,rfl,rfl,ho⟩:=hrel;have HA:=AC AW;have HO:=AC ho;have HR:=AC hR;by_cases BN:j<n
  ·have lj:j<r.length:=by rw[HL.out];exact BN
   have i0:(j:Int)<(n:Int):=AD;have hs:=Mj HF lj;have hle:=sN r (j+1);obtain ⟨b,off,rfl,hb,Eu⟩:=HC AD;have c0:wr.cell? ⟨b,off+j*2,none⟩=some (.int .i64 r[j].1):=(AW.below.cell hb).trans (Eu j lj).1;have c1:wr.cell? ⟨b,off+j*2+1,none⟩=some (.int .i64 r[j].2):=(AW.below.cell hb).trans (Eu j lj).2;obtain ⟨G',DZ,cur,e1,hB,hblk,q1,q2,q3,q4⟩:=ho.at (by rw[Jq AD];omega);rw[Jq AD,HL.out]at e1 q1;cases e1;have zL:=AC (cC lj);obtain ⟨z,hz⟩:∃z,cur[j]?=some (.int .i64 z):=⟨_,q4 j (by rw[Jq AD];omega)⟩;have HZ:=AC hz;generalize r[j]=rj at *;obtain ⟨ra,rs⟩:=rj;simp only at c0 c1 hs
   obtain ⟨x,hx⟩:∃x:Int,(LG r j:Int)=x:=⟨_,rfl⟩;obtain ⟨y,hy⟩:∃y:Int,(LG r (j+1):Int)=y:=⟨_,rfl⟩;have HY:=AC hy;have fS:0<=y/\y<=60000:=AD;rw[hx,hy]at hs;rw[hx];have hG1:=As hblk;have k1:wr.cell? ⟨G+1,j,none⟩=some (.int .i64 z):=by rw[AE hblk];exact HZ.out
   have f1:=Bq hblk j;clear hx hy hz q1 q2 q3 q4 ho hblk Eu hle;go_wp2_with fail;go_roundg (n-(j+1))
   case measure=>omega
   case rel=>
    have ua:w.heap.size<=G+1:=by rw[HG.out];omega
    have a1:AA w (wr.setCell ⟨G+1,j,none⟩ (.int .i64 (x+ra))):=HA.out.setCell (p:=⟨G+1,j,none⟩) ua _;have h1:(wr.setCell ⟨G+1,j,none⟩ (.int .i64 (x+ra))).heap[G]?=some (.cells #[.slice none 0 0,.slice none 0 0] 78):=Bh AD HR.out;have o1:=HO.out.set (i:=j) (x+ra);rw[<-hs,<-HY.out,zL.out,HY.out]at o1;have a2:=(AA.refl (wr.setCell ⟨G+1,j,none⟩ (.int .i64 (x+ra)))).alloc (.cells #[.int .i64 ra,.int .i64 rs] 76);exact ⟨a1.alloc _,AB a2 h1,j+1,rfl,AD,by go_num,by rw[HY.out,hs],by rw[<-hs]at a2 ⊢;exact ON.later a2 o1⟩
  ·obtain rfl:j=n:=AD
   have k0:wr.cell? ⟨G,0,none⟩=some (.slice none 0 0):=AE hR 0;have k1:wr.cell? ⟨G,1,none⟩=some (.slice none 0 0):=AE hR 1;have f0:=Bq hR 0;have f1:=Bq hR 1;have a1:AA w ((wr.setCell ⟨G,0,none⟩ (.slice A j cap)).setCell ⟨G,1,none⟩ (.slice (some ⟨G+1,0,none⟩) j j)):=(AW.setCell (p:=⟨G,0,none⟩) (by rw[HG.out];exact le_refl _) _).setCell (p:=⟨G,1,none⟩) (by rw[HG.out];exact le_refl _) _;have h1:((wr.setCell ⟨G,0,none⟩ (.slice A j cap)).setCell ⟨G,1,none⟩ (.slice (some ⟨G+1,0,none⟩) j j)).heap[G]?=some (.cells #[.slice A j cap,.slice (some ⟨G+1,0,none⟩) j j] 78):=BI (BI hR rfl) rfl;have o1:ON .i64 3 ((wr.setCell ⟨G,0,none⟩ (.slice A j cap)).setCell ⟨G,1,none⟩ (.slice (some ⟨G+1,0,none⟩) j j)) G (.slice (some ⟨G+1,0,none⟩) j j) (Cu r):=by
    have e:=dS r;rw[HL.out]at e;rw[<-e];exact ho.stays (S:=fun b=>b=G) (((AZ.refl (fun b=>b=G) wr).setCell (b:=G) rfl _).setCell (b:=G) rfl _) (fun k hk he=>by
     have Gh:some (G+1)=some k:=hk;have:=Option.some.inj Gh
     omega)
   have H1:=AC (And.intro a1 o1);have m0:=AE h1 0;have m1:=AE h1 1;clear AW hR ho a1 h1 o1;go_wp2_with fail;generalize (wr.setCell ⟨G,0,none⟩ (.slice A j cap)).setCell ⟨G,1,none⟩ (.slice (some ⟨G+1,0,none⟩) j j)=wF at *;refine bodyPost_ret (v:=.agg #[.slice A j cap,.slice (some ⟨G+1,0,none⟩) j j]) (by simp[results,results36,go_sem,m0,m1]) rfl ⟨_,rfl,H1.out.1,?_⟩;rw[HG.out];exact H1.out.2
theorem It(h:i<r.length):(Cu r)[i]'(by rw[Bz];exact h)=(LG r (i+1):Int):=by simp[Cu]
theorem ir(h:KT r):(Cu r).Pairwise (· < ·):=by
 rw[List.pairwise_iff_getElem];intro i j hi hj Fr;rw[Bz]at hi hj;rw[It hi,It hj];have:=Zk h hj
 have:=VZ h (show i+1<=j by omega) AD
 omega
theorem Xr(h:KT r){f k:Nat}(hk:below ((f:Int)+1) (Cu r)=k):k<=r.length/\LG r k<=f/\(k<r.length->f<LG r (k+1)):=by
 have hle:=FT (Cu r) ((f:Int)+1);rw[hk,Bz]at hle;refine ⟨hle,?_,fun BN=>?_⟩
 ·rcases Nat.eq_zero_or_pos k with h0|h0
  ·subst h0;unfold LG;simp[AM]
  ·have:=(Ke (Cu r) ((f:Int)+1) (k-1) AD).2
   rw[getD_in (by rw[Bz];omega),It AD,show k-1+1=k by omega]at this;omega
 ·have:=M0 (Cu r) ((f:Int)+1) (by rw[hk,Bz];exact BN)
  rw[hk,getD_in (by rw[Bz];exact BN),It BN]at this;omega
theorem owns_base'{C:Nat}{t:TypeId}{k n:Nat}{xs:List Value}(h:w.ownsRow B t k v n xs)(hC:C<=B):w.ownsRow C t k v n xs:=by
 refine ⟨h.1,?_⟩;rcases h.2 with q|⟨g,cap,cur,h0,h1,h2⟩
 ·exact .inl q
 ·exact .inr ⟨g,cap,cur,h0,Nat.le_trans hC h1,h2⟩
theorem bJ(v1 v2:Value)(r:Aa)(f t:Nat)(w:World)(h1:FH w v1 r)(h2:RI w v2 (Cu r))(hf:KT r)(qL:f<=t)(ht:t<=(AM r).length)(hn:r.length<=60000)(hl:(AM r).length<=60000):
 Calls prog 117 #[.agg #[v1,v2],.int .i64 (f:Int),.int .i64 (t:Int)] w fun e w'=>∃u Q,e=.returned u/\AA w w'/\Ge w' w.heap.size u Q/\AM Q=Bt (AM r) f t/\CV Q/\Q.length<=60000:=by
 obtain ⟨k0,vt⟩:∃k,below ((f:Int)+1) (Cu r)=k:=⟨_,rfl⟩;obtain ⟨g1,g2,g3⟩:=Xr hf vt;have HS:=AC (fun (w':World) (a:AA w w')=>VS v2 (Cu r) ((f:Int)+1) w' k0 vt (h2.later a) (ir hf) (by rw[Bz];omega));have HG:=AC (And.intro g1 (And.intro g2 g3));have Ca:=mp r;obtain ⟨A1,Cg,rfl,xJ,Om⟩:=h1;obtain ⟨A2,BP,rfl,Ls,D4⟩:=h2;have Q6:=AC Om;have Hw:Hid (∀j,j<r.length->∃b off,A2=some ⟨b,off,none⟩/\b<w.heap.size/\w.cell? ⟨b,off+j,none⟩=some (.int .i64 (LG r (j+1)))):=AC (fun j hj=>by
  obtain ⟨b,off,e,hb,hc⟩:=D4 (by rw[Bz];omega);have:=hc j (by rw[Bz];exact hj)
  rw[It hj]at this;exact ⟨b,off,e,hb,this⟩)
 clear D4;obtain ⟨n2,Fx⟩:=BZ ((Cu r).length);rw[Fx]at Ls HS ⊢;rw[Bz]at Fx;subst Fx;have HF:=AC hf;obtain ⟨n,Lf⟩:=BZ (r.length);have HL:=AC Lf;rw[Lf]at xJ Ls hn Ca HS ⊢;have kZ:=AC Ca;have HT:=AC ht;clear Om hf Lf vt g1 g2 g3 Ca;go_enter func117,ntmps117;go_wp2_with fail;refine (HS _ ((AA.refl w).alloc _)).mono ?_;rintro e w1 ⟨⟨c,rfl⟩,b1⟩;obtain ⟨AG,fe⟩:AA w w1/\w1.heap[w.heap.size]?=some (.cells #[.slice A1 n Cg,.slice A2 n BP] 78):=⟨((AA.refl w).alloc _).trans b1,AB b1 (Ae rfl)⟩;clear b1;have Ej:=AC AG;have py:=AC fe;clear AG fe;go_wp2_with fail;go_loopg [1,7,9] (n-k0) (fun kk fv iv lv wr=>AA w1 wr/\∃(i f':Nat) (Q:Aa),kk=n-i/\i<=n/\fv=.int .i64 f'/\iv=.int .i64 i/\Ge wr w1.heap.size lv Q/\AM Q=Bt (AM r) f f'/\f<=f'/\f'<=t/\(f'<t->i<n/\LG r i<=f'/\f'<LG r (i+1))/\CV Q/\Q.length<=i)
 case atStart=>
  obtain ⟨g1,g2,g3⟩:=HG.out;rw[HL.out]at g1 g3;refine ⟨AA.refl _,k0,f,[],rfl,g1,rfl,rfl,IL _ _,by rw[jS];rfl,le_refl _,qL,fun BN=>?_,(fun r hr=>by cases hr),Nat.zero_le _⟩;have JQ:k0<n:=by
   rcases lt_or_ge k0 n with q|q
   ·exact q
   ·exfalso;have e:k0=n:=AD;rw[e,kZ.out]at g2;omega
  exact ⟨JQ,g2,g3 JQ⟩
 case round=>
  obtain ⟨AW,i,f',Q,hk,hi,rfl,rfl,ho,hQ,qG,za,hin,yo,hQl⟩:=hrel;have HA:=AC AW;have fe:=AB AW py.out;have k0':wr.cell? ⟨w.heap.size,0,none⟩=some (.slice A1 n Cg):=AE fe 0;have yI:wr.cell? ⟨w.heap.size,1,none⟩=some (.slice A2 n BP):=AE fe 1;have hwr:AA w wr:=Ej.out.trans AW;by_cases BN:f'<t
  ·obtain ⟨vq,US,Lc⟩:=hin BN;have d0:(f':Int)<(t:Int):=AD;have d1:(i:Int)<(n:Int):=AD;have li:i<r.length:=by rw[HL.out];exact vq
   obtain ⟨b1,o1,rfl,Iz,Om⟩:=Q6 AD;obtain ⟨b2,o2,rfl,Hr,D4⟩:=Hw i li;have c1:wr.cell? ⟨b1,o1+i*2+1,none⟩=some (.int .i64 r[i].2):=(hwr.below.cell Iz).trans (Om i li).2;have c2:wr.cell? ⟨b2,o2+i,none⟩=some (.int .i64 (LG r (i+1))):=(hwr.below.cell Hr).trans D4;obtain ⟨e,he⟩:=BZ (min t (LG r (i+1)));have hfe:f'<e:=AD;have het:e<=t:=AD;have hee:e<=LG r (i+1):=AD;have aU:e=t\/e=LG r (i+1)/\e<t:=AD;have RA:=AC (Vm HF li hQ qG US hfe hee);have hNr:BO r[i].2:=by
    have:=Hn (Cz (HF _ (getElem_mem li))).2.2
    constructor <;> omega
   have HNR:=AC hNr;generalize r[i].2=rs at *;obtain ⟨z,hz⟩:∃z:Int,(LG r (i+1):Int)=z:=⟨_,rfl⟩;rw[hz]at c2;have vp:min (t:Int) z=(e:Int):=AD;have zr:Q.length<=90000:=AD;obtain ⟨A9,yT,rfl,uM,_⟩:=ho.reads;have HO:=AC ho;have HQN:=AC yo;have HQL:=AC hQl;have HK:=AC (And.intro vq (And.intro Lc (And.intro qG (And.intro za US))));have yJ:=AC aU;clear uM ho hQ yo hQl Om D4 fe aU hin US hee he hNr hz;obtain ⟨u2,w2,q1,o2,q3⟩:=Nh ((e:Int)-f',rs) HO HA.out.below.size zr;have K1:=AC q1;have K2:=AC (And.intro o2 (q3 w1 (le_refl _) HA.out));obtain ⟨A2',Q21,rfl,Y13,-⟩:=o2.reads;rw[length_append,List.length_singleton]at K1 K2;clear q1 o2 q3 Y13;go_wp2_with (at_builtin;refine Lib.wpList_append_run _ rfl _ _ _ _ rfl _ _ rfl rfl _ _ K1.out ?_)
   go_roundg (n-(i+1))
   case measure=>omega
   case rel=>
    obtain ⟨m1,m2,m3,m4,m5⟩:=HK.out;refine ⟨K2.out.2,i+1,e,Q++[((e:Int)-f',rs)],rfl,m1,rfl,by go_num,K2.out.1,RA.out,AD,het,fun q=>?_,fun x hx=>?_,by rw[length_append,List.length_singleton];have:=HQL.out;omega⟩
    ·rcases yJ with q2|⟨q2,_⟩
     ·omega
     ·have q5:i+1<n:=by
       rcases lt_or_ge (i+1) n with q6|q6
       ·exact q6
       ·exfalso;have q7:i+1=n:=AD;have q8:=kZ.out;rw[<-q7,<-q2]at q8;omega
      exact ⟨q5,Nat.le_of_eq q2.symm,by rw[q2];exact Zk HF (by rw[HL.out];exact q5)⟩
    ·rcases List.mem_append.1 hx with hx|hx
     ·exact HQN x hx
     ·rcases List.mem_singleton.1 hx with rfl;exact ⟨by constructor <;> (show _) <;> omega,HNR.out⟩
  ·have d0:decide ((f':Int)<(t:Int))=false:=decide_eq_false AD;have e:f'=t:=AD;subst e;have HQ:=AC hQ;have HO:=AC ho;obtain ⟨A9,yT,rfl,uM,_⟩:=ho.reads;have HR:=AC (And.intro hwr (And.intro yo (show Q.length<=60000 by omega)));clear uM ho hQ yo hQl fe hin;go_wp2_with fail;go_ret;exact ⟨_,Q,rfl,HR.out.1,owns_base' HO Ej.out.below.size,HQ.out,HR.out.2.1,HR.out.2.2⟩
def FQ(w:World)(g cap:Nat)(L:Qs):Prop:=∃cur,w.heap[g]?=some (.cells cur 76)/\L.length<=cap/\cur.size=cap*2/\∀(y:Nat) (x:Int × Int),L[y]?=some x->cur[y*2]?=some (.int .i64 x.1)/\cur[y*2+1]?=some (.int .i64 x.2)
theorem FQ.later{w':World}(ha:AA w w')(h:FQ w g cap L):FQ w' g cap L:=by
 obtain ⟨cur,h1,h2⟩:=h;exact ⟨cur,AB ha h1,h2⟩
theorem FQ.cells(h:FQ w g cap L){y:Nat}{x:(Int × Int)}(hy:L[y]?=some x):w.cell? ⟨g,y*2,none⟩=some (.int .i64 x.1)/\w.cell? ⟨g,y*2+1,none⟩=some (.int .i64 x.2):=by
 obtain ⟨cur,h1,h2,h3,h4⟩:=h;obtain ⟨q1,q2⟩:=h4 y x hy;rw[AE h1,AE h1];exact ⟨q1,q2⟩
theorem FQ.free(h:FQ w g cap L):∀j,w.frozen? ⟨g,j,none⟩=false:=by
 obtain ⟨cur,h1,_⟩:=h;exact fun j=>Bq h1 j
theorem FQ.lt(h:FQ w g cap L):g<w.heap.size:=by
 obtain ⟨cur,h1,_⟩:=h;exact As h1
theorem FQ.put(h:FQ w g cap L){i:Nat}(x:Int × Int)(hi:i<L.length):FQ ((w.setCell ⟨g,i*2,none⟩ (.int .i64 x.1)).setCell ⟨g,i*2+1,none⟩ (.int .i64 x.2)) g cap (L.set i x):=by
 obtain ⟨cur,h1,h2,h3,h4⟩:=h;refine ⟨(cur.setIfInBounds (i*2) (.int .i64 x.1)).setIfInBounds (i*2+1) (.int .i64 x.2),BI (BI h1 rfl) rfl,by rw[length_set];exact h2,by simpa using h3,?_⟩;intro y z hy;by_cases e:i=y
 ·subst e;rw[List.getElem?_set_self hi]at hy;cases hy;refine ⟨?_,?_⟩
  ·rw[Array.getElem?_setIfInBounds_ne AD,Array.getElem?_setIfInBounds_self,if_pos AD]
  ·rw[Array.getElem?_setIfInBounds_self,if_pos (by rw[Array.size_setIfInBounds];omega)]
 ·rw[List.getElem?_set_ne e]at hy;rw[Array.getElem?_setIfInBounds_ne AD,Array.getElem?_setIfInBounds_ne AD,Array.getElem?_setIfInBounds_ne AD,Array.getElem?_setIfInBounds_ne AD];exact h4 y z hy
theorem FQ.swap(h:FQ w g cap L){i j:Nat}(x y:Int × Int)(hi:i<L.length)(hj:j<L.length):
 FQ ((((w.setCell ⟨g,i*2,none⟩ (.int .i64 y.1)).setCell ⟨g,i*2+1,none⟩ (.int .i64 y.2)).setCell ⟨g,j*2,none⟩ (.int .i64 x.1)).setCell ⟨g,j*2+1,none⟩ (.int .i64 x.2)) g cap ((L.set i y).set j x):=
 (h.put y hi).put x (by rw[length_set];exact hj)
theorem AA.wI{W:World}(hg:W.heap.size<=g)(h:AA W w)(i j:Nat)(u v:Value):AA W ((w.setCell ⟨g,i,none⟩ u).setCell ⟨g,j,none⟩ v):=
 (h.setCell (p:=⟨g,i,none⟩) hg u).setCell (p:=⟨g,j,none⟩) hg v
theorem FQ.Zm(h:OQ 76 w B v l):(l=[]/\v=.slice none 0 0)\/∃g cap,v=.slice (some ⟨g,0,none⟩) l.length cap/\B<=g/\cap<=maxLen/\FQ w g cap l:=by
 rcases h.2 with ⟨h1,h0⟩|⟨g,cap,cur,rfl,h2,h3,h4,h5,h6,h7⟩
 ·exact .inl ⟨List.eq_nil_of_length_eq_zero h0,h1⟩
 ·refine .inr ⟨g,cap,rfl,h2,h5,cur,h3,h4,h6,fun y x hx=>?_⟩;have hy:y<l.length:=(List.getElem?_eq_some_iff.1 hx).1;have e:∀k,k<l.length*2->cur[k]?=(CL l)[k]?:=fun k hk=>by
   have:(cur.toList.take (l.length*2))[k]?=(CL l)[k]?:=by rw[h7]
   rw[List.getElem?_take_of_lt hk]at this;simpa using this
  rw[e _ AD,e _ AD,JO,Jg,hx];exact ⟨rfl,rfl⟩
theorem FQ.own(hB:B<=g)(hm:cap<=maxLen)(h:FQ w g cap l):OQ 76 w B (.slice (some ⟨g,0,none⟩) l.length cap) l:=by
 obtain ⟨cur,h1,h2,h3,h4⟩:=h;refine ⟨Bb l,.inr ⟨g,cap,cur,rfl,hB,h1,h2,hm,h3,?_⟩⟩;apply ext_getElem?
 intro k;by_cases hk:k<l.length*2
 ·rw[List.getElem?_take_of_lt hk,Array.getElem?_toList];have Gh:k/2<l.length:=AD;obtain ⟨q1,q2⟩:=h4 (k/2) _ (getElem?_eq_getElem Gh);rcases Nat.mod_two_eq_zero_or_one k with hm|hm
  ·have e:k=k/2*2:=AD;rw[e,q1,JO,getElem?_eq_getElem Gh];rfl
  ·have e:k=k/2*2+1:=AD;rw[e,q2,Jg,getElem?_eq_getElem Gh];rfl
 ·rw[getElem?_eq_none (by rw[length_take];omega),getElem?_eq_none (by rw[Bb];omega)]
theorem qy{l:Aa}:Ge w B v l↔OQ 76 w B v l:=Iff.rfl
theorem MZ(v:Value)(l:Aa)(w:World)(hv:FH w v l)(hl:l.length<=90000):Calls prog 68 #[v] w (JZ w l):=by
 obtain ⟨u,w2,q1,q2,q3⟩:=WL hv hl;have K1:=AC q1;have K2:=AC (And.intro q2 q3);obtain ⟨A,cap,rfl,h2,h3⟩:=hv;have hq:=fun (w:World) (n:Nat)=>Lib.run_eql_slice_nil (P:=prog) w 35 76 A n cap 0 0 underlying35
 cases A with
 |none=>
  have h0:l=[]:=by
   cases l with
   |nil=>rfl
   |cons x t=>obtain ⟨b,off,e,_⟩:=h3 Ar;cases e
  subst h0;clear q1 q2 q3 h2 h3 K1 K2;go_enter func68,ntmps68;go_wp2_with fail;go_ret;exact ⟨_,rfl,AA.refl _,IL _ _⟩
 |some ad=>
  clear q1 q2 q3 h2 h3;generalize l.length=n at *;go_enter func68,ntmps68;go_wp2_with (at_builtin;refine Lib.wpList_append_run _ rfl _ _ _ _ rfl _ _ rfl rfl _ _ K1.out ?_)
  go_ret;exact ⟨_,rfl,K2.out⟩
def Nm(l:Aa)(k:Nat):Aa:=(List.range l.length).map fun y=>l.getD (if y<k\/l.length-k<=y then l.length-1-y else y) (0,0)
theorem FL(l:Aa)(k:Nat):(Nm l k).length=l.length:=by simp[Nm]
theorem I6(l:Aa)(k:Nat){y:Nat}(h:y<l.length):(Nm l k)[y]?=some (l.getD (if y<k\/l.length-k<=y then l.length-1-y else y) (0,0)):=by
 unfold Nm;rw[List.getElem?_map,List.getElem?_range h];rfl
theorem ay(l:Aa):Nm l 0=l:=by
 apply ext_getElem?
 intro y;rcases lt_or_ge y l.length with h|h
 ·rw[I6 l 0 h,if_neg AD,List.getD_eq_getElem?_getD,getElem?_eq_getElem h];rfl
 ·rw[getElem?_eq_none (by rw[FL];exact h),getElem?_eq_none h]
theorem i8(l:Aa){k:Nat}(hk:¬((k:Int)<(l.length:Int)-1-k)):Nm l k=l.reverse:=by
 apply ext_getElem?
 intro y;rcases lt_or_ge y l.length with h|h
 ·rw[I6 l k h,List.getElem?_reverse h,List.getD_eq_getElem?_getD];have e:(if y<k\/l.length-k<=y then l.length-1-y else y)=l.length-1-y:=by
   split
   ·rfl
   ·omega
  rw[e,getElem?_eq_getElem AD];rfl
 ·rw[getElem?_eq_none (by rw[FL];exact h),getElem?_eq_none (by rw[length_reverse];exact h)]
theorem cU(l:Aa){k:Nat}(hk:(k:Int)<(l.length:Int)-1-k):∃x y,(Nm l k)[k]?=some x/\(Nm l k)[l.length-1-k]?=some y/\Nm l (k+1)=((Nm l k).set k y).set (l.length-1-k) x:=by
 refine ⟨_,_,I6 l k AD,I6 l k AD,?_⟩;rw[if_neg AD,if_neg AD];apply ext_getElem?
 intro z;rw[List.getElem?_set,List.getElem?_set];simp only[length_set,FL];rcases lt_or_ge z l.length with h|h
 ·rw[I6 l (k+1) h];by_cases e1:l.length-1-k=z
  ·rw[if_pos e1,if_pos AD,if_pos AD,show l.length-1-z=k by omega]
  ·rw[if_neg e1];by_cases e2:k=z
   ·rw[if_pos e2,if_pos AD,if_pos AD,<-e2]
   ·rw[if_neg e2,I6 l k h];have:(z<k+1\/l.length-(k+1)<=z)↔(z<k\/l.length-k<=z):=AD
    simp only[this]
 ·rw[getElem?_eq_none (by rw[FL];exact h),if_neg AD,if_neg AD,getElem?_eq_none (by rw[FL];exact h)]
theorem lS(g cap N:Nat)(l:Aa)(W w:World)(hW:AA W w)(fT:W.heap.size<=g)(hr:FQ w g cap l)(hN:l.length=N)(hl:N<=60000)(hc:N<=cap):
 Calls prog 148 #[.slice (some ⟨g,0,none⟩) N cap] w fun e w'=>e=.returned (.tuple #[])/\AA W w'/\FQ w' g cap l.reverse:=by
 have sz:=AC (fun k hk=> @cU l k hk);have HE:=AC (fun k hk=> @i8 l k hk);have SQ:=AC (fun k=>FL l k);have HR:=AC (And.intro hW hr);rw[hN]at sz HE SQ;have H0:Hid (Nm l 0=l):=AC (ay l);clear hW hr hN;go_enter func148,ntmps148;go_wp2_with fail;go_loopg [2,3] N (fun kk iv jv wr=>∃k:Nat,kk=N-k/\k<=N/\iv=.int .i64 (k:Int)/\jv=.int .i64 ((N:Int)-1-k)/\AA W wr/\FQ wr g cap (Nm l k))
 case atStart=>exact ⟨0,rfl,AD,rfl,by go_num,HR.out.1,by rw[H0.out];exact HR.out.2⟩
 case round=>
  obtain ⟨k,hk,uD,rfl,rfl,aW,hr⟩:=hrel;have HR:=AC hr;have HA:=AC aW;by_cases BN:(k:Int)<(N:Int)-1-k
  ·obtain ⟨j,hj⟩:∃j:Nat,N-1-k=j:=⟨_,rfl⟩;have ej:(N:Int)-1-k=(j:Int):=AD;obtain ⟨x,y,hx,hy,Aw⟩:=sz k BN;rw[hj]at hy Aw;have HP:=AC (fun (w2:World) (h:FQ w2 g cap (Nm l k))=>h.swap (i:=k) (j:=j) x y (by rw[SQ.out];omega) (by rw[SQ.out];omega));rw[<-Aw]at HP;obtain ⟨c0,c1⟩:=hr.cells hx;obtain ⟨d0,d1⟩:=hr.cells hy;have f0:=hr.free;have n0:j*2≠k*2:=AD;have n1:j*2≠k*2+1:=AD;have n2:j*2+1≠k*2:=AD;have n3:j*2+1≠k*2+1:=AD;rw[ej]at BN ⊢;have i1:(k:Int)<(N:Int):=AD;have i2:(j:Int)<(N:Int):=AD;clear hr hx hy Aw aW;obtain ⟨x1,x2⟩:=x;obtain ⟨y1,y2⟩:=y;simp only at c0 c1 d0 d1 HP
   go_wp2_with fail
   go_big_region
   go_wp2_with fail;go_roundg (N-(k+1))
   case measure=>omega
   case rel=>exact ⟨k+1,rfl,AD,by go_num,by (congr 1;omega),((HA.out.wI fT _ _ _ _).wI fT _ _ _ _).drew,FQ.later (AA.refl _).drew (HP _ HR.out)⟩
  ·have d0:decide ((k:Int)<(N:Int)-1-k)=false:=decide_eq_false BN;have HEn:=AC (HE k AD);clear BN hr aW;go_wp2_with fail;refine bodyPost_end (v:=.tuple #[]) (by simp[results,results148,go_sem]) rfl ⟨rfl,HA.out,?_⟩;rw[<-HEn.out];exact HR.out
theorem iO(w:World):Calls prog 148 #[.slice none 0 0] w fun e w'=>e=.returned (.tuple #[])/\w=w':=by
 go_enter func148,ntmps148;go_wp2_with fail;refine wp_loop_rounds 1 ?_;rw[rounds_succ];go_wp2_with fail;exact bodyPost_end (v:=.tuple #[]) (by simp[results,results148,go_sem]) rfl ⟨rfl,rfl⟩
theorem FQ.orn{l:Aa}(hB:B<=g)(hm:cap<=maxLen)(h:FQ w g cap l):Ge w B (.slice (some ⟨g,0,none⟩) l.length cap) l:=FQ.own hB hm h
theorem OX(v:Value)(l:Aa)(w:World)(hv:FH w v l)(hl:l.length<=60000):Calls prog 107 #[v] w (JZ w l.reverse):=by
 have HC:=AC (MZ v l w hv AD);obtain ⟨A,cap,rfl,-⟩:=hv;have HL:=AC hl;have HR:=AC (fun (g BP:Nat) (W w':World) (hW:AA W w') (hg:W.heap.size<=g) (hr:FQ w' g BP l) (hc:l.length<=BP)=>lS g BP l.length l W w' hW hg hr rfl HL hc);clear hl;go_enter func107,ntmps107;go_wp2_with fail;refine HC.out.mono ?_;rintro e w1 ⟨u,rfl,a1,o1⟩;have Ej:=AC a1;rcases FQ.Zm (qy.1 o1) with ⟨rfl,rfl⟩|⟨g,BP,rfl,hB,hm,hr⟩
 ·have HN:=AC (iO w1);clear a1 o1 HR;go_wp2_with fail;refine HN.out.mono ?_;rintro e w2 ⟨rfl,rfl⟩;go_wp2_with fail;go_ret;exact ⟨_,rfl,Ej.out,IL _ _⟩
 ·have HO:=AC (And.intro hB (And.intro hm hr));have D4:l.length<=BP:=by obtain ⟨cur,q1,q2,q3,q4⟩:=hr;exact q2
  have l_:=AC (HR g BP w w1 a1 hB hr D4);have HLR:Hid (l.reverse.length=l.length):=AC length_reverse;clear a1 o1 hB hm hr;generalize l.length=n at *;go_wp2_with fail;refine l_.out.mono ?_;rintro e w2 ⟨rfl,a2,r2⟩;have HQ:=AC (And.intro a2 (FQ.orn HO.out.1 HO.out.2.1 r2));rw[HLR.out]at HQ;clear a2 r2;go_wp2_with fail;go_ret;exact ⟨_,rfl,HQ.out.1,HQ.out.2⟩
def X4(l:Aa):Prop:=∀x∈l,0<=x.1/\x.1<=16777216
theorem W4(ha:i<a.length)(hb:i<b.length):DE (a.drop i) (b.drop i)=if a[i].2≠b[i].2 then 0 else min a[i].1 b[i].1+(if a[i].1≠b[i].1 then 0 else DE (a.drop (i+1)) (b.drop (i+1))):=by
 rw[List.drop_eq_getElem_cons ha,List.drop_eq_getElem_cons hb];rfl
theorem X5(h:a.length<=i\/b.length<=i):DE (a.drop i) (b.drop i)=0:=by
 rcases h with h|h
 ·rw[List.drop_of_length_le h];cases b.drop i <;> rfl
 ·rw[List.drop_of_length_le h]
  cases a.drop i with
  |nil=>rfl
  |cons x l=>obtain ⟨n,s⟩:=x;rfl
theorem QY(v1 v2:Value)(a b:Aa)(N:Int)(w:World)(hN:DE a b=N)(h1:FH w v1 a)(h2:FH w v2 b)(ha:X4 a)(hb:X4 b)(hl:a.length<=60000)(IY:b.length<=60000):
 Calls prog 106 #[v1,v2] w fun e w'=>e=.returned (.int .i64 N)/\AA w w':=by
 obtain ⟨A1,Cg,rfl,Om,xf⟩:=h1;obtain ⟨A2,BP,rfl,D4,wG⟩:=h2;have Q6:=AC xf;have Hw:=AC wG;have tu:=AC ha;have HSb:=AC hb;have HN:=AC hN;obtain ⟨n1,aO⟩:∃n,a.length=n:=⟨_,rfl⟩;obtain ⟨n2,Fx⟩:∃n,b.length=n:=⟨_,rfl⟩;have mE:=AC aO;have UT:=AC Fx;rw[aO]at Om hl ⊢;rw[Fx]at D4 IY ⊢;obtain ⟨n,hn⟩:=BZ (min n1 n2);have en:min (n1:Int) (n2:Int)=(n:Int):=AD;have Lf:n<=n1/\n<=n2/\(n=n1\/n=n2):=AD;clear xf wG ha hb hN aO Fx hn;go_enter func106,ntmps106;go_wp2_with fail;go_loopg [5,12] n (fun kk sv iv wr=>∃(i:Nat) (M:Int),kk=n-i/\i<=n/\iv=.int .i64 (i:Int)/\sv=.int .i64 M/\AA w wr/\0<=M/\M<=16777216*i/\N=M+DE (a.drop i) (b.drop i))
 case atStart=>exact ⟨0,0,AD,AD,rfl,rfl,AA.refl _,AD,AD,by rw[List.drop_zero,List.drop_zero,HN.out];omega⟩
 case round=>
  obtain ⟨i,M,hk,hi,rfl,rfl,AW,m0,m1,hM⟩:=hrel;have HM:=AC hM;have HA:=AC AW;by_cases BN:i<n
  ·have l1:i<a.length:=by rw[mE.out];omega
   have l2:i<b.length:=by rw[UT.out];omega
   have i0:(i:Int)<(n:Int):=AD;have i1:(i:Int)<(n1:Int):=AD;have i2:(i:Int)<(n2:Int):=AD;obtain ⟨b1,o1,rfl,Iz,q1⟩:=Q6 AD;obtain ⟨b2,o2,rfl,Hr,q2⟩:=Hw AD;have c0:wr.cell? ⟨b1,o1+i*2,none⟩=some (.int .i64 a[i].1):=(AW.below.cell Iz).trans (q1 i l1).1;have c1:wr.cell? ⟨b1,o1+i*2+1,none⟩=some (.int .i64 a[i].2):=(AW.below.cell Iz).trans (q1 i l1).2;have d0:wr.cell? ⟨b2,o2+i*2,none⟩=some (.int .i64 b[i].1):=(AW.below.cell Hr).trans (q2 i l2).1;have d1:wr.cell? ⟨b2,o2+i*2+1,none⟩=some (.int .i64 b[i].2):=(AW.below.cell Hr).trans (q2 i l2).2;have hS:=W4 l1 l2;have s1:=tu _ (getElem_mem l1);have s2:=HSb _ (getElem_mem l2);rw[hS]at hM;generalize a[i]=x at *;generalize b[i]=y at *;obtain ⟨x1,x2⟩:=x;obtain ⟨y1,y2⟩:=y;simp only at c0 c1 d0 d1 s1 s2 hM
   have s3:0<=M+min x1 y1/\M+min x1 y1<=16777216*(i+1):=AD;clear q1 q2 hS HM AW;by_cases BE:x2=y2
   ·subst BE;rw[if_neg Ar]at hM;by_cases hn:x1=y1
    ·subst hn;rw[if_neg Ar]at hM;have HM:=AC hM;clear hM;have mn:min x1 x1=x1:=AD;have e2:(x1 != x1)=false:=Ar;go_wp2_with fail
     go_quiet (fail)
     go_wp2_with fail
     go_quiet (fail)
     go_wp2_with fail
     go_quiet (fail)
     go_wp2_with fail;go_roundg (n-(i+1))
     case measure=>omega
     case rel=>exact ⟨i+1,M+x1,rfl,AD,by go_num,rfl,HA.out.drewN _,AD,AD,by have:=HM.out;omega⟩
    ·rw[if_pos hn,Int.add_zero]at hM;subst hM;have e2:(x1 != y1)=true:=by simpa using hn
     go_wp2_with fail
     go_quiet (fail)
     go_wp2_with fail
     go_quiet (fail)
     go_wp2_with fail
     go_quiet (fail)
     go_wp2_with fail;go_ret;exact ⟨rfl,((HA.out.drewN _).drewN _).drewN _⟩
   ·rw[if_pos BE,Int.add_zero]at hM;subst hM;have e1:(x2 != y2)=true:=by simpa using BE
    go_wp2_with fail
    go_quiet (fail)
    go_wp2_with fail;go_ret;exact ⟨rfl,HA.out.drewN _⟩
  ·obtain rfl:i=n:=AD
   have i0:decide ((i:Int)<(i:Int))=false:=Ar;have hE:=X5 (a:=a) (b:=b) (i:=i) (by rw[mE.out,UT.out];omega);rw[hE,Int.add_zero]at hM;subst hM;clear hE HM AW;go_wp2_with fail;go_ret;exact ⟨rfl,HA.out⟩
theorem N0{S:List Int}(hg:∀s∈S,BL s=true)(hl:S.length<=60000):X4 (BM S):=fun x hx=>by
 have:=Cz (Mx hg AD x hx)
 omega
def XF(S1 S2:List Int):Bool:=decide (pre S1 S2<S1.length)
def Qg(S1 S2:List Int):Nat:=if XF S1 S2 then pre S1 S2 else 0
def Og(S1 S2:List Int):Nat:=if XF S1 S2 then S1.length-1-pre S1.reverse S2.reverse else 0
theorem ZF(v1 v2:Value)(S1 S2:List Int)(w:World)(h1:Mc w v1 (BM S1))(h2:Mc w v2 (BM S2))(g1:∀s∈S1,BL s=true)(g2:∀s∈S2,BL s=true)(hl:S1.length<=40000)(he:S1.length=S2.length):
 Calls prog 67 #[v1,v2] w fun e w'=>e=.returned (.tuple #[.int .i64 (Qg S1 S2),.int .i64 (Og S1 S2),.bool (XF S1 S2)])/\AA w w':=by
 have l1:=C5 S1;have l2:=C5 S2;have s1:=N0 g1 AD;have s2:=N0 g2 AD;have n1:CV (BM S1):=fun x hx=>by
  have q:=s1 x hx;have q2:=Hn (Cz (Mx g1 AD x hx)).2.2;constructor <;> constructor <;> omega
 have Dw:=AC (fun (w':World) (a:AA w w')=>Lu.len (BM S1) S1.length (by rw[ar g1 AD]) (⟨h1.later a,n1,AD⟩:Cf w' v1 (BM S1)));have Ej:=AC (fun (w':World) (a:AA w w')=>QY v1 v2 (BM S1) (BM S2) (pre S1 S2:Nat) w' (P_ S1 S2) (h1.1.later a) (h2.1.later a) s1 s2 AD AD);have Oc:=AC (fun (w':World) (a:AA w w')=>OX v1 (BM S1) w' (h1.1.later a) AD);have Kw:=AC (fun (w':World) (a:AA w w')=>OX v2 (BM S2) w' (h2.1.later a) AD);have Mf:=AC (fun (w':World) (u1 u2:Value) (q1:FH w' u1 (BM S1).reverse) (q2:FH w' u2 (BM S2).reverse)=>QY u1 u2 (BM S1).reverse (BM S2).reverse (pre S1.reverse S2.reverse:Nat) w' (by rw[KM,KM];exact P_ _ _) q1 q2 (fun x hx=>s1 x (List.mem_reverse.1 hx)) (fun x hx=>s2 x (List.mem_reverse.1 hx)) (by rw[length_reverse];omega) (by rw[length_reverse];omega));have Lj:=T8 S1 S2;by_cases hb:pre S1 S2<S1.length
 ·obtain ⟨-,hr,-⟩:=Mk he hb;have eB:XF S1 S2=true:=decide_eq_true hb;have eF:Qg S1 S2=pre S1 S2:=by unfold Qg;rw[if_pos eB]
  have eL:Og S1 S2=S1.length-1-pre S1.reverse S2.reverse:=by unfold Og;rw[if_pos eB]
  rw[eB,eF,eL];have eN:((S1.length-1-pre S1.reverse S2.reverse:Nat):Int)=(S1.length:Int)-1-(pre S1.reverse S2.reverse:Nat):=AD;rw[eN];have d0:(((pre S1 S2:Nat):Int) == ((S1.length:Nat):Int))=false:=by simp;omega
  obtain ⟨A1,c1,rfl,-⟩:=h1.1;obtain ⟨A2,c2,rfl,-⟩:=h2.1;generalize (BM S1).length=m1 at *;generalize (BM S2).length=m2 at *;have hpr:pre S1.reverse S2.reverse<=40000:=AD;clear h1 h2 g1 g2 s1 s2 n1 eB eF eL he Lj hb eN hr;generalize pre S1 S2=p at *;generalize pre S1.reverse S2.reverse=q at *;generalize S1.length=n at *;go_enter func67,ntmps67;go_wp2_with fail;refine (Dw _ (AA.refl w)).mono ?_;rintro e w1 ⟨rfl,AJ⟩;have AG:=AJ;go_wp2_with fail;refine (Ej _ AG).mono ?_;rintro e w2 ⟨rfl,AL⟩;have AR:=AG.trans AL;go_wp2_with fail;refine (Oc _ AR).mono ?_;rintro e w3 ⟨u1,rfl,a3,o1⟩;have H3:=AC (And.intro a3 o1);obtain ⟨A3,c3,rfl,-⟩:=o1.reads;generalize (BM S1).reverse.length=m3 at *;clear a3 o1;go_wp2_with fail;refine (Kw _ (AR.trans H3.out.1)).mono ?_;rintro e w4 ⟨u2,rfl,a4,o2⟩;have H4:=AC (And.intro a4 o2);obtain ⟨A4,c4,rfl,-⟩:=o2.reads;generalize (BM S2).reverse.length=m4 at *;clear a4 o2;go_wp2_with fail;refine (Mf w4 _ _ (H3.out.2.reads.later H4.out.1) H4.out.2.reads).mono ?_;rintro e w5 ⟨rfl,b5⟩;have HZ:=AC ((AR.trans H3.out.1).trans (H4.out.1.trans b5));clear b5;go_wp2_with fail;refine bodyPost_ret (v:=.tuple #[.int .i64 (p:Int),.int .i64 ((n:Int)-1-(q:Int)),.bool true]) (by simp[results,results67,go_sem]) rfl ⟨rfl,HZ.out⟩
 ·have ep:pre S1 S2=S1.length:=AD;have eB:XF S1 S2=false:=decide_eq_false hb;have eF:Qg S1 S2=0:=by unfold Qg;rw[if_neg (by rw[eB];decide)]
  have eL:Og S1 S2=0:=by unfold Og;rw[if_neg (by rw[eB];decide)]
  rw[eB,eF,eL];rw[ep]at Ej;obtain ⟨A1,c1,rfl,-⟩:=h1.1;obtain ⟨A2,c2,rfl,-⟩:=h2.1;generalize (BM S1).length=m1 at *;generalize (BM S2).length=m2 at *;clear h1 h2 g1 g2 s1 s2 n1 eB eF eL he Lj hb ep Oc Kw Mf;generalize S1.length=n at *;go_enter func67,ntmps67;go_wp2_with fail;refine (Dw _ (AA.refl w)).mono ?_;rintro e w1 ⟨rfl,AJ⟩;have AG:=AJ;go_wp2_with fail;refine (Ej _ AG).mono ?_;rintro e w2 ⟨rfl,AL⟩;have AR:=AG.trans AL;go_wp2_with fail;exact bodyPost_ret (v:=.tuple #[.int .i64 0,.int .i64 0,.bool false]) (by simp[results,results67,go_sem]) rfl ⟨rfl,AR⟩
end
end Go.Proofs.YtamhnffokoejjaaGreatDoor
