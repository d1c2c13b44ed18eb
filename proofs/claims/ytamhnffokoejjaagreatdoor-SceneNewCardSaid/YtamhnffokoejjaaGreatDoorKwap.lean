import Derived.Test.YtamhnffokoejjaaGreatDoorKwao
set_option linter.all false
set_option maxHeartbeats 3200000
set_option maxRecDepth 100000
namespace Go.Proofs.YtamhnffokoejjaaGreatDoor
open List(take_zero mem_cons not_mem_nil)
open Nat(lt_or_ge le_trans lt_of_lt_of_le)
open Go.RowKit
section
variable{n:Int}{l:Qs}
theorem G5(f t n:Int)(c:Bool)(w:World)(hc:Ed n (f,t)=c):Calls Tryz.prog 99 #[.agg #[.int .i64 f,.int .i64 t],.int .i64 n] w fun e w'=>e=.returned (.bool c)/\AA w w':=by
 unfold Ed at hc;have HO:=AC hc;clear hc;have HA:=AC ((AA.refl w).alloc (.cells #[.int .i64 f,.int .i64 t] 69));by_cases h1:0<=f
 ·by_cases h2:f<t
  ·by_cases h3:t<=n
   ·have HB:Hid (true=c):=AC (by rw[<-HO.out];exact (decide_eq_true ⟨h1,h2,h3⟩).symm);go_enter Tryz.func99,Tryz.ntmps99;go_wp2_with fail;go_ret;exact ⟨Am HB.out,HA.out⟩
   ·have HB:Hid (false=c):=AC (by rw[<-HO.out];exact (decide_eq_false (fun h=>h3 h.2.2)).symm);go_enter Tryz.func99,Tryz.ntmps99;go_wp2_with fail;go_ret;exact ⟨Am HB.out,HA.out⟩
  ·have HB:Hid (false=c):=AC (by rw[<-HO.out];exact (decide_eq_false (fun h=>h2 h.2.1)).symm);go_enter Tryz.func99,Tryz.ntmps99;go_wp2_with fail;go_ret;exact ⟨Am HB.out,HA.out⟩
 ·have HB:Hid (false=c):=AC (by rw[<-HO.out];exact (decide_eq_false (fun h=>h1 h.1)).symm);go_enter Tryz.func99,Tryz.ntmps99;go_wp2_with fail;go_ret;exact ⟨Am HB.out,HA.out⟩
theorem WJ(h:0<l.length):BJ n 0 (l.take 1)=Ed n l[0]:=by
 rw[List.take_succ_eq_append_getElem h,take_zero,List.nil_append,Ny]
theorem Za{j:Nat}(h:j+1<l.length)(hg:BJ n 0 (l.take (j+1))=true):BJ n 0 (l.take (j+1+1))=(Ed n l[j+1] && decide (l[j].2<=l[j+1].1)):=by
 rw[PV h,hg,Bool.true_and,S3 AD];have h0:0<=l[j].2:=by
  have:=GE (Int.le_refl 0) hg l[j] (by rw[List.mem_take_iff_getElem];exact ⟨j,AD,rfl⟩)
  omega
 unfold Ed;rw[Bool.eq_iff_iff,Bool.and_eq_true,decide_eq_true_eq,decide_eq_true_eq,decide_eq_true_eq];omega
theorem JV(v:Value)(l:Qs)(n:Int)(c:Bool)(w:World)(hc:BJ n 0 l=c)(hv:QR w v l)(hl:l.length<=60000):Calls Tryz.prog 58 #[v,.int .i64 n] w fun e w'=>e=.returned (.bool c)/\AA w w':=by
 obtain ⟨A,cap,rfl,h2,h3⟩:=hv;have Kk:Hid (∀(j:Nat) (h:j<l.length),∃b off,A=some ⟨b,off,none⟩/\b<w.heap.size/\w.cell? ⟨b,off+j*2,none⟩=some (.int .i64 l[j].1)/\w.cell? ⟨b,off+j*2+1,none⟩=some (.int .i64 l[j].2)):=AC (fun j hj=>by
  obtain ⟨b,off,e,hb,hc⟩:=h3 AD;exact ⟨b,off,e,hb,hc j hj⟩)
 have HK:=AC hc;obtain ⟨m,hm⟩:=BZ (l.length);have HN:=AC hm;rw[hm]at h2 hl ⊢;clear h3 hc hm;go_enter Tryz.func58,Tryz.ntmps58;go_wp2_with fail;go_loopg [5] m (fun k i wr=>∃j:Nat,k=m-j/\j<=m/\i=.int .i64 (j:Int)/\AA w wr/\BJ n 0 (l.take j)=true)
 case atStart=>exact ⟨0,AD,AD,rfl,AA.refl _,by rw[take_zero];rfl⟩
 case round=>
  obtain ⟨j,hk,hj,rfl,AW,hg⟩:=hrel;have HG:=AC hg;clear hg;by_cases BN:j<m
  ·have lj:j<l.length:=by rw[HN.out];exact BN
   have i0:(j:Int)<(m:Int):=AD;obtain ⟨b,off,rfl,hb,k0,k1⟩:=Kk j lj;have c0:wr.cell? ⟨b,off+j*2,none⟩=some (.int .i64 l[j].1):=(AW.below.cell hb).trans k0;have c1:wr.cell? ⟨b,off+j*2+1,none⟩=some (.int .i64 l[j].2):=(AW.below.cell hb).trans k1;have HF:Hid (BJ n 0 (l.take (j+1))=false->false=c):=AC (fun h=>(OM lj h).symm.trans HK.out);clear k0 k1
   cases j with
   |zero=>
    have HT:=AC (WJ (n:=n) lj);generalize l[0]=x at *;obtain ⟨f,t⟩:=x;simp only[Nat.zero_mul,Nat.add_zero,Nat.zero_add]at c0 c1 HT HF hk ⊢
    cases Ga:Ed n (f,t) with
    |false=>
     have HX:=AC (fun w=>G5 f t n false w Ga);have HB:=AC (HF (HT.out.trans Ga));clear Ga;go_wp2_with fail;apply Ac (25) [] AY AY Ar
     case hstab=>
      intro e he v x y BE hv;simp only[mem_cons,not_mem_nil,or_false]at he
     case hlex=>
      intro U;have UY:=fun (v:BA (later U))=>Ak (AA.trans ⟨U,rfl⟩ ⟨v,rfl⟩) c0
      have WC:=fun (v:BA (later U))=>Ak (AA.trans ⟨U,rfl⟩ ⟨v,rfl⟩) c1
      refine Ku ?_
      repeat (go_big_quiet_step ((go_at_call 99;exact EQ (HX _))))
      exact wpQuiet_nil rfl
     case hown=>
      intro e he o ho;simp only[mem_cons,not_mem_nil,or_false]at he
     case htail=>
      intro g u Aw Az;have Bd:AA wr (later u):=⟨u,rfl⟩;generalize later u=w5 at *;clear u;clear Aw Az;refine DH ?_;have DW:=AW.trans Bd;go_wp2_with fail;go_ret;exact ⟨Am HB.out,DW⟩
    |true=>
     have HX:=AC (fun w=>G5 f t n true w Ga);have HB:=AC (HT.out.trans Ga);clear Ga;go_wp2_with fail;apply Ac (25) [] AY AY Ar
     case hstab=>
      intro e he v x y BE hv;simp only[mem_cons,not_mem_nil,or_false]at he
     case hlex=>
      intro U;have UY:=fun (v:BA (later U))=>Ak (AA.trans ⟨U,rfl⟩ ⟨v,rfl⟩) c0
      have WC:=fun (v:BA (later U))=>Ak (AA.trans ⟨U,rfl⟩ ⟨v,rfl⟩) c1
      refine Ku ?_
      repeat (go_big_quiet_step ((go_at_call 99;exact EQ (HX _))))
      exact wpQuiet_nil rfl
     case hown=>
      intro e he o ho;simp only[mem_cons,not_mem_nil,or_false]at he
     case htail=>
      intro g u Aw Az;have Bd:AA wr (later u):=⟨u,rfl⟩;generalize later u=w5 at *;clear u;clear Aw Az;refine DH ?_;have DW:=AW.trans Bd;go_wp2_with fail;go_roundg (m-1)
      case measure=>omega
      case rel=>exact ⟨1,rfl,AD,by go_num,DW,HB.out⟩
   |succ i=>
    have HT:=AC (Za (n:=n) lj HG.out);obtain ⟨b',Yj,hA,Rh,k0',yI⟩:=Kk i (by rw[HN.out];omega);cases hA;have e1:wr.cell? ⟨b,off+i*2+1,none⟩=some (.int .i64 (l[i]'(by rw[HN.out];omega)).2):=(AW.below.cell hb).trans yI;have i3:(i:Int)<(m:Int):=AD;clear k0' yI Rh;generalize l[i+1]=x at *;generalize (l[i]'_)=y at *;obtain ⟨f,t⟩:=x;obtain ⟨f2,t2⟩:=y;simp only at c0 c1 e1
    cases Ga:Ed n (f,t) with
    |false=>
     have HX:=AC (fun w=>G5 f t n false w Ga);have HB:=AC (HF (by rw[HT.out,Ga];rfl));clear Ga;go_wp2_with fail;apply Ac (25) [] AY AY Ar
     case hstab=>
      intro e he v x y BE hv;simp only[mem_cons,not_mem_nil,or_false]at he
     case hlex=>
      intro U;have UY:=fun (v:BA (later U))=>Ak (AA.trans ⟨U,rfl⟩ ⟨v,rfl⟩) c0
      have WC:=fun (v:BA (later U))=>Ak (AA.trans ⟨U,rfl⟩ ⟨v,rfl⟩) c1
      have vj:=fun (v:BA (later U))=>Ak (AA.trans ⟨U,rfl⟩ ⟨v,rfl⟩) e1
      refine Ku ?_
      repeat (go_big_quiet_step ((go_at_call 99;exact EQ (HX _))))
      exact wpQuiet_nil rfl
     case hown=>
      intro e he o ho;simp only[mem_cons,not_mem_nil,or_false]at he
     case htail=>
      intro g u Aw Az;have Bd:AA wr (later u):=⟨u,rfl⟩;generalize later u=w5 at *;clear u;clear Aw Az;refine DH ?_;have DW:=AW.trans Bd;go_wp2_with fail;go_ret;exact ⟨Am HB.out,DW⟩
    |true=>
     have HX:=AC (fun w=>G5 f t n true w Ga);by_cases h4:f<t2
     ·have HB:=AC (HF (by rw[HT.out,Ga,Bool.true_and];exact decide_eq_false (by simp only;omega)));clear Ga;go_wp2_with fail;apply Ac (25) [] AY AY Ar
      case hstab=>
       intro e he v x y BE hv;simp only[mem_cons,not_mem_nil,or_false]at he
      case hlex=>
       intro U;have UY:=fun (v:BA (later U))=>Ak (AA.trans ⟨U,rfl⟩ ⟨v,rfl⟩) c0
       have WC:=fun (v:BA (later U))=>Ak (AA.trans ⟨U,rfl⟩ ⟨v,rfl⟩) c1
       have vj:=fun (v:BA (later U))=>Ak (AA.trans ⟨U,rfl⟩ ⟨v,rfl⟩) e1
       refine Ku ?_
       repeat (go_big_quiet_step ((go_at_call 99;exact EQ (HX _))))
       exact wpQuiet_nil rfl
      case hown=>
       intro e he o ho;simp only[mem_cons,not_mem_nil,or_false]at he
      case htail=>
       intro g u Aw Az;have Bd:AA wr (later u):=⟨u,rfl⟩;generalize later u=w5 at *;clear u;clear Aw Az;refine DH ?_;have DW:=AW.trans Bd;go_wp2_with fail;go_ret;exact ⟨Am HB.out,DW⟩
     ·have d4:decide (f<t2)=false:=decide_eq_false h4;have HB:Hid (BJ n 0 (l.take (i+1+1))=true):=AC (by rw[HT.out,Ga,Bool.true_and];exact decide_eq_true (by simp only;omega));clear Ga;go_wp2_with fail;apply Ac (25) [] AY AY Ar
      case hstab=>
       intro e he v x y BE hv;simp only[mem_cons,not_mem_nil,or_false]at he
      case hlex=>
       intro U;have UY:=fun (v:BA (later U))=>Ak (AA.trans ⟨U,rfl⟩ ⟨v,rfl⟩) c0
       have WC:=fun (v:BA (later U))=>Ak (AA.trans ⟨U,rfl⟩ ⟨v,rfl⟩) c1
       have vj:=fun (v:BA (later U))=>Ak (AA.trans ⟨U,rfl⟩ ⟨v,rfl⟩) e1
       refine Ku ?_
       repeat (go_big_quiet_step ((go_at_call 99;exact EQ (HX _))))
       exact wpQuiet_nil rfl
      case hown=>
       intro e he o ho;simp only[mem_cons,not_mem_nil,or_false]at he
      case htail=>
       intro g u Aw Az;have Bd:AA wr (later u):=⟨u,rfl⟩;generalize later u=w5 at *;clear u;clear Aw Az;refine DH ?_;have DW:=AW.trans Bd;go_wp2_with fail;go_roundg (m-(i+1+1))
       case measure=>omega
       case rel=>exact ⟨i+1+1,rfl,BN,by go_num,DW,HB.out⟩
  ·obtain rfl:j=m:=AD
   have HB:Hid (true=c):=AC (by
    have:=HG.out
    rw[List.take_of_length_le (Nat.le_of_eq HN.out)]at this;exact this.symm.trans HK.out)
   have d0:(j:Int)<=65536:=AD;go_wp2_with fail;go_ret;exact ⟨Am HB.out,AW⟩
theorem js(v:Value)(l:Qs)(f t n:Int)(w:World)(hv:QR w v l)(hl:l.length<=60000)(hg:BJ n 0 l=false):
 Calls Tryz.prog 97 #[v,.agg #[.int .i64 f,.int .i64 t],.int .i64 n] w (WM l (f,t) n w):=by
 obtain ⟨hc,hL⟩:=NC (s:=(f,t)) (l:=l) (n:=n) (by rw[hg];simp);have HE:=AC (And.intro hc hL);have HG:=AC (fun (w':World) (h:AA w w')=>JV v l n false w' hg (hv.later h) hl);obtain ⟨A,cap,rfl,-⟩:=hv.form;clear hv hc hL hg hl;generalize l.length=m at *;go_enter Tryz.func97,Tryz.ntmps97;go_wp2_with fail;refine AQ (fun wS=>AA w wS/\wS.heap[w.heap.size]?=some (.cells #[.int .i64 f,.int .i64 t] 69)) ⟨BQ,CG⟩ ?_;rintro w1 ⟨AJ,AH⟩;have AG:=AJ;refine (HG _ AG).mono ?_;rintro e w2 ⟨rfl,AL⟩;have AR:=AG.trans AL;go_wp2_with fail;refine bodyPost_ret (v:=.tuple #[.slice (some ⟨w2.heap.size,0,none⟩) 0 0,.int .i64 1]) (by simp[results,Tryz.results97,go_sem]) rfl ⟨_,by rw[HE.out.1],AR.alloc _,by rw[HE.out.2];exact QT.new rfl⟩
theorem Vq(v:Value)(l:Qs)(f t n:Int)(w:World)(hv:QR w v l)(hl:l.length<=60000)(hg:BJ n 0 l=true)(hf:Ed n (f,t)=false):
 Calls Tryz.prog 97 #[v,.agg #[.int .i64 f,.int .i64 t],.int .i64 n] w (WM l (f,t) n w):=by
 obtain ⟨hc,hL⟩:=NC (s:=(f,t)) (l:=l) (n:=n) (by rw[hf];simp);have HE:=AC (And.intro hc hL);have HG:=AC (fun (w':World) (h:AA w w')=>JV v l n true w' hg (hv.later h) hl);have HF:=AC (fun (w':World)=>G5 f t n false w' hf);obtain ⟨A,cap,rfl,-⟩:=hv.form;clear hv hc hL hg hf hl;generalize l.length=m at *;go_enter Tryz.func97,Tryz.ntmps97;go_wp2_with fail;refine AQ (fun wS=>AA w wS/\wS.heap[w.heap.size]?=some (.cells #[.int .i64 f,.int .i64 t] 69)) ⟨BQ,CG⟩ ?_;rintro w1 ⟨AJ,AH⟩;have AG:=AJ;refine (HG _ AG).mono ?_;rintro e w2 ⟨rfl,AL⟩;have AR:=AG.trans AL;have AU:=AB AL AH;have BS:=AE AU;go_wp2_with fail;refine (HF _).mono ?_;rintro e w4 ⟨rfl,Ao⟩;have Bl:=AR.trans Ao;(try clear BS);go_wp2_with fail;refine bodyPost_ret (v:=.tuple #[.slice (some ⟨w4.heap.size,0,none⟩) 0 0,.int .i64 1]) (by simp[results,Tryz.results97,go_sem]) rfl ⟨_,by rw[HE.out.1],Bl.alloc _,by rw[HE.out.2];exact QT.new rfl⟩
theorem cN(v:Value)(l:Qs)(f t n:Int)(w:World)(hv:QR w v l)(hl:l.length<=60000)(hg:BJ n 0 l=true)(hf:Ed n (f,t)=true):
 Calls Tryz.prog 97 #[v,.agg #[.int .i64 f,.int .i64 t],.int .i64 n] w (WM l (f,t) n w):=by
 have HG:=AC (fun (w':World) (h:AA w w')=>JV v l n true w' hg (hv.later h) hl);have HF:=AC (fun (w':World)=>G5 f t n true w' hf);have Ta:=AC (fun (h:C7 (f,t) l=true)=>Po ⟨hg,hf⟩ h);have Q5:=AC (fun (h:C7 (f,t) l=false)=>TQ ⟨hg,hf⟩ h);have vh:=AC (fun i (h:i<l.length) (ha:i<BR (f,t) l)=>Io (f,t) l i h ha);have HGe:Hid (∀(i:Nat) (h:i<l.length),BR (f,t) l<=i->f<l[i].2):=AC (fun i h ha=>by
  have h1:=LQ (f,t) l AD;rcases lt_or_ge (BR (f,t) l) i with h2|h2
  ·have h3:=List.pairwise_iff_getElem.1 (MV (Int.le_refl 0) hg) _ _ AD h h2;have h4:=GE (Int.le_refl 0) hg l[i] (List.getElem_mem h);simp only at h1
   omega
  ·have h3:BR (f,t) l=i:=AD;simp only[h3]at h1;exact h1)
 have HIn:Hid (∀(i:Nat) (h:i<l.length),l[i].1<l[i].2):=AC (fun i h=>(GE (Int.le_refl 0) hg l[i] (List.getElem_mem h)).2.1);have HI1:=AC (fun i (h:i<l.length) (ha:i<BR (f,t) l)=>Y3 h ha);have HI2:=AC (fun i (h:i<l.length) (ha:i=BR (f,t) l)=>nZ h ha);have HI3:=AC (fun i (h:i<l.length) (ha:BR (f,t) l<i)=>WQ h ha);have mX:=AC (ky (f,t) l);have HI5:=AC (ik (f,t) l);have HI0:=AC (eu (f,t) l);have qL:f<t:=by unfold Ed at hf;exact (of_decide_eq_true hf).2.1
 have HCt:Hid (∀(i:Nat) (h:i<l.length),C7 (f,t) (l.take (i+1))=(C7 (f,t) (l.take i) || decide (l[i].1<t/\f<l[i].2))):=AC (fun i h=>Ye h);have Q6:Hid (∀(i:Nat) (h:i<l.length),l[i].1<t->f<l[i].2->C7 (f,t) l=true):=AC (fun i h h1 h2=>dt h ⟨h1,h2⟩);have ZN:=JD (f,t) l;obtain ⟨A,cap,rfl,h2,h3⟩:=hv;have Kk:Hid (∀(j:Nat) (h:j<l.length),∃b off,A=some ⟨b,off,none⟩/\b<w.heap.size/\w.cell? ⟨b,off+j*2,none⟩=some (.int .i64 l[j].1)/\w.cell? ⟨b,off+j*2+1,none⟩=some (.int .i64 l[j].2)):=AC (fun j hj=>by
  obtain ⟨b,off,e,hb,hc⟩:=h3 AD;exact ⟨b,off,e,hb,hc j hj⟩)
 generalize BR (f,t) l=a at *;obtain ⟨m,hm⟩:=BZ (l.length);have HN:=AC hm;rw[hm]at h2 hl ZN HG mX ⊢;clear h3 hm hg hf;go_enter Tryz.func97,Tryz.ntmps97;go_wp2_with fail;refine AQ (fun wS=>AA w wS/\wS.heap[w.heap.size]?=some (.cells #[.int .i64 f,.int .i64 t] 69)) ⟨BQ,CG⟩ ?_;rintro w1 ⟨AJ,AH⟩;have AG:=AJ;refine (HG _ AG).mono ?_;rintro e w2 ⟨rfl,AL⟩;have AR:=AG.trans AL;have AU:=AB AL AH;have BS:=AE AU;go_wp2_with fail;refine (HF _).mono ?_;rintro e w3 ⟨rfl,AX⟩;have An:=AR.trans AX;have Ah:=AB AX AU;(try clear BS);clear HG HF;go_wp2_with fail;refine BW (fun wS=>AA w3 wS/\wS.heap[w3.heap.size]?=some (.cells #[] 69 (0,0))) ⟨BQ,CG⟩ ?_;rintro w4 ⟨Ao,CE⟩;go_loopg [8,9,10] m (fun k ov pv iv wr=>∃j:Nat,k=m-j/\j<=m/\iv=.int .i64 (j:Int)/\pv=.bool (decide (a<j))/\C7 (f,t) (l.take j)=false/\AA w3 wr/\OQ 69 wr w3.heap.size ov (FP (f,t) l j))
 case atStart=>exact ⟨0,AD,AD,rfl,Ar,by rw[take_zero];rfl,Ao,by rw[HI0.out];exact OQ.empty (Nat.le_refl _) CE⟩
 case round=>
  obtain ⟨j,hk,hj,rfl,rfl,OW,EW,ho⟩:=hrel;have HO:=AC ho;have HA:=AC EW;have fP:=AC OW;have rV:Hid ((FP (f,t) l j).length<=60001):=AC (by have:=HI5 j;rw[HN.out]at this;omega);obtain ⟨A4,Kq,rfl,-⟩:=ho.form;have AW:=An.trans EW;have CR:=AB EW Ah;have Dy:=AE CR;clear OW ho;by_cases BN:j<m
  ·have lj:j<l.length:=by rw[HN.out];exact BN
   have i0:(j:Int)<(m:Int):=AD;obtain ⟨b,off,rfl,hb,k0,k1⟩:=Kk j lj;have c0:wr.cell? ⟨b,off+j*2,none⟩=some (.int .i64 l[j].1):=(AW.below.cell hb).trans k0;have c1:wr.cell? ⟨b,off+j*2+1,none⟩=some (.int .i64 l[j].2):=(AW.below.cell hb).trans k1;have rJ:=HIn j lj;have tA:=AC (HCt j lj);have vH:=AC (Q6 j lj);clear k0 k1;by_cases hja:j<a
   ·have i1:=vh j lj hja;have HI:=AC (HI1 j lj hja);generalize l[j]=x at *;obtain ⟨f2,t2⟩:=x;simp only at c0 c1 i1 rJ
    have d1:f2<t:=AD;have d2:decide (f<t2)=false:=decide_eq_false AD;have d3:decide (f<f2)=false:=decide_eq_false AD;have d4:decide (a<j)=false:=decide_eq_false AD;have d5:decide (a<j+1)=false:=decide_eq_false AD;have HB:Hid (C7 (f,t) (l.take (j+1))=false):=AC (by rw[tA.out,fP.out,Bool.false_or];exact decide_eq_false (by simp only;omega));rw[d4];go_wp2_with fail
    go_quiet (fail)
    obtain ⟨n1,rfl⟩:∃n1,n1=nq:=⟨_,rfl⟩;go_wp2_with fail
    go_quiet (fail)
    obtain ⟨w5,gE⟩:=BZ ((wr.drewN n1).drewN nq);have Bd:AA wr w5:=by rw[<-gE];exact ((AA.refl wr).drewN _).drewN _
    rw[gE];clear gE;obtain ⟨u,w6,q1,q2,q3⟩:=OR Bk (f2,t2) (OQ.later Bd HO.out) (HA.out.trans Bd).below.size (le_trans rV (by decide));have K1:=AC q1;have K2:=AC (And.intro (q3 w3 (Nat.le_refl _) (HA.out.trans Bd)) q2);have c0:=Ak Bd c0;have c1:=Ak Bd c1;clear q1 q2 q3 Bd;generalize (FP (f,t) l j).length=nl at *;go_wp2_with (at_builtin;refine Lib.wpList_append_run _ rfl _ _ _ _ rfl _ _ rfl rfl _ _ K1.out ?_)
    go_roundg (m-(j+1))
    case measure=>omega
    case rel=>exact ⟨j+1,rfl,BN,by go_num,by rw[d5],HB.out,K2.out.1,by rw[HI.out];exact K2.out.2⟩
   ·have i1:=HGe j lj AD;rcases lt_or_ge a j with dD|dD
    ·have HI:=AC (HI3 j lj dD);generalize l[j]=x at *;obtain ⟨f2,t2⟩:=x;simp only at c0 c1 i1 rJ
     have d4:decide (a<j)=true:=decide_eq_true dD;have d5:decide (a<j+1)=true:=decide_eq_true AD;rw[d4];by_cases h1:f2<t
     ·have HE:=AC (Ta (vH h1 i1));go_wp2_with fail
      go_quiet (fail)
      go_wp2_with fail;refine bodyPost_ret (v:=.tuple #[.slice (some ⟨wr.heap.size,0,none⟩) 0 0,.int .i64 4]) (by simp[results,Tryz.results97,go_sem]) rfl ⟨_,by rw[HE.out.1],(AW.drewN _).alloc _,by rw[HE.out.2];exact QT.new rfl⟩
     ·have d1:decide (f2<t)=false:=decide_eq_false h1;have HB:Hid (C7 (f,t) (l.take (j+1))=false):=AC (by rw[tA.out,fP.out,Bool.false_or];exact decide_eq_false (by simp only;omega));go_wp2_with fail
      go_quiet (fail)
      obtain ⟨n1,rfl⟩:∃n1,n1=nq:=⟨_,rfl⟩;go_wp2_with fail
      go_quiet (fail)
      obtain ⟨w5,gE⟩:=BZ ((wr.drewN n1).drewN nq);have Bd:AA wr w5:=by rw[<-gE];exact ((AA.refl wr).drewN _).drewN _
      rw[gE];clear gE;obtain ⟨u,w6,q1,q2,q3⟩:=OR Bk (f2,t2) (OQ.later Bd HO.out) (HA.out.trans Bd).below.size (le_trans rV (by decide));have K1:=AC q1;have K2:=AC (And.intro (q3 w3 (Nat.le_refl _) (HA.out.trans Bd)) q2);have c0:=Ak Bd c0;have c1:=Ak Bd c1;clear q1 q2 q3 Bd;generalize (FP (f,t) l j).length=nl at *;go_wp2_with (at_builtin;refine Lib.wpList_append_run _ rfl _ _ _ _ rfl _ _ rfl rfl _ _ K1.out ?_)
      go_roundg (m-(j+1))
      case measure=>omega
      case rel=>exact ⟨j+1,rfl,BN,by go_num,by rw[d5],HB.out,K2.out.1,by rw[HI.out];exact K2.out.2⟩
    ·have HI:=AC (HI2 j lj AD);generalize l[j]=x at *;obtain ⟨f2,t2⟩:=x;simp only at c0 c1 i1 rJ
     have d4:decide (a<j)=false:=decide_eq_false AD;have d5:decide (a<j+1)=true:=decide_eq_true AD;rw[d4];by_cases h1:f2<t
     ·have HE:=AC (Ta (vH h1 i1));go_wp2_with fail
      go_quiet (fail)
      go_wp2_with fail;refine bodyPost_ret (v:=.tuple #[.slice (some ⟨wr.heap.size,0,none⟩) 0 0,.int .i64 4]) (by simp[results,Tryz.results97,go_sem]) rfl ⟨_,by rw[HE.out.1],(AW.drewN _).alloc _,by rw[HE.out.2];exact QT.new rfl⟩
     ·have d1:decide (f2<t)=false:=decide_eq_false h1;have d2:f<f2:=AD;have HB:Hid (C7 (f,t) (l.take (j+1))=false):=AC (by rw[tA.out,fP.out,Bool.false_or];exact decide_eq_false (by simp only;omega));go_wp2_with fail
      go_quiet (fail)
      obtain ⟨n1,rfl⟩:∃n1,n1=nq:=⟨_,rfl⟩;go_wp2_with fail
      go_quiet (fail)
      obtain ⟨w5,gE⟩:=BZ ((wr.drewN n1).drewN nq);have Bd:AA wr w5:=by rw[<-gE];exact ((AA.refl wr).drewN _).drewN _
      rw[gE];clear gE;obtain ⟨u,w6,q1,q2,q3⟩:=OR Bk (f,t) (OQ.later Bd HO.out) (HA.out.trans Bd).below.size (le_trans rV (by decide));have Ec:=q3 w3 (Nat.le_refl _) (HA.out.trans Bd);have HM6:Hid ((FP (f,t) l j++[(f,t)]).length=(FP (f,t) l j).length+1):=AC Ar;obtain ⟨A6,LZ,rfl,-⟩:=OQ.form q2;obtain ⟨u7,w7,q4,q5,q6⟩:=OR Bk (f2,t2) q2 Ec.below.size (by rw[HM6.out];exact le_trans (Nat.succ_le_succ rV.out) (by decide));have K1:=AC q1;have K3:=AC q4;have K2:=AC (And.intro (q6 w3 (Nat.le_refl _) Ec) q5);have ND:=AE (AB Bd CR);have c0:w6.cell? ⟨b,off+j*2,none⟩=some (.int .i64 f2):=(Ec.below.cell (lt_of_lt_of_le hb An.below.size)).trans ((HA.out.below.cell (lt_of_lt_of_le hb An.below.size)).symm.trans c0);have c1:w6.cell? ⟨b,off+j*2+1,none⟩=some (.int .i64 t2):=(Ec.below.cell (lt_of_lt_of_le hb An.below.size)).trans ((HA.out.below.cell (lt_of_lt_of_le hb An.below.size)).symm.trans c1);clear q1 q2 q3 q4 q5 q6 Bd;generalize (FP (f,t) l j++[(f,t)]).length=zd at *;generalize (FP (f,t) l j).length=nl at *;go_wp2_with (at_builtin;first|refine Lib.wpList_append_run _ rfl _ _ _ _ rfl _ _ rfl rfl _ _ K1.out ?_|refine Lib.wpList_append_run _ rfl _ _ _ _ rfl _ _ rfl rfl _ _ K3.out ?_)
      go_roundg (m-(j+1))
      case measure=>omega
      case rel=>exact ⟨j+1,rfl,BN,by go_num,by rw[d5],HB.out,K2.out.1,by rw[HI.out];exact K2.out.2⟩
  ·obtain rfl:j=m:=AD
   have HE:=AC (Q5 (by have:=fP.out;rwa [List.take_of_length_le (Nat.le_of_eq HN.out)]at this));have i0:decide ((j:Int)<(j:Int))=false:=Ar;rcases lt_or_ge a j with dD|dD
   ·have HI:Hid (FP (f,t) l j=Pj (f,t) l):=AC (by have:=mX.out;rw[if_neg AD]at this;exact this);have d4:decide (a<j)=true:=decide_eq_true dD;rw[d4];have HL7:=rV.out;generalize (FP (f,t) l j).length=nl at *;have d6:decide ((65536:Int)<(nl:Int))=false:=decide_eq_false AD;go_wp2_with fail;refine bodyPost_ret (v:=.tuple #[.slice A4 nl Kq,.int .i64 0]) (by simp[results,Tryz.results97,go_sem]) rfl ⟨_,by rw[HE.out.1],AW,by rw[HE.out.2,<-HI.out];exact OQ.qt HO.out⟩
   ·have HI:Hid (FP (f,t) l j++[(f,t)]=Pj (f,t) l):=AC (by have:=mX.out;rw[if_pos AD]at this;exact this);have d4:decide (a<j)=false:=decide_eq_false AD;rw[d4];obtain ⟨u,w6,q1,q2,q3⟩:=OR Bk (f,t) HO HA.out.below.size (le_trans rV (by decide));have Ec:=q3 w3 (Nat.le_refl _) HA.out;obtain ⟨A6,LZ,rfl,-⟩:=OQ.form q2;have K1:=AC q1;have K2:=AC (And.intro (An.trans Ec) q2);have HL7:(FP (f,t) l j++[(f,t)]).length<=60002:=by rw[List.length_append];have:=rV.out;simp;omega
    clear q1 q2 q3 Ec;generalize (FP (f,t) l j++[(f,t)]).length=zd at *;generalize (FP (f,t) l j).length=nl at *;have d6:decide ((65536:Int)<(zd:Int))=false:=decide_eq_false AD;go_wp2_with (at_builtin;refine Lib.wpList_append_run _ rfl _ _ _ _ rfl _ _ rfl rfl _ _ K1.out ?_)
    refine bodyPost_ret (v:=.tuple #[.slice A6 zd LZ,.int .i64 0]) (by simp[results,Tryz.results97,go_sem]) rfl ⟨_,by rw[HE.out.1],K2.out.1,by rw[HE.out.2,<-HI.out];exact OQ.qt K2.out.2⟩
theorem kU(v:Value)(l:Qs)(f t n:Int)(w:World)(hv:QR w v l)(hl:l.length<=60000):
 Calls Tryz.prog 97 #[v,.agg #[.int .i64 f,.int .i64 t],.int .i64 n] w (WM l (f,t) n w):=by
 cases hg:BJ n 0 l with
 |false=>exact js v l f t n w hv hl hg
 |true=>
  cases hf:Ed n (f,t) with
  |false=>exact Vq v l f t n w hv hl hg hf
  |true=>exact cN v l f t n w hv hl hg hf
end
end Go.Proofs.YtamhnffokoejjaaGreatDoor
