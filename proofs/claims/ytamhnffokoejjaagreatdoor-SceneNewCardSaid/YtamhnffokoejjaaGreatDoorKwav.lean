import Derived.Test.YtamhnffokoejjaaGreatDoorKwaq
import Derived.Test.YtamhnffokoejjaaGreatDoorKwaj
set_option linter.all false
set_option maxHeartbeats 3200000
set_option maxRecDepth 100000
namespace Go.Proofs.YtamhnffokoejjaaGreatDoor
open Go.RowKit
section
variable{l:Aa}{B:Nat}{v:Value}{w:World}
theorem Ge.wide{C:Nat}(hC:C<=B)(h:Ge w B v l):Ge w C v l:=by
 refine ⟨h.1,?_⟩;rcases h.2 with q|⟨g,cap,cur,h0,h1,h2⟩
 ·exact .inl q
 ·exact .inr ⟨g,cap,cur,h0,AD,h2⟩
theorem Ge.grown{W w2:World}(ho:Ge w B v l)(hW:W.heap.size<=B)(h:AA W w)(hg:w.grownBy w2 v.ownBlock):AA W w2:=
 CP h hg (fun q hq=>Nat.le_trans hW (DI ho q hq))
theorem M3{u:Value}{m:Aa}(ho:Ge w B v l)(hm:FH w u m)(hB:B<=w.heap.size)(hlen:l.length+m.length<=100000):
 ∃v' w',(Builtin.append_ #[35,35] 35 #[v,u]).run Tryz.prog w=.ok v' w'/\Ge w' B v' (l++m)/\w.grownBy w' v.ownBlock:=by
 obtain ⟨i0,Gv,JM,Ie,JN⟩:=info_parts Ug;obtain ⟨A,cap,rfl,h2,h3⟩:=hm
 cases A with
 |none=>
  have h0:m=[]:=by
   cases m with
   |nil=>rfl
   |cons x t=>obtain ⟨b,off,e,_⟩:=h3 Ar;cases e
  subst h0;obtain ⟨A2,c2,rfl,q2,_⟩:=ho.reads;have NL:=Src.ofNil (P:=Tryz.prog) w (size:=i0.size) Tryz.underlying35 cap;refine ⟨_,_,run_append_nothing (P:=Tryz.prog) w 35 35 35 76 i0 Tryz.underlying35 Gv A2 l.length c2 q2 _ NL,by rw[List.append_nil];exact ho,⟨rfl,rfl,rfl,Nat.le_refl _,fun _ _ _=>rfl⟩⟩
 |some ad=>
  by_cases h0:0<m.length
  ·obtain ⟨b,off,e,hb,hc⟩:=h3 h0;cases e;have Pv:=FH.cells (AA.refl w) (fun _=>hb) hc;obtain ⟨v',w',k1,k2,k3,_⟩:=run_append_own (P:=Tryz.prog) w B 35 35 76 i0 (.agg #[.int .i64 0,.int .i64 0]) 2 16 Tryz.underlying35 Gv JM Ie JN rfl (by decide) v l.length (Dp l) ho ⟨b,off,none⟩ m.length cap (Dp m) (by rw[Gp]) Pv (bB m) (by unfold maxLen;omega) AD hB;refine ⟨v',w',k1,?_,k3⟩;show w'.ownsRow B 76 2 v' (l++m).length (Dp (l++m))
   rw[List.length_append,TZ];exact k2
  ·obtain rfl:=List.eq_nil_of_length_eq_zero (Nat.eq_zero_of_not_pos h0)
   obtain ⟨v',w',k1,k2,k3,_⟩:=run_append_own (P:=Tryz.prog) w B 35 35 76 i0 (.agg #[.int .i64 0,.int .i64 0]) 2 16 Tryz.underlying35 Gv JM Ie JN rfl (by decide) v l.length (Dp l) ho ad 0 cap [] Ar (fun j x hx=>by simp at hx) (by intro x hx;simp at hx) (by unfold maxLen;omega) (by simp at hlen;omega) hB;refine ⟨v',w',k1,?_,k3⟩;show w'.ownsRow B 76 2 v' (l++[]).length (Dp (l++[]))
   rw[List.append_nil];simpa using k2
theorem Ge.one{g:Nat}{r:Int × Int}(hB:B<=g)(h:w.heap[g]?=some (.cells #[.int .i64 r.1,.int .i64 r.2] 76)):Ge w B (.slice (some ⟨g,0,none⟩) 1 1) [r]:=⟨rfl,.inr ⟨g,1,_,rfl,hB,h,Nat.le_refl _,by unfold maxLen;omega,rfl,rfl⟩⟩
theorem Nh(r:Int × Int)(ho:Ge w B v l)(hB:B<=w.heap.size)(hl:l.length<=90000):
 ∃u w2,(Builtin.append_ #[35,35] 35 #[v,.slice (some ⟨w.heap.size,0,none⟩) 1 1]).run Tryz.prog (w.alloc (.cells #[.int .i64 r.1,.int .i64 r.2] 76))=.ok u w2/\Ge w2 B u (l++[r])/\∀W,W.heap.size<=B->AA W w->AA W w2:=by
 have a1:AA w (w.alloc (.cells #[.int .i64 r.1,.int .i64 r.2] 76)):=(AA.refl w).alloc _;have hm:FH (w.alloc (.cells #[.int .i64 r.1,.int .i64 r.2] 76)) (.slice (some ⟨w.heap.size,0,none⟩) 1 1) [r]:=(Ge.one (B:=0) (Nat.zero_le _) (Ae rfl)).reads;have XI:=ho.later a1;obtain ⟨u,w2,k1,k2,k3⟩:=M3 XI hm (Nat.le_trans hB a1.below.size) (by simp;omega);exact ⟨u,w2,k1,k2,fun W h1 h2=>Ge.grown XI h1 (h2.trans a1) k3⟩
theorem WL(hr:FH w v l)(hl:l.length<=90000):
 ∃u w2,(Builtin.append_ #[35,35] 35 #[.slice (some ⟨w.heap.size,0,none⟩) 0 0,v]).run Tryz.prog (w.alloc (.cells #[] 76))=.ok u w2/\AA w w2/\Ge w2 w.heap.size u l:=by
 have a1:AA w (w.alloc (.cells #[] 76)):=(AA.refl w).alloc _;have ho:=QQ w;obtain ⟨u,w2,k1,k2,k3⟩:=M3 ho (hr.later a1) a1.below.size (by simp;omega);exact ⟨u,w2,k1,Ge.grown ho (Nat.le_refl _) a1 k3,k2⟩
def CV(l:Aa):Prop:=∀r∈l,BO r.1/\BO r.2
theorem CV.take(h:CV l)(n:Nat):CV (l.take n):=fun r hr=>h r (List.mem_of_mem_take hr)
theorem N5(n s:Int)(c:Bool)(hc:CY (n,s)=c):(decide (1<=n) && decide (n<=16777216) && BL s)=c:=by
 rw[<-hc];unfold CY;simp[Bool.decide_and]
theorem QM(n s:Int)(w:World)(c:Bool)(hc:CY (n,s)=c)(hn:BO n)(hs:BO s):Calls Tryz.prog 98 #[.agg #[.int .i64 n,.int .i64 s]] w fun e w'=>e=.returned (.bool c)/\AA w w':=by
 have hc:=N5 n s c hc;have HG:=AC (fun w=>Jj s w _ rfl hs);have HC:=AC hc;generalize BL s=g at *;obtain ⟨n1,n2⟩:=hn;obtain ⟨s1,s2⟩:=hs;clear hc;by_cases q1:1<=n
 ·by_cases q2:n<=16777216
  ·have Hw:Hid (g=c):=AC (by rw[<-HC.out];simp[q1,q2]);go_enter Tryz.func98,Tryz.ntmps98;go_wp2_with (go_at_call 144;refine (HG _).mono ?_;rintro e w' ⟨rfl,rfl⟩)
   go_ret;exact ⟨Am Hw.out,BQ⟩
  ·have Hw:Hid (false=c):=AC (by rw[<-HC.out];simp[q2]);go_enter Tryz.func98,Tryz.ntmps98;go_wp2_with (go_at_call 144;refine (HG _).mono ?_;rintro e w' ⟨rfl,rfl⟩)
   go_ret;exact ⟨Am Hw.out,BQ⟩
 ·have Hw:Hid (false=c):=AC (by rw[<-HC.out];simp[q1]);go_enter Tryz.func98,Tryz.ntmps98;go_wp2_with (go_at_call 144;refine (HG _).mono ?_;rintro e w' ⟨rfl,rfl⟩)
  go_ret;exact ⟨Am Hw.out,BQ⟩
theorem Dn{j:Nat}(h:j<l.length):AM (l.take (j+1))=AM (l.take j)++DY l[j]:=by
 rw[List.take_succ_eq_append_getElem h,Bw];simp[AM]
theorem I8(l:Aa)(j:Nat):(AM (l.take j)).length<=(AM l).length:=by
 conv=>rhs;rw[<-List.take_append_drop j l,Bw,List.length_append]
 omega
def GF(l:Aa):Bool:=decide ((AM l).length<=4000) && decide (l.length<=100)
theorem YU(b off n cap:Nat)(l:Aa)(w:World)(c:Bool)(Eu:GF l=c)(hl:l.length=n)(hn:n<=100000)(hN:CV l)(hb:b<w.heap.size)(hc:∀(j:Nat) (h:j<l.length),w.cell? ⟨b,off+j*2,none⟩=some (.int .i64 l[j].1)/\w.cell? ⟨b,off+j*2+1,none⟩=some (.int .i64 l[j].2)):
 Calls Tryz.prog 56 #[.slice (some ⟨b,off,none⟩) n cap] w fun e w'=>e=.returned (.bool c)/\AA w w':=by
 have HL:=AC hl;have HC:=AC hc;have Kk:=AC Eu;have J3:=AC hN;clear hl hc Eu hN;go_enter Tryz.func56,Tryz.ntmps56;go_wp2_with fail;go_loopg [3,4] n (fun k s i wr=>AA w wr/\∃j:Nat,k=n-j/\j<=n/\i=.int .i64 j/\∃t:Nat,s=.int .i64 t/\(AM (l.take j)).length=t/\t<=4000)
 case atStart=>exact ⟨AA.refl _,0,AD,AD,rfl,0,rfl,rfl,AD⟩
 case round=>
  obtain ⟨AW,j,hk,hj,rfl,t,rfl,ht,nt⟩:=hrel;have HT:=AC ht;have HA:=AC AW;clear ht;by_cases BN:j<n
  ·have lj:j<l.length:=by rw[HL.out];exact BN
   have c0:wr.cell? ⟨b,off+j*2,none⟩=some (.int .i64 l[j].1):=(AW.below.cell hb).trans (HC j lj).1;have c1:wr.cell? ⟨b,off+j*2+1,none⟩=some (.int .i64 l[j].2):=(AW.below.cell hb).trans (HC j lj).2;have hlx:b<wr.heap.size:=Nat.lt_of_lt_of_le hb AW.below.size;have HS:=AC (Dn lj);have HM:=AC (I8 l (j+1));have hx:=J3 l[j] (List.getElem_mem lj);have HO:Hid (((DY l[j]).length:Int)=if CY l[j] then l[j].1 else 0):=AC FG;generalize l[j]=x at *;obtain ⟨f,s⟩:=x;simp only at c0 c1 hx HO
   cases hf:CY (f,s) with
   |true=>
    have HF:=AC (fun w=>QM f s w true hf hx.1 hx.2);obtain ⟨f1,f2,_⟩:=Cz hf;simp only at f1 f2
    have N9:Hid (((DY (f,s)).length:Int)=f):=AC (by rw[HO.out,hf];rfl);clear hf hx HO;by_cases hg:4000-(t:Int)<f
    ·have HZ:Hid (false=c):=AC (by
      rw[<-Kk.out,eq_comm];unfold GF;rw[Bool.and_eq_false_iff];left;apply decide_eq_false
      have h1:=HM.out;rw[HS.out,List.length_append,HT.out]at h1;have h2:=N9.out;omega)
     go_wp2_with fail;refine (HF _).mono ?_;rintro e w1 ⟨rfl,b1⟩;have d0:w1.cell? ⟨b,off+j*2,none⟩=some (.int .i64 f):=(b1.below.cell hlx).trans c0;have Ej:=AC (HA.out.trans b1);clear b1 AW;go_wp2_with fail;go_ret;exact ⟨Am HZ.out,Ej.out⟩
    ·have hgf:decide (4000-(t:Int)<f)=false:=decide_eq_false hg;go_wp2_with fail;refine (HF _).mono ?_;rintro e w1 ⟨rfl,b1⟩;have d0:w1.cell? ⟨b,off+j*2,none⟩=some (.int .i64 f):=(b1.below.cell hlx).trans c0;have Ej:=AC (HA.out.trans b1);clear b1 AW;go_wp2_with fail;go_roundg (n-(j+1))
     case measure=>omega
     case rel=>exact ⟨Ej.out,j+1,rfl,BN,by go_num,t+f.toNat,by go_num,by rw[HS.out,List.length_append,HT.out];have:=N9.out;omega,AD⟩
   |false=>
    have HF:=AC (fun w=>QM f s w false hf hx.1 hx.2);have N9:Hid (((DY (f,s)).length:Int)=0):=AC (by rw[HO.out,hf];rfl);clear hf hx HO;go_wp2_with fail;refine (HF _).mono ?_;rintro e w1 ⟨rfl,b1⟩;have Ej:=AC (HA.out.trans b1);clear b1 AW;go_wp2_with fail;go_roundg (n-(j+1))
    case measure=>omega
    case rel=>exact ⟨Ej.out,j+1,rfl,BN,by go_num,t,rfl,by rw[HS.out,List.length_append,HT.out];have:=N9.out;omega,nt⟩
  ·obtain rfl:j=n:=AD
   have HZ:Hid (decide ((j:Int)<=100)=c):=AC (by
    rw[<-Kk.out];unfold GF;have:=HT.out
    rw[List.take_of_length_le (Nat.le_of_eq HL.out)]at this;rw[this,HL.out,decide_eq_true nt,Bool.true_and,decide_eq_decide];omega)
   clear AW;go_wp2_with fail;go_ret;exact ⟨Am HZ.out,HA.out⟩
theorem ZV(A:Option Addr)(cap:Nat)(w:World):Calls Tryz.prog 56 #[.slice A 0 cap] w fun e w'=>e=.returned (.bool true)/\w=w':=by
 go_enter Tryz.func56,Tryz.ntmps56;go_wp2_with fail;refine wp_loop_rounds 1 ?_;rw[rounds_succ];go_wp2_with fail;go_ret;exact ⟨rfl,rfl⟩
theorem cK(v:Value)(l:Aa)(w:World)(c:Bool)(hc:GF l=c)(h:FH w v l)(hN:CV l)(hn:l.length<=100000):Calls Tryz.prog 56 #[v] w fun e w'=>e=.returned (.bool c)/\AA w w':=by
 obtain ⟨A,cap,rfl,h2,h3⟩:=h;rcases Nat.eq_zero_or_pos l.length with h0|h0
 ·obtain rfl:=List.eq_nil_of_length_eq_zero h0
  obtain rfl:true=c:=by rw[<-hc];rfl
  exact DT (ZV A cap w)
 ·obtain ⟨b,off,rfl,hb,Eu⟩:=h3 h0;exact YU b off _ cap l w c hc rfl hn hN hb Eu
structure IW where
 kind:Int
 a:Int
 n:Int
 t:Int
 vb:Value
 vl:Value
 vf:Value
 b:List Int
 l:Aa
 f:Qs
def J0(A:IW):List Value:=[.int .i64 A.kind,.int .i64 A.a,.int .i64 A.n,.int .i64 A.t,A.vb,A.vl,A.vf]
def Ho(A:IW):Value:=.agg (J0 A).toArray
structure IW.Ok(w:World)(A:IW):Prop where
 rb:RN .u8 w A.vb A.b
 bb:BX A.b
 rl:FH w A.vl A.l
 nl:CV A.l
 rf:QR w A.vf A.f
 ia:BO A.a
 mB:BO A.n
 it:BO A.t
theorem IW.Ok.later{w':World}{A:IW}(h:IW.Ok w A)(a:AA w w'):IW.Ok w' A:=⟨h.rb.later a,h.bb,h.rl.later a,h.nl,h.rf.later a,h.ia,h.mB,h.it⟩
def g_(w:World)(v:Value)(l:List IW):Prop:=∃(A:Option Addr) (cap:Nat),v=.slice A l.length cap/\(∀(j:Nat) (h:j<l.length),IW.Ok w l[j])/\
 (0<l.length->∃b off,A=some ⟨b,off,none⟩/\b<w.heap.size/\∀(j:Nat) (h:j<l.length) (k:Nat),k<7->w.cell? ⟨b,off+j*7+k,none⟩=(J0 l[j])[k]?)
end
end Go.Proofs.YtamhnffokoejjaaGreatDoor
