import Derived.Deep.Upon
import Derived.Test.YtamhnffokoejjaaGreatDoorKwae
import Derived.Test.YtamhnffokoejjaaGreatDoorRows
set_option linter.all false
set_option maxRecDepth 100000
namespace Go.Proofs.YtamhnffokoejjaaGreatDoor
open List(length_cons length_drop length_take getElem?_take_of_lt append_nil getElem?_eq_none length_set ext_getElem? replicate)
open Nat(add_mul one_mul zero_le le_refl mod_lt mul_comm mul_le_mul_right)
open Go.RowKit
section
structure Ic(α:Type) where
 fl:α->List Value
 k:Nat
 pos:0<k
 len:∀a,(fl a).length=k
 one:∀a,∀u∈fl a,u.oneCell'=true
section
variable {α:Type}(F:Ic α)
def Ic.row(l:List α):List Value:=l.flatMap F.fl
theorem Ic.nj:F.row []=[]:=rfl
theorem Ic.Ms(a:α)(l:List α):F.row (a::l)=F.fl a++F.row l:=rfl
theorem Ic.YR(a b:List α):F.row (a++b)=F.row a++F.row b:=by unfold Ic.row;rw[List.flatMap_append]
theorem Ic.DR:∀l:List α,(F.row l).length=l.length*F.k
 |[]=>by simp[Ic.row]
 |b::l=>by rw[F.Ms,List.length_append,F.len,DR l,length_cons,add_mul,one_mul,Nat.add_comm]
theorem Ic.IE:∀(l:List α) (j i:Nat),i<F.k->(F.row l)[j*F.k+i]?=(l[j]?).bind fun a=>(F.fl a)[i]?
 |[],j,i,_=>by simp[Ic.row]
 |b::l,0,i,h=>by
  rw[F.Ms,Nat.zero_mul,Nat.zero_add,List.getElem?_append_left (by rw[F.len];exact h)];rfl
 |b::l,j+1,i,h=>by
  rw[F.Ms,List.getElem?_append_right (by rw[F.len,add_mul];omega),F.len,show (j+1)*F.k+i-F.k=j*F.k+i by rw[add_mul];omega,IE l j i h];rfl
theorem Ic.row_one(l:List α):∀u∈F.row l,u.oneCell'=true:=by
 intro u hu;obtain ⟨b,_,hb⟩:=List.mem_flatMap.1 hu;exact F.one b u hb
theorem Ic.Yl{l:List α}{j:Nat}(h:j<l.length){i:Nat}{x:Value}(hx:(F.fl l[j])[i]?=some x):(F.row l)[j*F.k+i]?=some x:=by
 have hi:i<F.k:=by rw[<-F.len l[j]];exact (List.getElem?_eq_some_iff.1 hx).1
 rw[F.IE l j i hi,List.getElem?_eq_getElem h];exact hx
def FR(w:World)(v:Value)(l:List α):Prop:=∃(A:Option Addr) (cap:Nat),v=.slice A l.length cap/\l.length<=cap/\(0<l.length->∃b off,A=some ⟨b,off,none⟩/\b<w.heap.size/\∀(j:Nat) (h:j<l.length) (i:Nat) (x:Value),(F.fl l[j])[i]?=some x->w.cell? ⟨b,off+j*F.k+i,none⟩=some x)
variable {F}
theorem FR.later{w w':World}{v:Value}{l:List α}(h:FR F w v l)(ha:AA w w'):FR F w' v l:=by
 obtain ⟨A,cap,h1,h2,h3⟩:=h;refine ⟨A,cap,h1,h2,fun h0=>?_⟩;obtain ⟨b,off,e,hb,hc⟩:=h3 h0;exact ⟨b,off,e,Nat.lt_of_lt_of_le hb ha.below.size,fun j hj i x hx=>(ha.below.cell hb).trans (hc j hj i x hx)⟩
theorem FR.form{w:World}{v:Value}{l:List α}(h:FR F w v l):∃A cap,v=.slice A l.length cap/\l.length<=cap:=by
 obtain ⟨A,cap,h1,h2,_⟩:=h;exact ⟨A,cap,h1,h2⟩
theorem FR.void(w:World)(A:Option Addr)(cap:Nat):FR F w (.slice A 0 cap) []:=⟨A,cap,rfl,zero_le _,fun h=>absurd h Ar⟩
theorem FR.at{w:World}{A:Option Addr}{n cap:Nat}{l:List α}(h:FR F w (.slice A n cap) l)(j:Nat)(hj:j<l.length):∃b off,A=some ⟨b,off,none⟩/\b<w.heap.size/\∀(i:Nat) (x:Value),(F.fl l[j])[i]?=some x->w.cell? ⟨b,off+j*F.k+i,none⟩=some x:=by
 obtain ⟨A',DZ,e,h2,h3⟩:=h;cases e;obtain ⟨b,off,e,hb,hc⟩:=h3 AD;exact ⟨b,off,e,hb,hc j hj⟩
theorem Ro(b off n:Nat):(⟨b,off,none⟩:Addr).add n=⟨b,off+n,none⟩:=by unfold Addr.add;split <;> simp_all
theorem FR.drop{w:World}{A:Option Addr}{cap:Nat}{l:List α}(h:FR F w (.slice A l.length cap) l)(n:Nat)(hn:n<=l.length):FR F w (.slice (if cap=n then A else A.map (fun x=>x.add (n*F.k))) (l.length-n) (cap-n)) (l.drop n):=by
 obtain ⟨A',DZ,e,h2,h3⟩:=h;cases e;refine ⟨_,_,by rw[length_drop],by rw[length_drop];omega,fun h0=>?_⟩;rw[length_drop]at h0;obtain ⟨b,off,rfl,hb,hc⟩:=h3 AD;rw[if_neg AD];refine ⟨b,off+n*F.k,by rw[Option.map_some,Ro],hb,fun j hj i x hx=>?_⟩;rw[length_drop]at hj;rw[List.getElem_drop]at hx;have:=hc (n+j) AD i x hx
 rw[add_mul]at this;rwa [show off+n*F.k+j*F.k+i=off+(n*F.k+j*F.k)+i by omega]
theorem FR.take{w:World}{A:Option Addr}{cap:Nat}{l:List α}(h:FR F w (.slice A l.length cap) l)(n:Nat)(hn:n<=l.length):FR F w (.slice A n cap) (l.take n):=by
 obtain ⟨A',DZ,e,h2,h3⟩:=h;cases e;have hl:(l.take n).length=n:=by rw[length_take];omega
 refine ⟨A,cap,by rw[hl],by rw[hl];omega,fun h0=>?_⟩;rw[hl]at h0;obtain ⟨b,off,rfl,hb,hc⟩:=h3 AD;refine ⟨b,off,rfl,hb,fun j hj i x hx=>?_⟩;rw[hl]at hj;rw[List.getElem_take]at hx;exact hc j AD i x hx
variable (F) in
abbrev OF(t:TypeId)(w:World)(B:Nat)(v:Value)(l:List α):Prop:=w.ownsRow B t F.k v l.length (F.row l)
theorem OF.fr{t:TypeId}{w:World}{B:Nat}{v:Value}{l:List α}(h:OF F t w B v l):FR F w v l:=by
 rcases h.2 with ⟨rfl,h0⟩|⟨g,cap,cur,rfl,h2,h3,h4,h5,h6,h7⟩
 ·refine ⟨none,0,by rw[h0],AD,fun hp=>by omega⟩
 ·refine ⟨some ⟨g,0,none⟩,cap,rfl,h4,fun _=>⟨g,0,rfl,As h3,fun j hj i x hx=>?_⟩⟩;have e:∀k,k<l.length*F.k->cur[k]?=(F.row l)[k]?:=fun k hk=>by
   have:(cur.toList.take (l.length*F.k))[k]?=(F.row l)[k]?:=by rw[h7]
   rw[getElem?_take_of_lt hk]at this;simpa using this
  have hr:=F.Yl hj hx;have hk:j*F.k+i<l.length*F.k:=by rw[<-F.DR];exact (List.getElem?_eq_some_iff.1 hr).1
  rw[Nat.zero_add,AE h3,e _ hk,hr]
theorem OF.later{t:TypeId}{w w':World}{B:Nat}{v:Value}{l:List α}(ha:AA w w')(h:OF F t w B v l):OF F t w' B v l:=GG ha h
theorem OF.form{t:TypeId}{w:World}{B:Nat}{v:Value}{l:List α}(h:OF F t w B v l):∃A cap,v=.slice A l.length cap/\l.length<=cap:=(OF.fr h).form
theorem OF.wide{t:TypeId}{w:World}{B C:Nat}{v:Value}{l:List α}(hC:C<=B)(h:OF F t w B v l):OF F t w C v l:=by
 refine ⟨h.1,?_⟩;rcases h.2 with q|⟨g,cap,cur,h0,h1,h2⟩
 ·exact .inl q
 ·exact .inr ⟨g,cap,cur,h0,AD,h2⟩
theorem OF.grown{t:TypeId}{W w w2:World}{B:Nat}{v:Value}{l:List α}(ho:OF F t w B v l)(hW:W.heap.size<=B)(h:AA W w)(hg:w.grownBy w2 v.ownBlock):AA W w2:=
 CP h hg (fun q hq=>Nat.le_trans hW (DI ho q hq))
theorem OF.empty{t:TypeId}{w:World}{g B:Nat}(hB:B<=g)(h:w.heap[g]?=some (.cells #[] t)):OF F t w B (.slice (some ⟨g,0,none⟩) 0 0) []:=⟨by simp[Ic.row],.inr ⟨g,0,#[],rfl,hB,h,le_refl _,zero_le _,Ar,by simp[Ic.row]⟩⟩
theorem OF.nil(t:TypeId)(w:World)(B:Nat):OF F t w B (.slice none 0 0) []:=⟨by simp[Ic.row],.inl ⟨rfl,rfl⟩⟩
theorem OF.one{t:TypeId}{w:World}{g B:Nat}{r:α}(hB:B<=g)(h:w.heap[g]?=some (.cells (F.fl r).toArray t)):OF F t w B (.slice (some ⟨g,0,none⟩) 1 1) [r]:=
 ⟨by rw[F.DR],.inr ⟨g,1,_,rfl,hB,h,le_refl _,by unfold maxLen;omega,by simp[F.len],by rw[F.Ms,F.nj,append_nil];apply List.take_of_length_le;simp[F.len]⟩⟩
theorem FR.cells{w:World}{b off:Nat}{l:List α}(hc:∀(j:Nat) (h:j<l.length) (i:Nat) (x:Value),(F.fl l[j])[i]?=some x->w.cell? ⟨b,off+j*F.k+i,none⟩=some x):
 ∀(j:Nat) (u:Value),(F.row l)[j]?=some u->w.cell? ((⟨b,off,none⟩:Addr).add j)=some u:=by
 intro j u hu;have hj:j<l.length*F.k:=by
  rcases Nat.lt_or_ge j (l.length*F.k) with h|h
  ·exact h
  ·rw[getElem?_eq_none (by rw[F.DR];exact h)]at hu;cases hu
 have hk:j/F.k<l.length:=(Nat.div_lt_iff_lt_mul F.pos).2 hj;have hm:j%F.k<F.k:=mod_lt _ F.pos;have e:j=j/F.k*F.k+j%F.k:=by rw[mul_comm];exact (Nat.div_add_mod j F.k).symm
 rw[Ro];generalize j/F.k=q at *;generalize j%F.k=i at *;subst e;rw[F.IE l q i hm,List.getElem?_eq_getElem hk]at hu;rw[<-Nat.add_assoc];exact hc q hk i u hu
variable (F) in
structure Jy(t s:TypeId)(z:Value)(bytes:Nat):Prop where
 Yq:Tryz.prog.underlying s=some (.slice t)
 el:Tryz.prog.elem s=t
 info:(Tryz.prog.info? t).map (fun i=>(i.zero,i.size,i.bytes))=some (some z,F.k,bytes)
 size:∀w,(Go.sizeOf (Tryz.prog.elem s)).run Tryz.prog w=.ok F.k w
 zero:z.cells.size=F.k
 mA:bytes<=700000000
theorem Jy.L_{t s:TypeId}{z:Value}{bytes:Nat}(T:Jy F t s z bytes):Tryz.prog.underlying s=some (.slice (Tryz.prog.elem s)):=by rw[T.el];exact T.Yq
theorem Jy.bound{t s:TypeId}{z:Value}{bytes:Nat}(T:Jy F t s z bytes){n:Nat}(h:n<=200000):n*bytes<=140737488355328:=by
 have:=Nat.mul_le_mul h T.mA
 omega
theorem wK{t s:TypeId}{z:Value}{bytes:Nat}(T:Jy F t s z bytes){w:World}{B:Nat}{v u:Value}{l m:List α}(ho:OF F t w B v l)(hm:FR F w u m)(hB:B<=w.heap.size)(hlen:l.length+m.length<=200000):
 ∃v' w',(Builtin.append_ #[s,s] s #[v,u]).run Tryz.prog w=.ok v' w'/\OF F t w' B v' (l++m)/\w.grownBy w' v.ownBlock:=by
 obtain ⟨i0,Gv,JM,Ie,JN⟩:=info_parts T.info;obtain ⟨A,cap,rfl,h2,h3⟩:=hm
 cases A with
 |none=>
  have h0:m=[]:=by
   cases m with
   |nil=>rfl
   |cons x t=>obtain ⟨b,off,e,_⟩:=h3 Ar;cases e
  subst h0;obtain ⟨A2,c2,rfl,q2⟩:=ho.form;have NL:=Src.ofNil (P:=Tryz.prog) w (size:=i0.size) T.Yq cap;refine ⟨_,_,run_append_nothing (P:=Tryz.prog) w s s s t i0 T.Yq Gv A2 l.length c2 q2 _ NL,by rw[append_nil];exact ho,⟨rfl,rfl,rfl,le_refl _,fun _ _ _=>rfl⟩⟩
 |some ad=>
  by_cases h0:0<m.length
  ·obtain ⟨b,off,e,hb,hc⟩:=h3 h0;cases e;obtain ⟨v',w',k1,k2,k3,_⟩:=run_append_own (P:=Tryz.prog) w B s s t i0 z F.k bytes T.Yq Gv JM Ie JN T.zero F.pos v l.length (F.row l) ho ⟨b,off,none⟩ m.length cap (F.row m) (by rw[F.DR]) (FR.cells hc) (F.row_one m) (by unfold maxLen;omega) (T.bound hlen) hB;refine ⟨v',w',k1,?_,k3⟩;show w'.ownsRow B t F.k v' (l++m).length (F.row (l++m))
   rw[List.length_append,F.YR];exact k2
  ·obtain rfl:=List.eq_nil_of_length_eq_zero (Nat.eq_zero_of_not_pos h0)
   obtain ⟨v',w',k1,k2,k3,_⟩:=run_append_own (P:=Tryz.prog) w B s s t i0 z F.k bytes T.Yq Gv JM Ie JN T.zero F.pos v l.length (F.row l) ho ad 0 cap [] Ar (fun j x hx=>by simp at hx) (by intro x hx;simp at hx) (by unfold maxLen;simp at hlen;omega) (T.bound (by simpa using hlen)) hB;refine ⟨v',w',k1,?_,k3⟩;show w'.ownsRow B t F.k v' (l++[]).length (F.row (l++[]))
   rw[append_nil];simpa using k2
theorem Z9{t s:TypeId}{z:Value}{bytes:Nat}(T:Jy F t s z bytes){w:World}{B:Nat}{v:Value}{l:List α}(r:α){cs:Array Value}(hr:(F.fl r).toArray=cs)(ho:OF F t w B v l)(hB:B<=w.heap.size)(hl:l.length<=190000):
 ∃u w2,(Builtin.append_ #[s,s] s #[v,.slice (some ⟨w.heap.size,0,none⟩) 1 1]).run Tryz.prog (w.alloc (.cells cs t))=.ok u w2/\OF F t w2 B u (l++[r])/\(∀W,W.heap.size<=B->AA W w->AA W w2)/\(w.alloc (.cells cs t)).grownBy w2 v.ownBlock:=by
 subst hr;have a1:AA w (w.alloc (.cells (F.fl r).toArray t)):=(AA.refl w).alloc _;have hm:FR F (w.alloc (.cells (F.fl r).toArray t)) (.slice (some ⟨w.heap.size,0,none⟩) 1 1) [r]:=OF.fr (OF.one (B:=0) (zero_le _) (Ae rfl));have XI:=OF.later a1 ho;obtain ⟨u,w2,k1,k2,k3⟩:=wK T XI hm (Nat.le_trans hB a1.below.size) (by simp;omega);exact ⟨u,w2,k1,k2,fun W h1 h2=>OF.grown XI h1 (h2.trans a1) k3,k3⟩
theorem uo{t s:TypeId}{z:Value}{bytes:Nat}(T:Jy F t s z bytes){w:World}{v:Value}{l:List α}(hr:FR F w v l)(hl:l.length<=190000):
 ∃u w2,(Builtin.append_ #[s,s] s #[.slice (some ⟨w.heap.size,0,none⟩) 0 0,v]).run Tryz.prog (w.alloc (.cells #[] t))=.ok u w2/\AA w w2/\OF F t w2 w.heap.size u l:=by
 have a1:AA w (w.alloc (.cells #[] t)):=(AA.refl w).alloc _;have ho:OF F t (w.alloc (.cells #[] t)) w.heap.size (.slice (some ⟨w.heap.size,0,none⟩) 0 0) []:=OF.empty (le_refl _) (Ae rfl);obtain ⟨u,w2,k1,k2,k3⟩:=wK T ho (hr.later a1) a1.below.size (by simp;omega);exact ⟨u,w2,k1,OF.grown ho (le_refl _) a1 k3,k2⟩
theorem FR.wY{t s:TypeId}{z:Value}{bytes:Nat}(T:Jy F t s z bytes){w:World}{v:Value}{l:List α}(h:FR F w v l)(i j:Nat)(hi:i<=j)(hj:j<=l.length):∃u,FR F w u ((l.take j).drop i)/\∀w',(Instr.sliceAt s v (some (.int .i64 (i:Int))) (some (.int .i64 (j:Int))) none).run Tryz.prog w'=.ok u w':=by
 obtain ⟨A,cap,rfl,h2,h3⟩:=h;have hl:(l.take j).length=j:=by rw[length_take];omega
 have h1:=FR.take ⟨A,cap,rfl,h2,h3⟩ j hj;have k:=FR.drop (by rw[hl];exact h1) i AD;rw[hl]at k;refine ⟨_,k,fun w'=>?_⟩;rw[run_sliceAt_slice w' _ _ _ _ _ T.L_,run_slice_lh w' _ A l.length cap T.L_ .i64 .i64 (i:Int) (j:Int) AD AD AD];rw[T.size];simp[Result.andThen,sliced]
end
end
section
theorem NZ{g:Nat}{e:TypeId}:∀(vs:List Value) (o:Nat) (w:World) (cur:Array Value),w.heap[g]?=some (.cells cur e)->o+vs.length<=cur.size->∃cur',(w.setCells g o vs).heap[g]?=some (.cells cur' e)/\cur'.size=cur.size/\
 ∀k,cur'[k]?=if o<=k/\k<o+vs.length then vs[k-o]? else cur[k]?
 |[],o,w,cur,h,_=>⟨cur,h,rfl,fun k=>by rw[if_neg Ar]⟩
 |v::vs,o,w,cur,h,hs=>by
  rw[length_cons]at hs;obtain ⟨c',h1,h2,h3⟩:=NZ vs (o+1) (w.setCell ⟨g,o,none⟩ v) _ (BI h rfl) (by rw[Array.size_setIfInBounds];omega);refine ⟨c',h1,by simpa using h2,fun k=>?_⟩;rw[h3 k,length_cons];by_cases q:k=o
  ·subst q;rw[if_neg AD,if_pos AD,Nat.sub_self,Array.getElem?_setIfInBounds_self,if_pos AD];rfl
  ·rw[Array.getElem?_setIfInBounds_ne (fun e=>q e.symm)];by_cases q2:o+1<=k/\k<o+1+vs.length
   ·rw[if_pos q2,if_pos AD,show k-o=(k-(o+1))+1 by omega,List.getElem?_cons_succ]
   ·rw[if_neg q2,if_neg AD]
theorem Ev{B:Nat}{e t:TypeId}{size g:Nat}{v:Value}{n:Nat}{xs:List Value}(Az:t≠e):∀(vs:List Value) (o:Nat) (w:World) (cs:Array Value),w.heap[g]?=some (.cells cs t)->w.ownsRow B e size v n xs->(w.setCells g o vs).ownsRow B e size v n xs
 |[],_,_,_,_,h=>h
 |x::vs,o,w,cs,hg,h=>Ev Az vs (o+1) _ _ (BI hg rfl) (JJ hg Az x o h)
theorem Gy{W:World}{g:Nat}(hg:W.heap.size<=g):∀(vs:List Value) (o:Nat) (w:World),AA W w->AA W (w.setCells g o vs)
 |[],_,_,h=>h
 |v::vs,o,w,h=>Gy hg vs (o+1) _ (h.setCell (p:=⟨g,o,none⟩) hg v)
section
variable {α:Type}{F:Ic α}
theorem ab{l:List α}{i:Nat}(a:α)(h:i<l.length)(k:Nat)(hk:k<l.length*F.k):(F.row (l.set i a))[k]?=if i*F.k<=k/\k<i*F.k+F.k then (F.fl a)[k-i*F.k]? else (F.row l)[k]?:=by
 have hq:k/F.k<l.length:=(Nat.div_lt_iff_lt_mul F.pos).2 hk;have hm:k%F.k<F.k:=mod_lt _ F.pos;have e:k=k/F.k*F.k+k%F.k:=by rw[mul_comm];exact (Nat.div_add_mod k F.k).symm
 generalize k/F.k=q at *;generalize k%F.k=m at *;subst e;rw[F.IE _ q m hm,F.IE _ q m hm];by_cases hi:i=q
 ·subst hi;rw[List.getElem?_set_self h,if_pos AD,Nat.add_sub_cancel_left];rfl
 ·rw[List.getElem?_set_ne hi,if_neg];rintro ⟨h1,h2⟩;rcases Nat.lt_or_gt_of_ne hi with h3|h3
  ·have:=mul_le_mul_right F.k (show i+1<=q from h3)
   rw[add_mul,one_mul]at this;omega
  ·have:=mul_le_mul_right F.k (show q+1<=i from h3)
   rw[add_mul,one_mul]at this;omega
theorem OF.put{t:TypeId}{w:World}{B g n cap:Nat}{l:List α}{i:Nat}(a:α)(h:OF F t w B (.slice (some ⟨g,0,none⟩) n cap) l)(hi:i<l.length):OF F t (w.setCells g (i*F.k) (F.fl a)) B (.slice (some ⟨g,0,none⟩) n cap) (l.set i a):=by
 refine ⟨by rw[F.DR],?_⟩;rcases h.2 with ⟨e,_⟩|⟨g',DZ,cur,e,h2,h3,h4,h5,h6,h7⟩
 ·cases e
 ·cases e;have hb:i*F.k+F.k<=l.length*F.k:=by
   have:=mul_le_mul_right F.k (show i+1<=l.length from hi)
   rwa [add_mul,one_mul]at this
  have Hr:l.length*F.k<=cap*F.k:=mul_le_mul_right F.k h4;obtain ⟨cur',k1,k2,k3⟩:=NZ (F.fl a) (i*F.k) w cur h3 (by rw[F.len,h6];omega);refine .inr ⟨g,cap,cur',by rw[length_set],h2,k1,by rw[length_set];exact h4,h5,by rw[k2,h6],?_⟩;rw[length_set];apply ext_getElem?
  intro k;by_cases hk:k<l.length*F.k
  ·rw[getElem?_take_of_lt hk,Array.getElem?_toList,k3 k,ab a hi k hk,F.len];split
   ·rfl
   ·have:(cur.toList.take (l.length*F.k))[k]?=(F.row l)[k]?:=by rw[h7]
    rw[getElem?_take_of_lt hk,Array.getElem?_toList]at this;exact this
  ·rw[getElem?_eq_none (by rw[length_take];omega),getElem?_eq_none (by rw[F.DR,length_set];omega)]
theorem OF.where{t:TypeId}{w:World}{B:Nat}{v:Value}{l:List α}(h:OF F t w B v l)(h0:0<l.length):∃g cap cur,v=.slice (some ⟨g,0,none⟩) l.length cap/\B<=g/\w.heap[g]?=some (.cells cur t)/\∀(j:Nat) (hj:j<l.length) (i:Nat),i<F.k->cur[j*F.k+i]?=(F.fl l[j])[i]?:=by
 rcases h.2 with ⟨e,e0⟩|⟨g,cap,cur,e,h2,h3,h4,h5,h6,h7⟩
 ·omega
 ·refine ⟨g,cap,cur,e,h2,h3,fun j hj i hi=>?_⟩;have hk:j*F.k+i<l.length*F.k:=by
   have:=mul_le_mul_right F.k (show j+1<=l.length from hj)
   rw[add_mul,one_mul]at this;omega
  have:(cur.toList.take (l.length*F.k))[j*F.k+i]?=(F.row l)[j*F.k+i]?:=by rw[h7]
  rw[getElem?_take_of_lt hk,Array.getElem?_toList,F.IE l j i hi,List.getElem?_eq_getElem hj]at this;exact this
theorem OF.field{t:TypeId}{w:World}{B g n cap:Nat}{l:List α}{i:Nat}(a:α)(m:Nat)(u:Value)(h:OF F t w B (.slice (some ⟨g,0,none⟩) n cap) l)(hi:i<l.length)(hm:m<F.k)(ha:F.fl a=(F.fl l[i]).set m u):OF F t (w.setCell ⟨g,i*F.k+m,none⟩ u) B (.slice (some ⟨g,0,none⟩) n cap) (l.set i a):=by
 refine ⟨by rw[F.DR],?_⟩;rcases h.2 with ⟨e,_⟩|⟨g',DZ,cur,e,h2,h3,h4,h5,h6,h7⟩
 ·cases e
 ·cases e;have hb:i*F.k+F.k<=l.length*F.k:=by
   have:=mul_le_mul_right F.k (show i+1<=l.length from hi)
   rwa [add_mul,one_mul]at this
  have Hr:l.length*F.k<=cap*F.k:=mul_le_mul_right F.k h4;obtain ⟨cur',k1,k2,k3⟩:=NZ [u] (i*F.k+m) w cur h3 (by rw[h6];simp;omega);refine .inr ⟨g,cap,cur',by rw[length_set],h2,k1,by rw[length_set];exact h4,h5,by rw[k2,h6],?_⟩;rw[length_set];apply ext_getElem?
  intro k;by_cases hk:k<l.length*F.k
  ·have old:cur[k]?=(F.row l)[k]?:=by
    have:(cur.toList.take (l.length*F.k))[k]?=(F.row l)[k]?:=by rw[h7]
    rw[getElem?_take_of_lt hk,Array.getElem?_toList]at this;exact this
   rw[getElem?_take_of_lt hk,Array.getElem?_toList,k3 k,ab a hi k hk];by_cases q:i*F.k<=k/\k<i*F.k+F.k
   ·rw[if_pos q,ha];by_cases q2:k=i*F.k+m
    ·subst q2;rw[if_pos Ar,Nat.add_sub_cancel_left,Nat.sub_self,List.getElem?_set_self (by rw[F.len];exact hm)];rfl
    ·rw[if_neg (by simp;omega),List.getElem?_set_ne AD,old];have:=F.IE l i (k-i*F.k) AD
     rw[show i*F.k+(k-i*F.k)=k by omega,List.getElem?_eq_getElem hi]at this;exact this
   ·rw[if_neg q,if_neg (by simp;omega),old]
  ·rw[getElem?_eq_none (by rw[length_take];omega),getElem?_eq_none (by rw[F.DR,length_set];omega)]
theorem vC{t s:TypeId}{z:Value}{bytes:Nat}(T:Jy F t s z bytes)(a:α)(ha:z.cells.toList=F.fl a)(n:Nat)(hn:n<=190000)(w:World):
 ∃w2,(Instr.makeSlice s (.int .i64 (n:Int)) (.int .i64 (n:Int))).run Tryz.prog w=.ok (.slice (some ⟨w.heap.size,0,none⟩) n n) w2/\AA w w2/\OF F t w2 w.heap.size (.slice (some ⟨w.heap.size,0,none⟩) n n) (replicate n a):=by
 obtain ⟨i0,Gv,JM,Ie,JN⟩:=info_parts T.info;obtain ⟨w2,k1,k2,k3⟩:=run_make_full (P:=Tryz.prog) w w.heap.size s t i0 z F.k T.Yq Gv JM Ie .i64 .i64 n (by rw[JN,mul_comm];have:=T.bound (n:=n) AD;omega) (by unfold maxLen;omega) (le_refl _);refine ⟨w2,k1,CP (AA.refl w) k3 (fun q hq=>by cases hq),?_⟩;have hs:=T.zero;have e:(madeCells z.cells (n*F.k)).toList=F.row (replicate n a):=by
  apply ext_getElem?
  intro q;rcases Nat.lt_or_ge q (n*F.k) with hq|hq
  ·have hk:q/F.k<n:=(Nat.div_lt_iff_lt_mul F.pos).2 hq;have hm:q%F.k<F.k:=mod_lt _ F.pos;have e2:q=q/F.k*F.k+q%F.k:=by rw[mul_comm];exact (Nat.div_add_mod q F.k).symm
   have h1:=F.IE (replicate n a) (q/F.k) (q%F.k) hm;rw[<-e2,List.getElem?_replicate,if_pos hk,Option.bind_some,<-ha]at h1;have hmz:q%F.k<z.cells.size:=by rw[hs];exact hm
   rw[h1,Array.getElem?_toList,Array.getElem?_toList];simp[madeCells,hq,hs,hm,Array.getElem?_eq_getElem hmz,getElem!_def]
  ·rw[getElem?_eq_none (by simp[madeCells];omega),getElem?_eq_none (by rw[F.DR,List.length_replicate];exact hq)]
 rw[e]at k2;show w2.ownsRow _ _ _ _ (replicate n a).length _
 rw[List.length_replicate];exact k2
end
end
end Go.Proofs.YtamhnffokoejjaaGreatDoor
