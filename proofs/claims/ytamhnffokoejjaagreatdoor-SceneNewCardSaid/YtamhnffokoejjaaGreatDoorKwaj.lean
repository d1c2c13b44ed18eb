import Derived.Deep.Upon
import Derived.Test.YtamhnffokoejjaaGreatDoorKwae
import Derived.Test.YtamhnffokoejjaaGreatDoorRows
set_option linter.all false
set_option maxRecDepth 100000
namespace Go.Proofs.YtamhnffokoejjaaGreatDoor
open List(length_drop length_take append_nil length_append length_cons flatMap_append mem_cons append_assoc getElem?_cons_succ)
open Nat(zero_le le_trans)
open Go.Proofs.Tryz
open Go.RowKit
section
variable{k:IntKind}{l:List Int}{B cap g:Nat}{A:Option Addr}{t:TypeId}{v:Value}{w w':World}
def RN(k:IntKind)(w:World)(v:Value)(l:List Int):Prop:=∃(A:Option Addr) (cap:Nat),v=.slice A l.length cap/\l.length<=cap/\(0<l.length->∃b off,A=some ⟨b,off,none⟩/\b<w.heap.size/\∀(j:Nat) (h:j<l.length),w.cell? ⟨b,off+j,none⟩=some (.int k l[j]))
theorem RN.later(h:RN k w v l)(ha:AA w w'):RN k w' v l:=by
 obtain ⟨A,cap,h1,h2,h3⟩:=h;refine ⟨A,cap,h1,h2,fun h0=>?_⟩;obtain ⟨b,off,e,hb,hc⟩:=h3 h0;exact ⟨b,off,e,Nat.lt_of_lt_of_le hb ha.below.size,fun j hj=>(ha.below.cell hb).trans (hc j hj)⟩
theorem RN.form(h:RN k w v l):∃A cap,v=.slice A l.length cap/\l.length<=cap:=by
 obtain ⟨A,cap,h1,h2,_⟩:=h;exact ⟨A,cap,h1,h2⟩
abbrev RI:=RN .i64
theorem Db(b off n:Nat):(⟨b,off,none⟩:Addr).add n=⟨b,off+n,none⟩:=by unfold Addr.add;split <;> simp_all
theorem RN.drop(h:RN k w (.slice A l.length cap) l)(n:Nat)(hn:n<=l.length):RN k w (.slice (if cap=n then A else A.map (fun x=>x.add n)) (l.length-n) (cap-n)) (l.drop n):=by
 obtain ⟨A',DZ,e,h2,h3⟩:=h;cases e;refine ⟨_,_,by rw[length_drop],by rw[length_drop];omega,fun h0=>?_⟩;rw[length_drop]at h0;obtain ⟨b,off,rfl,hb,hc⟩:=h3 AD;rw[if_neg AD];refine ⟨b,off+n,by rw[Option.map_some,Db],hb,fun j hj=>?_⟩;rw[length_drop]at hj;rw[Nat.add_assoc,hc (n+j) AD,List.getElem_drop]
theorem RN.take(h:RN k w (.slice A l.length cap) l)(n:Nat)(hn:n<=l.length):RN k w (.slice A n cap) (l.take n):=by
 obtain ⟨A',DZ,e,h2,h3⟩:=h;cases e;have hl:(l.take n).length=n:=by rw[length_take];omega
 refine ⟨A,cap,by rw[hl],by rw[hl];omega,fun h0=>?_⟩;rw[hl]at h0;obtain ⟨b,off,rfl,hb,hc⟩:=h3 AD;refine ⟨b,off,rfl,hb,fun j hj=>?_⟩;rw[hl]at hj;rw[hc j AD,List.getElem_take]
abbrev ON(k:IntKind)(t:TypeId)(w:World)(B:Nat)(v:Value)(l:List Int):Prop:=w.ownsRow B t 1 v l.length (l.map (Value.int k))
theorem ON.rn(h:ON k t w B v l):RN k w v l:=by
 rcases h.2 with ⟨rfl,h0⟩|⟨g,cap,cur,rfl,h1,h2,h3,h4,h5,h6⟩
 ·exact ⟨none,0,by rw[h0],AD,fun h=>by omega⟩
 ·refine ⟨_,cap,rfl,h3,fun h0=>⟨g,0,rfl,As h2,fun j hj=>?_⟩⟩;rw[AE h2,Nat.zero_add];have:(cur.toList.take (l.length*1))[j]?=(l.map (Value.int k))[j]?:=by rw[h6]
  rw[List.getElem?_take_of_lt AD,Array.getElem?_toList]at this;rw[this];simp[hj]
theorem ON.form(h:ON k t w B v l):∃A cap,v=.slice A l.length cap/\l.length<=cap:=h.rn.form
theorem ON.empty(hB:B<=g)(h:w.heap[g]?=some (.cells #[] t)):ON k t w B (.slice (some ⟨g,0,none⟩) 0 0) []:=⟨rfl,.inr ⟨g,0,#[],rfl,hB,h,Nat.le_refl _,zero_le _,rfl,rfl⟩⟩
theorem ON.one{x:Int}(hB:B<=g)(h:w.heap[g]?=some (.cells #[.int k x] t)):ON k t w B (.slice (some ⟨g,0,none⟩) 1 1) [x]:=⟨rfl,.inr ⟨g,1,_,rfl,hB,h,Nat.le_refl _,by unfold maxLen;omega,rfl,rfl⟩⟩
theorem ON.later(ha:AA w w')(h:ON k t w B v l):ON k t w' B v l:=GG ha h
theorem ON.wide{C:Nat}(hC:C<=B)(h:ON k t w B v l):ON k t w C v l:=by
 refine ⟨h.1,?_⟩;rcases h.2 with q|⟨g,cap,cur,h0,h1,h2⟩
 ·exact .inl q
 ·exact .inr ⟨g,cap,cur,h0,AD,h2⟩
theorem FZ:(prog.info? 3).map (fun i=>(i.zero,i.size,i.bytes))=some (some (.int .i64 0),1,8):=AY
theorem RL{s:TypeId}{O6:Nat}(hs:prog.underlying s=some (.slice t))(wV:(prog.info? t).map (fun i=>(i.zero,i.size,i.bytes))=some (some (.int k 0),1,O6))(hby:O6<=8)
 {w:World} {B:Nat} {v u:Value} {l m:List Int} (ho:ON k t w B v l) (hm:RN k w u m) (hB:B<=w.heap.size) (hlen:l.length+m.length<=100000):
 ∃v' w',(Builtin.append_ #[s,s] s #[v,u]).run prog w=.ok v' w'/\ON k t w' B v' (l++m)/\w.grownBy w' v.ownBlock:=by
 obtain ⟨i0,Gv,JM,Ie,JN⟩:=info_parts wV;obtain ⟨A,cap,rfl,h2,h3⟩:=hm
 cases A with
 |none=>
  have h0:m=[]:=by
   cases m with
   |nil=>rfl
   |cons x t=>obtain ⟨b,off,e,_⟩:=h3 Ar;cases e
  subst h0;obtain ⟨A2,c2,rfl,q2⟩:=ho.form;have NL:=Src.ofNil (P:=prog) w (size:=i0.size) hs cap;refine ⟨_,_,run_append_nothing (P:=prog) w s s s t i0 hs Gv A2 l.length c2 q2 _ NL,by rw[append_nil];exact ho,⟨rfl,rfl,rfl,Nat.le_refl _,fun _ _ _=>rfl⟩⟩
 |some ad=>
  by_cases h0:0<m.length
  ·obtain ⟨b,off,e,hb,hc⟩:=h3 h0;cases e;have Pv:∀j x,(m.map (Value.int k))[j]?=some x->w.cell? ((⟨b,off,none⟩:Addr).add j)=some x:=by
    intro j x hx;have hj:j<m.length:=by
     rcases Nat.lt_or_ge j m.length with h|h
     ·exact h
     ·rw[List.getElem?_eq_none (by simpa using h)]at hx;cases hx
    rw[Db,hc j hj,<-hx];simp[hj]
   have bL:(l.length+m.length)*O6<=140737488355328:=le_trans (Nat.mul_le_mul hlen hby) (by decide);obtain ⟨v',w',k1,k2,k3,_⟩:=run_append_own (P:=prog) w B s s t i0 (.int k 0) 1 O6 hs Gv JM Ie JN rfl (by decide) v l.length (l.map (Value.int k)) ho ⟨b,off,none⟩ m.length cap (m.map (Value.int k)) Ar Pv (by intro x hx;obtain ⟨z,_,rfl⟩:=List.mem_map.1 hx;rfl) (by unfold maxLen;omega) bL hB;refine ⟨v',w',k1,?_,k3⟩;show w'.ownsRow B t 1 v' (l++m).length ((l++m).map (Value.int k))
   rw[length_append,List.map_append];exact k2
  ·obtain rfl:=List.eq_nil_of_length_eq_zero (Nat.eq_zero_of_not_pos h0)
   obtain ⟨v',w',k1,k2,k3,_⟩:=run_append_own (P:=prog) w B s s t i0 (.int k 0) 1 O6 hs Gv JM Ie JN rfl (by decide) v l.length (l.map (Value.int k)) ho ad 0 cap [] Ar (fun j x hx=>by simp at hx) (by intro x hx;simp at hx) (by unfold maxLen;omega) (le_trans (Nat.mul_le_mul (show l.length+0<=100000 by simpa using hlen) hby) (by decide)) hB;refine ⟨v',w',k1,?_,k3⟩;show w'.ownsRow B t 1 v' (l++[]).length ((l++[]).map (Value.int k))
   rw[append_nil];simpa using k2
theorem ON.grown{W w2:World}(ho:ON k t w B v l)(hW:W.heap.size<=B)(h:AA W w)(hg:w.grownBy w2 v.ownBlock):AA W w2:=
 CP h hg (fun q hq=>le_trans hW (DI ho q hq))
theorem io(x:Int)(ho:ON .i64 3 w B v l)(hB:B<=w.heap.size)(hl:l.length<=90000):
 ∃u w2,(Builtin.append_ #[42,42] 42 #[v,.slice (some ⟨w.heap.size,0,none⟩) 1 1]).run prog (w.alloc (.cells #[.int .i64 x] 3))=.ok u w2/\ON .i64 3 w2 B u (l++[x])/\∀W,W.heap.size<=B->AA W w->AA W w2:=by
 have a1:AA w (w.alloc (.cells #[.int .i64 x] 3)):=(AA.refl w).alloc _;have hm:RN .i64 (w.alloc (.cells #[.int .i64 x] 3)) (.slice (some ⟨w.heap.size,0,none⟩) 1 1) [x]:=(ON.one (B:=0) (zero_le _) (Ae rfl)).rn;have XI:=ho.later a1;obtain ⟨u,w2,k1,k2,k3⟩:=RL (s:=42) underlying42 FZ (by decide) XI hm (le_trans hB a1.below.size) (by simp;omega);exact ⟨u,w2,k1,k2,fun W h1 h2=>ON.grown XI h1 (h2.trans a1) k3⟩
theorem RN.mK(h:RI w v l)(n:Nat)(hn:n<=l.length):∃u,RI w u (l.drop n)/\∀w',(Instr.sliceAt 42 v (some (.int .i64 (n:Int))) none none).run prog w'=.ok u w':=by
 obtain ⟨A,cap,rfl,h2,h3⟩:=h;refine ⟨_,RN.drop ⟨A,cap,rfl,h2,h3⟩ n hn,fun w'=>?_⟩;rw[run_sliceAt_slice w' _ _ _ _ _ underlying42,run_slice_l w' _ A l.length cap underlying42 .i64 (n:Int) AD AD];have hz:∀w,(Go.sizeOf (prog.elem 42)).run prog w=.ok 1 w:=fun w=>by simp[go_sem]
 rw[hz];simp[Result.andThen,sliced]
theorem RN.Z1(h:RI w v l)(n:Nat)(hn:n<=l.length):∃A cap,RI w (.slice A n cap) (l.take n)/\∀w',(Instr.sliceAt 42 v none (some (.int .i64 (n:Int))) none).run prog w'=.ok (.slice A n cap) w':=by
 obtain ⟨A,cap,rfl,h2,h3⟩:=h;have hz:∀w,(Go.sizeOf (prog.elem 42)).run prog w=.ok 1 w:=fun w=>by simp[go_sem]
 have key:∀w',(Instr.sliceAt 42 (.slice A l.length cap) none (some (.int .i64 (n:Int))) none).run prog w'=.ok (.slice (if cap=0 then A else A.map (fun x=>x.add 0)) n cap) w':=fun w'=>by
  rw[run_sliceAt_slice w' _ _ _ _ _ underlying42,run_slice_h w' _ A l.length cap underlying42 .i64 (n:Int) AD AD];rw[hz];simp[Result.andThen,sliced]
 have eA:(if cap=0 then A else A.map (fun x=>x.add 0))=A:=by
  split
  ·rfl
  ·cases A with
   |none=>rfl
   |some a=>simp[Addr.add]
 rw[eA]at key;exact ⟨A,cap,RN.take ⟨A,cap,rfl,h2,h3⟩ n hn,key⟩
theorem Zq(hr:RI w v l)(hl:l.length<=90000):
 ∃u w2,(Builtin.append_ #[42,42] 42 #[.slice (some ⟨w.heap.size,0,none⟩) 0 0,v]).run prog (w.alloc (.cells #[] 3))=.ok u w2/\AA w w2/\ON .i64 3 w2 w.heap.size u l:=by
 have a1:AA w (w.alloc (.cells #[] 3)):=(AA.refl w).alloc _;have ho:ON .i64 3 (w.alloc (.cells #[] 3)) w.heap.size (.slice (some ⟨w.heap.size,0,none⟩) 0 0) []:=ON.empty (Nat.le_refl _) (Ae rfl);obtain ⟨u,w2,k1,k2,k3⟩:=RL (s:=42) underlying42 FZ (by decide) ho (hr.later a1) a1.below.size (by simp;omega);exact ⟨u,w2,k1,ON.grown ho (Nat.le_refl _) a1 k3,k2⟩
abbrev Lr:=RN .u8
theorem RN.cut(h:Lr w v l)(n:Nat)(hn:n<=l.length):∃u,Lr w u (l.drop n)/\∀w',(Instr.sliceAt 22 v (some (.int .i64 (n:Int))) none none).run prog w'=.ok u w':=by
 obtain ⟨A,cap,rfl,h2,h3⟩:=h;refine ⟨_,RN.drop ⟨A,cap,rfl,h2,h3⟩ n hn,fun w'=>?_⟩;rw[run_sliceAt_slice w' _ _ _ _ _ underlying22,run_slice_l w' _ A l.length cap underlying22 .i64 (n:Int) AD AD];have hz:∀w,(Go.sizeOf (prog.elem 22)).run prog w=.ok 1 w:=fun w=>by simp[go_sem]
 rw[hz];simp[Result.andThen,sliced]
theorem RN.upto(h:Lr w v l)(n:Nat)(hn:n<=l.length):∃A cap,Lr w (.slice A n cap) (l.take n)/\∀w',(Instr.sliceAt 22 v none (some (.int .i64 (n:Int))) none).run prog w'=.ok (.slice A n cap) w':=by
 obtain ⟨A,cap,rfl,h2,h3⟩:=h;have hz:∀w,(Go.sizeOf (prog.elem 22)).run prog w=.ok 1 w:=fun w=>by simp[go_sem]
 have key:∀w',(Instr.sliceAt 22 (.slice A l.length cap) none (some (.int .i64 (n:Int))) none).run prog w'=.ok (.slice (if cap=0 then A else A.map (fun x=>x.add 0)) n cap) w':=fun w'=>by
  rw[run_sliceAt_slice w' _ _ _ _ _ underlying22,run_slice_h w' _ A l.length cap underlying22 .i64 (n:Int) AD AD];rw[hz];simp[Result.andThen,sliced]
 have eA:(if cap=0 then A else A.map (fun x=>x.add 0))=A:=by
  split
  ·rfl
  ·cases A with
   |none=>rfl
   |some a=>simp[Addr.add]
 rw[eA]at key;exact ⟨A,cap,RN.take ⟨A,cap,rfl,h2,h3⟩ n hn,key⟩
theorem RN.str(h:Lr w v l):(convert 22 9 v).run prog w=.ok (.string (strOfNums l)) w:=by
 obtain ⟨A,cap,rfl,h2,h3⟩:=h
 cases A with
 |none=>
  have h0:l=[]:=by
   cases l with
   |nil=>rfl
   |cons x t=>obtain ⟨b,off,e,_⟩:=h3 Ar;cases e
  subst h0;exact run_convert_bytes_nil w 22 5 underlying22 underlying5 _ _ 9 underlying9
 |some a=>
  by_cases h0:0<l.length
  ·obtain ⟨b,off,e,hb,hc⟩:=h3 h0;cases e;exact run_convert_bytes_arg w 22 5 underlying22 underlying5 b off l.length cap l rfl (fun i hi=>by rw[hc i hi];simp[List.getD_eq_getElem?_getD,hi]) 9 underlying9
  ·obtain rfl:=List.eq_nil_of_length_eq_zero (Nat.eq_zero_of_not_pos h0)
   have hl:(loadCells a 0).run prog w=.ok (([]:List Int).map (Value.int .u8)).toArray w:=by
    have:=run_loadCells_list (P:=prog) w a [] (fun j v hj=>by simp at hj)
    simpa using this
   rw[run_convert_bytes_string w 22 9 5 (some a) _ cap underlying22 underlying5 underlying9];exact run_bytesToString w a 0 cap [] hl
theorem Ov:(prog.info? 5).map (fun i=>(i.zero,i.size,i.bytes))=some (some (.int .u8 0),1,1):=AY
theorem gY(hr:Lr w v l)(hl:l.length<=90000):
 ∃u w2,(Builtin.append_ #[22,22] 22 #[.slice (some ⟨w.heap.size,0,none⟩) 0 0,v]).run prog (w.alloc (.cells #[] 5))=.ok u w2/\AA w w2/\ON .u8 5 w2 w.heap.size u l:=by
 have a1:AA w (w.alloc (.cells #[] 5)):=(AA.refl w).alloc _;have ho:ON .u8 5 (w.alloc (.cells #[] 5)) w.heap.size (.slice (some ⟨w.heap.size,0,none⟩) 0 0) []:=ON.empty (Nat.le_refl _) (Ae rfl);obtain ⟨u,w2,k1,k2,k3⟩:=RL (s:=22) underlying22 Ov (by decide) ho (hr.later a1) a1.below.size (by simp;omega);exact ⟨u,w2,k1,ON.grown ho (Nat.le_refl _) a1 k3,k2⟩
end
end Go.Proofs.YtamhnffokoejjaaGreatDoor
namespace Go.Proofs.YtamhnffokoejjaaGreatDoor
open List(length_drop length_take append_nil length_append length_cons flatMap_append mem_cons append_assoc getElem?_cons_succ)
open Nat(zero_le le_trans)
open Go.Proofs.Tryz
section
def Ap(i:Int):List Int->List Int
 |[]=>[]
 |x::t=>if x=10 then i::Ap (i+1) t else Ap (i+1) t
theorem B_:∀(a b:List Int) (i:Int),Ap i (a++b)=Ap i a++Ap (i+a.length) b
 |[],b,i=>by simp[Ap]
 |x::a,b,i=>by
  rw[List.cons_append,Ap,Ap,B_ a b (i+1),length_cons,show i+1+(a.length:Int)=i+((a.length+1:Nat):Int) by omega];split <;> simp
theorem Nu(d:Int):∀(a:List Int) (i:Int),Ap (i+d) a=(Ap i a).map (· +d)
 |[],i=>rfl
 |x::a,i=>by
  rw[Ap,Ap,show i+d+1=i+1+d by omega,Nu d a (i+1)];split <;> simp
theorem U4(a:List Int)(i:Int):Ap i a=(Ap 0 a).map (· +i):=by
 have:=Nu i a 0
 rwa [Int.zero_add]at this
theorem Dt:∀(a:List Int) (i x:Int),x∈Ap i a->i<=x/\x<i+a.length
 |[],i,x,h=>by cases h
 |y::a,i,x,h=>by
  rw[Ap]at h;rw[length_cons];split at h
  ·rcases List.mem_cons.1 h with rfl|h
   ·omega
   ·have:=Dt a (i+1) x h;omega
  ·have:=Dt a (i+1) x h;omega
theorem Jp:∀(a:List Int) (i:Int),(Ap i a).Pairwise (· < ·)
 |[],i=>by simp[Ap]
 |y::a,i=>by
  rw[Ap];split
  ·exact List.pairwise_cons.2 ⟨fun x hx=>by have:=Dt a _ x hx;omega,Jp a _⟩
  ·exact Jp a _
theorem Ci(a:List Int)(i:Int):(Ap i a).length=(Ap 0 a).length:=by rw[U4,List.length_map]
theorem Dg:∀(a:List Int) (i:Int),(Ap i a).length<=a.length
 |[],i=>by simp[Ap]
 |y::a,i=>by
  have:=Dg a (i+1)
  rw[Ap];split <;> simp <;> omega
def below(x:Int)(l:List Int):Nat:=(l.takeWhile (fun y=>decide (y<x))).length
theorem FU(x:Int)(a b:List Int)(ha:∀y∈a,y<x)(hb:∀y∈b,x<=y):below x (a++b)=a.length:=by
 unfold below;rw[List.takeWhile_append_of_pos (by simpa using ha)]
 cases b with
 |nil=>simp
 |cons y b=>
  have:=hb y Ar
  rw[List.takeWhile_cons_of_neg (by simp;omega)];simp
theorem Kx(b:List Int)(i:Int)(n:Nat):Ap i b=Ap i (b.take n)++Ap (i+(b.take n).length) (b.drop n):=by
 conv=>lhs;rw[<-List.take_append_drop n b]
 rw[B_]
theorem I7(b:List Int)(i:Int)(n:Nat)(hn:n<=b.length):below (i+n) (Ap i b)=(Ap i (b.take n)).length:=by
 have hl:(b.take n).length=n:=by rw[length_take];omega
 rw[Kx b i n,FU]
 ·intro y hy;have:=Dt _ _ _ hy
  omega
 ·intro y hy;have:=Dt _ _ _ hy
  omega
theorem gV(b:List Int)(i:Int)(n:Nat)(hn:n<=b.length):(Ap i b).drop (Ap i (b.take n)).length=Ap (i+n) (b.drop n):=by
 have hl:(b.take n).length=n:=by rw[length_take];omega
 rw[Kx b i n,List.drop_left,hl]
theorem kp(b:List Int)(i:Int)(n:Nat):(Ap i b).take (Ap i (b.take n)).length=Ap i (b.take n):=by
 conv=>lhs;rw[Kx b i n]
 rw[List.take_left]
structure Pc where
 b:List Int
 base:Int
def Pc.fs(p:Pc):List Int:=Ap p.base p.b
def Pc.cut(p:Pc)(f t:Nat):Pc:=⟨(p.b.drop f).take (t-f),p.base+f⟩
def Pc.Fair(p:Pc):Prop:=0<p.b.length/\0<=p.base/\p.base+p.b.length<=90000/\∀x∈p.b,0<=x/\x<=255
theorem Pc.Fair.cut{p:Pc}(h:p.Fair){f t:Nat}(hf:f<t)(ht:t<=p.b.length):(p.cut f t).Fair:=by
 obtain ⟨h1,h2,h3,h4⟩:=h;unfold Pc.Fair Pc.cut;simp only[length_take,length_drop];exact ⟨AD,AD,AD,fun x hx=>h4 x (List.mem_of_mem_drop (List.mem_of_mem_take hx))⟩
inductive Tr where
 |nil
 |node (l:Tr) (p:Pc) (r:Tr)
namespace Tr
def len:Tr->Nat
 |nil=>0
 |node l p r=>l.len+p.b.length+r.len
def nf:Tr->Nat
 |nil=>0
 |node l p r=>l.nf+p.fs.length+r.nf
def np:Tr->Nat
 |nil=>0
 |node l _ r=>l.np+1+r.np
def Ad:Tr->Nat
 |nil=>0
 |node l _ r=>1+max l.Ad r.Ad
def ps:Tr->List Pc
 |nil=>[]
 |node l p r=>l.ps++p::r.ps
def bs:Tr->List Int
 |nil=>[]
 |node l p r=>l.bs++(p.b++r.bs)
def DQ:Tr->Prop
 |nil=>True
 |node l _ r=>l.Ad<=r.Ad+2/\r.Ad<=l.Ad+2/\l.DQ/\r.DQ
def Fair:Tr->Prop
 |nil=>True
 |node l p r=>l.Fair/\p.Fair/\r.Fair
theorem Bv:∀t:Tr,t.bs.length=t.len
 |nil=>rfl
 |node l p r=>by rw[bs,len,length_append,length_append,Bv l,Bv r];omega
theorem OC:∀t:Tr,(Ap 0 t.bs).length=t.nf
 |nil=>rfl
 |node l p r=>by
  rw[bs,nf,B_,B_,length_append,length_append,OC l,Ci p.b,Ci r.bs,OC r,Pc.fs,Ci p.b p.base];omega
theorem bs_ps:∀t:Tr,t.bs=t.ps.flatMap Pc.b
 |nil=>rfl
 |node l p r=>by rw[bs,ps,flatMap_append,List.flatMap_cons,bs_ps l,bs_ps r]
theorem fair_ps:∀t:Tr,t.Fair↔∀p∈t.ps,p.Fair
 |nil=>by simp[Fair,ps]
 |node l p r=>by
  simp only[Fair,ps,fair_ps l,fair_ps r,List.mem_append,mem_cons];constructor
  ·rintro ⟨h1,h2,h3⟩ q (h|rfl|h)
   ·exact h1 q h
   ·exact h2
   ·exact h3 q h
  ·intro h;exact ⟨fun q hq=>h q (.inl hq),h p (.inr (.inl rfl)),fun q hq=>h q (.inr (.inr hq))⟩
theorem Md:∀t:Tr,t.nf<=t.len
 |nil=>Nat.le_refl _
 |node l p r=>by
  have h1:=Md l;have h2:=Md r;have h3:=Dg p.b p.base;unfold nf len Pc.fs;omega
theorem Vj:∀t:Tr,t.Fair->t.np<=t.len
 |nil,_=>Nat.le_refl _
 |node l p r,h=>by
  have h1:=Vj l h.1;have h2:=Vj r h.2.2;have h3:=h.2.1.1;unfold np len;omega
theorem EH:∀t:Tr,t.Ad<=t.np
 |nil=>Nat.le_refl _
 |node l p r=>by
  have h1:=EH l;have h2:=EH r;unfold np Ad;omega
def turnR:Tr->Pc->Tr->Tr
 |node a q (node b s c),p,r=>if (node b s c).Ad<=a.Ad then node a q (node (node b s c) p r) else node (node a q b) s (node c p r)
 |node a q nil,p,r=>node a q (node nil p r)
 |nil,p,r=>node nil p r
def turnL(l:Tr)(p:Pc):Tr->Tr
 |node (node b s c) q a=>if (node b s c).Ad<=a.Ad then node (node l p (node b s c)) q a else node (node l p b) s (node c q a)
 |node nil q a=>node (node l p nil) q a
 |nil=>node l p nil
def even(l:Tr)(p:Pc)(r:Tr):Tr:=if r.Ad+2<l.Ad then turnR l p r else if l.Ad+2<r.Ad then turnL l p r else node l p r
theorem E_(a b c r:Tr)(q s p:Pc):turnR (node a q (node b s c)) p r=if (node b s c).Ad<=a.Ad then node a q (node (node b s c) p r) else node (node a q b) s (node c p r):=rfl
theorem E6(a b c l:Tr)(q s p:Pc):turnL l p (node (node b s c) q a)=if (node b s c).Ad<=a.Ad then node (node l p (node b s c)) q a else node (node l p b) s (node c q a):=rfl
theorem ps_turnR(l:Tr)(p:Pc)(r:Tr):(turnR l p r).ps=l.ps++p::r.ps:=by
 match l with
 |nil=>simp[turnR,ps]
 |node a q nil=>simp[turnR,ps]
 |node a q (node b s c)=>rw[E_];split <;> simp[ps]
theorem ps_turnL(l:Tr)(p:Pc)(r:Tr):(turnL l p r).ps=l.ps++p::r.ps:=by
 match r with
 |nil=>simp[turnL,ps]
 |node nil q a=>simp[turnL,ps]
 |node (node b s c) q a=>rw[E6];split <;> simp[ps]
theorem ps_even(l:Tr)(p:Pc)(r:Tr):(even l p r).ps=l.ps++p::r.ps:=by
 unfold even;split
 ·exact ps_turnR l p r
 ·split
  ·exact ps_turnL l p r
  ·rfl
theorem even_even(l:Tr)(p:Pc)(r:Tr)(hl:l.DQ)(hr:r.DQ)(h1:l.Ad<=r.Ad+3)(h2:r.Ad<=l.Ad+3):
 (even l p r).DQ/\(l.Ad<=r.Ad+2->r.Ad<=l.Ad+2->(even l p r).Ad=1+max l.Ad r.Ad)/\max l.Ad r.Ad<=(even l p r).Ad/\(even l p r).Ad<=1+max l.Ad r.Ad:=by
 unfold even;split
 ·rename_i hc
  match l,hl with
  |nil,_=>simp[Ad]at hc
  |node a q nil,hl=>
   simp only[DQ,Ad]at hl hc h1;refine ⟨⟨?_,?_,hl.2.2.1,?_,?_,trivial,hr⟩,fun _ _=>?_,?_,?_⟩ <;> simp only[turnR,Ad]at * <;> omega
  |node a q (node b s c),hl=>
   simp only[DQ,Ad]at hl hc h1 ⊢;rw[E_];split
   ·rename_i h
    simp only[Ad]at h;refine ⟨?_,?_⟩
    ·simp only[DQ,Ad];refine ⟨?_,?_,hl.2.2.1,?_,?_,hl.2.2.2,hr⟩ <;> omega
    ·simp only[Ad];omega
   ·rename_i h
    simp only[Ad]at h;refine ⟨?_,?_⟩
    ·simp only[DQ,Ad];refine ⟨?_,?_,⟨?_,?_,hl.2.2.1,hl.2.2.2.2.2.1⟩,?_,?_,hl.2.2.2.2.2.2,hr⟩ <;> omega
    ·simp only[Ad];omega
 ·rename_i hc
  split
  ·rename_i hd
   match r,hr with
   |nil,_=>simp[Ad]at hd
   |node nil q a,hr=>
    simp only[DQ,Ad]at hr hd h2;refine ⟨⟨?_,?_,⟨?_,?_,hl,trivial⟩,hr.2.2.2⟩,fun _ _=>?_,?_,?_⟩ <;> simp only[turnL,Ad]at * <;> omega
   |node (node b s c) q a,hr=>
    simp only[DQ,Ad]at hr hd h2 hc ⊢;rw[E6];split
    ·rename_i h
     simp only[Ad]at h;refine ⟨?_,?_⟩
     ·simp only[DQ,Ad];refine ⟨?_,?_,⟨?_,?_,hl,hr.2.2.1⟩,hr.2.2.2⟩ <;> omega
     ·simp only[Ad];omega
    ·rename_i h
     simp only[Ad]at h;refine ⟨?_,?_⟩
     ·simp only[DQ,Ad];refine ⟨?_,?_,⟨?_,?_,hl,hr.2.2.1.2.2.1⟩,?_,?_,hr.2.2.1.2.2.2,hr.2.2.2⟩ <;> omega
     ·simp only[Ad];omega
  ·exact ⟨⟨AD,AD,hl,hr⟩,fun _ _=>by simp only[Ad],by simp only[Ad];omega,by simp only[Ad];omega⟩
def join(l:Tr)(p:Pc)(r:Tr):Tr:=
 if r.Ad+2<l.Ad then
  match l with
  |node a q b=>even a q (join b p r)
  |nil=>node nil p r
 else if l.Ad+2<r.Ad then
  match r with
  |node a q b=>even (join l p a) q b
  |nil=>node l p nil
 else node l p r
termination_by l.np+r.np
decreasing_by all_goals (simp only[np];omega)
theorem EY(a b:Tr)(q p:Pc)(r:Tr)(h:r.Ad+2<(node a q b).Ad):join (node a q b) p r=even a q (join b p r):=by rw[join.eq_def,if_pos h]
theorem Ds(l:Tr)(a b:Tr)(q p:Pc)(h:¬(node a q b).Ad+2<l.Ad)(h2:l.Ad+2<(node a q b).Ad):join l p (node a q b)=even (join l p a) q b:=by rw[join.eq_def,if_neg h,if_pos h2]
theorem Ew(l:Tr)(p:Pc)(r:Tr)(h:¬r.Ad+2<l.Ad)(h2:¬l.Ad+2<r.Ad):join l p r=node l p r:=by rw[join.eq_def,if_neg h,if_neg h2]
theorem join_ps:∀(n:Nat) (l:Tr) (p:Pc) (r:Tr),l.np+r.np<=n->(join l p r).ps=l.ps++p::r.ps:=by
 intro n
 induction n with
 |zero=>
  intro l p r h;have h3:=EH l;have h4:=EH r;rw[Ew _ _ _ AD AD];rfl
 |succ n ih=>
  intro l p r h;by_cases h1:r.Ad+2<l.Ad
  ·match l with
   |nil=>simp[Ad]at h1
   |node a q b=>
    rw[EY _ _ _ _ _ h1,ps_even,ih b p r (by simp only[np]at h;omega)];simp[ps]
  ·by_cases h2:l.Ad+2<r.Ad
   ·match r with
    |nil=>simp[Ad]at h2
    |node a q b=>
     rw[Ds _ _ _ _ _ h1 h2,ps_even,ih l p a (by simp only[np]at h;omega)];simp[ps]
   ·rw[Ew _ _ _ h1 h2];rfl
theorem ps_join(l:Tr)(p:Pc)(r:Tr):(join l p r).ps=l.ps++p::r.ps:=join_ps _ l p r (Nat.le_refl _)
theorem join_ev:∀(n:Nat) (l:Tr) (p:Pc) (r:Tr),l.np+r.np<=n->l.DQ->r.DQ->(join l p r).DQ/\max l.Ad r.Ad<=(join l p r).Ad/\(join l p r).Ad<=1+max l.Ad r.Ad:=by
 intro n
 induction n with
 |zero=>
  intro l p r h hl hr;have h3:=EH l;have h4:=EH r;rw[Ew _ _ _ AD AD];refine ⟨⟨AD,AD,hl,hr⟩,?_⟩;simp only[Ad];omega
 |succ n ih=>
  intro l p r h hl hr;by_cases h1:r.Ad+2<l.Ad
  ·match l,hl with
   |nil,_=>simp[Ad]at h1
   |node a q b,hl=>
    rw[EY _ _ _ _ _ h1];obtain ⟨i1,i2,i3⟩:=ih b p r (by simp only[np]at h;omega) hl.2.2.2 hr;obtain ⟨e1,e2,e3,e4⟩:=hl;simp only[Ad]at h1 ⊢;obtain ⟨k1,k2,k3,k4⟩:=even_even a q (join b p r) e3 i1 AD AD;refine ⟨k1,?_,?_⟩
    ·by_cases hh:(join b p r).Ad<=a.Ad+2
     ·have:=k2 AD hh;omega
     ·omega
    ·omega
  ·by_cases h2:l.Ad+2<r.Ad
   ·match r,hr with
    |nil,_=>simp[Ad]at h2
    |node a q b,hr=>
     rw[Ds _ _ _ _ _ h1 h2];obtain ⟨i1,i2,i3⟩:=ih l p a (by simp only[np]at h;omega) hl hr.2.2.1;obtain ⟨e1,e2,e3,e4⟩:=hr;simp only[Ad]at h2 ⊢;obtain ⟨k1,k2,k3,k4⟩:=even_even (join l p a) q b i1 e4 AD AD;refine ⟨k1,?_,?_⟩
     ·by_cases hh:(join l p a).Ad<=b.Ad+2
      ·have:=k2 hh AD;omega
      ·omega
     ·omega
   ·rw[Ew _ _ _ h1 h2];refine ⟨⟨AD,AD,hl,hr⟩,?_⟩;simp only[Ad];omega
theorem G6(l:Tr)(p:Pc)(r:Tr)(hl:l.DQ)(hr:r.DQ):(join l p r).DQ:=(join_ev _ l p r (Nat.le_refl _) hl hr).1
def last:Tr->Tr × Pc
 |nil=>(nil,⟨[],0⟩)
 |node a p nil=>(a,p)
 |node a p (node b q c)=>(even a p (last (node b q c)).1,(last (node b q c)).2)
theorem ps_last:∀t:Tr,t≠nil->t.ps=(last t).1.ps++[(last t).2]
 |nil,h=>absurd rfl h
 |node a p nil,_=>by simp[last,ps]
 |node a p (node b q c),_=>by
  have:=ps_last (node b q c) Ar
  rw[last,ps,this];simp[ps_even]
theorem even_last:∀t:Tr,t≠nil->t.DQ->(last t).1.DQ/\(last t).1.Ad<=t.Ad/\t.Ad<=(last t).1.Ad+1
 |nil,h,_=>absurd rfl h
 |node a p nil,_,h=>by
  simp only[last,Ad];refine ⟨h.2.2.1,?_,?_⟩ <;> omega
 |node a p (node b q c),_,h=>by
  obtain ⟨i1,i2,i3⟩:=even_last (node b q c) Ar h.2.2.2;obtain ⟨e1,e2,e3,e4⟩:=h;obtain ⟨k1,k2,k3,k4⟩:=even_even a p (last (node b q c)).1 e3 i1 AD AD;rw[last];simp only[Ad]at *;refine ⟨k1,?_,?_⟩
  ·omega
  ·by_cases hh:a.Ad<=(last (node b q c)).1.Ad+2
   ·have:=k2 hh AD;omega
   ·omega
def meet(l r:Tr):Tr:=match l with
 |nil=>r
 |node a p b=>join (last (node a p b)).1 (last (node a p b)).2 r
theorem ps_meet(l r:Tr):(meet l r).ps=l.ps++r.ps:=by
 cases l with
 |nil=>rfl
 |node a p b=>
  unfold meet;rw[ps_join,ps_last (node a p b) Ar];simp
theorem eq(l r:Tr)(hl:l.DQ)(hr:r.DQ):(meet l r).DQ:=by
 cases l with
 |nil=>exact hr
 |node a p b=>exact G6 _ _ _ (even_last _ Ar hl).1 hr
def split:Tr->Nat->Tr × Tr
 |nil,_=>(nil,nil)
 |node l p r,at_=>
  if at_<=l.len then ((split l at_).1,join (split l at_).2 p r)
  else if l.len+p.b.length<=at_ then (join l p (split r (at_-(l.len+p.b.length))).1,(split r (at_-(l.len+p.b.length))).2)
  else (join l (p.cut 0 (at_-l.len)) nil,join nil (p.cut (at_-l.len) p.b.length) r)
theorem E9:∀(t:Tr) (i:Nat),t.DQ->(split t i).1.DQ/\(split t i).2.DQ
 |nil,_,_=>⟨trivial,trivial⟩
 |node l p r,i,h=>by
  unfold split;obtain ⟨e1,e2,e3,e4⟩:=h;split
  ·exact ⟨(E9 l i e3).1,G6 _ _ _ (E9 l i e3).2 e4⟩
  ·split
   ·exact ⟨G6 _ _ _ e3 (E9 r _ e4).1,(E9 r _ e4).2⟩
   ·exact ⟨G6 _ _ _ e3 trivial,G6 _ _ _ trivial e4⟩
theorem F9{l r:Tr}{p:Pc}(hl:l.Fair)(hp:p.Fair)(hr:r.Fair):(join l p r).Fair:=by
 rw[fair_ps]at *;rw[ps_join];intro q hq;rcases List.mem_append.1 hq with h|h
 ·exact hl q h
 ·rcases List.mem_cons.1 h with rfl|h
  ·exact hp
  ·exact hr q h
theorem LM(l r:Tr)(p:Pc):(join l p r).bs=l.bs++(p.b++r.bs):=by
 rw[bs_ps,ps_join,flatMap_append,List.flatMap_cons,bs_ps l,bs_ps r]
theorem Wo(l r:Tr)(p:Pc):(join l p r).len=l.len+p.b.length+r.len:=by
 rw[<-Bv,LM,length_append,length_append,Bv,Bv];omega
theorem Sl{t:Tr}(ht:t≠nil)(h:t.Fair):(last t).1.Fair/\(last t).2.Fair:=by
 rw[fair_ps,ps_last t ht]at h;exact ⟨(fair_ps _).2 fun q hq=>h q (by simp[hq]),h _ Ar⟩
theorem Vk{t:Tr}(ht:t≠nil):t.len=(last t).1.len+(last t).2.b.length:=by
 rw[<-Bv t,bs_ps,ps_last t ht,flatMap_append,<-bs_ps,length_append,Bv];simp
theorem dz{l r:Tr}(hl:l.Fair)(hr:r.Fair):(meet l r).Fair:=by
 rw[fair_ps]at *;rw[ps_meet];intro q hq;rcases List.mem_append.1 hq with h|h
 ·exact hl q h
 ·exact hr q h
theorem mr(l r:Tr):(meet l r).bs=l.bs++r.bs:=by rw[bs_ps,ps_meet,flatMap_append,<-bs_ps,<-bs_ps]
theorem Ck:∀(t:Tr) (i:Nat),t.Fair->(split t i).1.Fair/\(split t i).2.Fair
 |nil,_,_=>⟨trivial,trivial⟩
 |node l p r,i,h=>by
  unfold split;obtain ⟨e1,e2,e3⟩:=h;split
  ·exact ⟨(Ck l i e1).1,F9 (Ck l i e1).2 e2 e3⟩
  ·split
   ·exact ⟨F9 e1 e2 (Ck r _ e3).1,(Ck r _ e3).2⟩
   ·exact ⟨F9 e1 (e2.cut AD AD) trivial,F9 trivial (e2.cut AD (Nat.le_refl _)) e3⟩
theorem GP:∀(t:Tr) (i:Nat),(split t i).1.bs=t.bs.take i/\(split t i).2.bs=t.bs.drop i
 |nil,_=>by simp[split,bs]
 |node l p r,i=>by
  have hl:=Bv l;unfold split;split
  ·rename_i h
   obtain ⟨i1,i2⟩:=GP l i;refine ⟨?_,?_⟩
   ·rw[i1,bs,List.take_append_of_le_length AD]
   ·rw[LM,i2,bs,List.drop_append_of_le_length AD]
  ·split
   ·rename_i h h2
    obtain ⟨i1,i2⟩:=GP r (i-(l.len+p.b.length));have e:i=(l.bs++p.b).length+(i-(l.len+p.b.length)):=by rw[length_append];omega
    refine ⟨?_,?_⟩
    ·rw[LM,i1,bs,<-append_assoc,<-append_assoc]
     conv=>rhs;rw[e]
     rw[List.take_length_add_append]
    ·rw[i2,bs,<-append_assoc]
     conv=>rhs;rw[e]
     rw[List.drop_length_add_append]
   ·rename_i h h2
    have e:i=l.bs.length+(i-l.len):=AD;refine ⟨?_,?_⟩
    ·rw[LM]
     conv=>rhs;rw[bs,e,List.take_length_add_append,List.take_append_of_le_length AD]
     simp[Pc.cut,bs]
    ·rw[LM]
     conv=>rhs;rw[bs,e,List.drop_length_add_append,List.drop_append_of_le_length AD]
     simp only[Pc.cut,bs,List.nil_append];rw[List.take_of_length_le (by rw[length_drop];omega)]
theorem LI(t:Tr)(i:Nat)(h:i<=t.len):(split t i).1.len=i/\(split t i).2.len=t.len-i:=by
 obtain ⟨h1,h2⟩:=GP t i;rw[<-Bv,<-Bv,h1,h2,length_take,length_drop,Bv];omega
end Tr
end
end Go.Proofs.YtamhnffokoejjaaGreatDoor
namespace Go.Proofs.YtamhnffokoejjaaGreatDoor
open List(length_drop length_take append_nil length_append length_cons flatMap_append mem_cons append_assoc getElem?_cons_succ)
open Nat(zero_le le_trans)
open Go.Proofs.Tryz
open Go.RowKit
section
variable{cs:Array Value}{n:Int}{k:IntKind}{F l:List Int}{B cap g i j:Nat}{m:Nat × Nat}{A:Option Addr}{p:Pc}{s t:TypeId}{bv fv v x y z:Value}{w w':World}
def Jw(F:List Int)(k:Nat):Int:=if k=0 then 0 else F.getD (k-1) 0+1
def Nw(F:List Int)(n:Int)(k:Nat):Int:=if k<F.length then F.getD k 0 else n
structure Ff(F:List Int)(n:Int):Prop where
 up:∀i j,i<j->j<F.length->F.getD i 0<F.getD j 0
 lo:∀i,i<F.length->0<=F.getD i 0
 hi:∀i,i<F.length->F.getD i 0<n
 n0:0<=n
 nn:(F.length:Int)<=n
theorem getD_in(h:i<F.length):F.getD i 0=F[i]:=by simp[List.getD_eq_getElem?_getD,h]
theorem GJ(L:List Int):Ff (Ap 0 L) L.length:=by
 refine ⟨fun i j Fr hj=>?_,fun i h=>?_,fun i h=>?_,AD,by have:=Dg L 0;omega⟩
 ·rw[getD_in (Nat.lt_trans Fr hj),getD_in hj];exact List.pairwise_iff_getElem.1 (Jp L 0) i j (Nat.lt_trans Fr hj) hj Fr
 ·rw[getD_in h];exact (Dt L 0 _ (List.getElem_mem h)).1
 ·rw[getD_in h];have:=(Dt L 0 _ (List.getElem_mem h)).2
  omega
theorem Ff.s0(h:Ff F n){k:Nat}(hk:k<=F.length):0<=Jw F k:=by
 unfold Jw;split
 ·exact Int.le_refl _
 ·have:=h.lo (k-1) AD
  omega
theorem Ff.se(h:Ff F n){k:Nat}(hk:k<=F.length):Jw F k<=Nw F n k:=by
 unfold Jw Nw;split
 ·split
  ·exact h.lo k (by assumption)
  ·exact h.n0
 ·split
  ·have:=h.up (k-1) k AD (by assumption)
   omega
  ·have:=h.hi (k-1) AD
   omega
theorem Ff.en(h:Ff F n){k:Nat}(hk:k<=F.length):Nw F n k<=n:=by
 unfold Nw;split
 ·have:=h.hi k (by assumption)
  omega
 ·exact Int.le_refl _
theorem Ke:∀(F:List Int) (x:Int) (j:Nat),j<below x F->j<F.length/\F.getD j 0<x
 |[],x,j,h=>absurd h (by simp[below])
 |f::F,x,j,h=>by
  unfold below at h;by_cases hf:f<x
  ·rw[List.takeWhile_cons_of_pos (by simpa using hf)]at h
   cases j with
   |zero=>exact ⟨Ar,by simpa using hf⟩
   |succ j=>
    have:=Ke F x j (by unfold below;simpa using h)
    exact ⟨by simpa using this.1,by simpa using this.2⟩
  ·rw[List.takeWhile_cons_of_neg (by simpa using hf)]at h;exact absurd h Ar
theorem FT:∀(F:List Int) (x:Int),below x F<=F.length
 |[],x=>by simp[below]
 |f::F,x=>by
  unfold below;by_cases hf:f<x
  ·rw[List.takeWhile_cons_of_pos (by simpa using hf),length_cons,length_cons];exact Nat.succ_le_succ (FT F x)
  ·rw[List.takeWhile_cons_of_neg (by simpa using hf)];simp
theorem M0:∀(F:List Int) (x:Int),below x F<F.length->x<=F.getD (below x F) 0
 |[],x,h=>absurd h Ar
 |f::F,x,h=>by
  by_cases hf:f<x
  ·have e:below x (f::F)=below x F+1:=by unfold below;rw[List.takeWhile_cons_of_pos (by simpa using hf)];rfl
   rw[e]at h ⊢;have:=M0 F x (by simpa using h)
   simpa using this
  ·have e:below x (f::F)=0:=by unfold below;rw[List.takeWhile_cons_of_neg (by simpa using hf)];rfl
   rw[e];simp;omega
theorem Iq{x:Int}(h0:0<=x)(hn:x<=n):below x F<=F.length/\Jw F (below x F)<=x/\x<=Nw F n (below x F)/\∀j,j<below x F->Nw F n j<x:=by
 refine ⟨FT F x,?_,?_,fun j hj=>?_⟩
 ·unfold Jw;split
  ·exact h0
  ·have:=(Ke F x (below x F-1) AD).2
   omega
 ·unfold Nw;split
  ·exact M0 F x (by assumption)
  ·exact hn
 ·have:=Ke F x j hj
  unfold Nw;rw[if_pos this.1];exact this.2
abbrev Qs:=List (Int × Int)
def QR(w:World)(v:Value)(l:Qs):Prop:=∃(A:Option Addr) (cap:Nat),v=.slice A l.length cap/\l.length<=cap/\(0<l.length->∃b off,A=some ⟨b,off,none⟩/\b<w.heap.size/\∀(j:Nat) (h:j<l.length),w.cell? ⟨b,off+j*2,none⟩=some (.int .i64 l[j].1)/\w.cell? ⟨b,off+j*2+1,none⟩=some (.int .i64 l[j].2))
theorem QR.later{l:Qs}(h:QR w v l)(ha:AA w w'):QR w' v l:=by
 obtain ⟨A,cap,h1,h2,h3⟩:=h;refine ⟨A,cap,h1,h2,fun h0=>?_⟩;obtain ⟨b,off,e,hb,hc⟩:=h3 h0;exact ⟨b,off,e,Nat.lt_of_lt_of_le hb ha.below.size,fun j hj=>⟨(ha.below.cell hb).trans (hc j hj).1,(ha.below.cell hb).trans (hc j hj).2⟩⟩
theorem QR.form{l:Qs}(h:QR w v l):∃A cap,v=.slice A l.length cap/\l.length<=cap:=by
 obtain ⟨A,cap,h1,h2,_⟩:=h;exact ⟨A,cap,h1,h2⟩
theorem QR.void(w:World)(A:Option Addr)(cap:Nat):QR w (.slice A 0 cap) []:=⟨A,cap,rfl,zero_le _,fun h=>absurd h (by decide)⟩
theorem QR.at{n:Nat}{l:Qs}(h:QR w (.slice A n cap) l)(j:Nat)(hj:j<l.length):∃b off,A=some ⟨b,off,none⟩/\b<w.heap.size/\w.cell? ⟨b,off+j*2,none⟩=some (.int .i64 l[j].1)/\w.cell? ⟨b,off+j*2+1,none⟩=some (.int .i64 l[j].2):=by
 obtain ⟨A',DZ,e,h2,h3⟩:=h;cases e;obtain ⟨b,off,e,hb,hc⟩:=h3 AD;exact ⟨b,off,e,hb,hc j hj⟩
theorem Nj(b off n:Nat):(⟨b,off,none⟩:Addr).add n=⟨b,off+n,none⟩:=by unfold Addr.add;split <;> simp_all
theorem QR.drop{l:Qs}(h:QR w (.slice A l.length cap) l)(n:Nat)(hn:n<=l.length):QR w (.slice (if cap=n then A else A.map (fun x=>x.add (n*2))) (l.length-n) (cap-n)) (l.drop n):=by
 obtain ⟨A',DZ,e,h2,h3⟩:=h;cases e;refine ⟨_,_,by rw[length_drop],by rw[length_drop];omega,fun h0=>?_⟩;rw[length_drop]at h0;obtain ⟨b,off,rfl,hb,hc⟩:=h3 AD;rw[if_neg AD];refine ⟨b,off+n*2,by rw[Option.map_some,Nj],hb,fun j hj=>?_⟩;rw[length_drop]at hj;have:=hc (n+j) AD
 rw[show off+n*2+j*2=off+(n+j)*2 by omega,List.getElem_drop];exact this
theorem QR.take{l:Qs}(h:QR w (.slice A l.length cap) l)(n:Nat)(hn:n<=l.length):QR w (.slice A n cap) (l.take n):=by
 obtain ⟨A',DZ,e,h2,h3⟩:=h;cases e;have hl:(l.take n).length=n:=by rw[length_take];omega
 refine ⟨A,cap,by rw[hl],by rw[hl];omega,fun h0=>?_⟩;rw[hl]at h0;obtain ⟨b,off,rfl,hb,hc⟩:=h3 AD;refine ⟨b,off,rfl,hb,fun j hj=>?_⟩;rw[hl]at hj;rw[List.getElem_take];exact hc j AD
def CL(l:Qs):List Value:=l.flatMap fun b=>[.int .i64 b.1,.int .i64 b.2]
theorem LF:CL []=[]:=rfl
theorem E2(b:Int × Int)(l:Qs):CL (b::l)=.int .i64 b.1::.int .i64 b.2::CL l:=rfl
theorem Ja(a b:Qs):CL (a++b)=CL a++CL b:=by unfold CL;rw[flatMap_append]
theorem Bb:∀l:Qs,(CL l).length=l.length*2
 |[]=>rfl
 |b::l=>by rw[E2,length_cons,length_cons,Bb l,length_cons];omega
theorem JO:∀(l:Qs) (j:Nat),(CL l)[j*2]?=(l[j]?).map fun b=>.int .i64 b.1
 |[],j=>by simp[LF]
 |b::l,0=>rfl
 |b::l,j+1=>by
  rw[E2,show (j+1)*2=j*2+1+1 by omega,getElem?_cons_succ,getElem?_cons_succ,JO l j,getElem?_cons_succ]
theorem Jg:∀(l:Qs) (j:Nat),(CL l)[j*2+1]?=(l[j]?).map fun b=>.int .i64 b.2
 |[],j=>by simp[LF]
 |b::l,0=>rfl
 |b::l,j+1=>by
  rw[E2,show (j+1)*2+1=j*2+1+1+1 by omega,getElem?_cons_succ,getElem?_cons_succ,Jg l j,getElem?_cons_succ]
theorem SV(l:Qs):∀u∈CL l,u.oneCell'=true:=by
 intro u hu;obtain ⟨b,_,hb⟩:=List.mem_flatMap.1 hu;rcases List.mem_cons.1 hb with rfl|hb
 ·rfl
 ·rcases List.mem_cons.1 hb with rfl|hb
  ·rfl
  ·cases hb
abbrev OQ(t:TypeId)(w:World)(B:Nat)(v:Value)(l:Qs):Prop:=w.ownsRow B t 2 v l.length (CL l)
theorem OQ.rq{l:Qs}(h:OQ t w B v l):QR w v l:=by
 rcases h.2 with ⟨rfl,h0⟩|⟨g,cap,cur,rfl,h2,h3,h4,h5,h6,h7⟩
 ·refine ⟨none,0,by rw[h0],AD,fun hp=>by omega⟩
 ·refine ⟨some ⟨g,0,none⟩,cap,rfl,h4,fun _=>⟨g,0,rfl,As h3,fun j hj=>?_⟩⟩;have e:∀k,k<l.length*2->cur[k]?=(CL l)[k]?:=fun k hk=>by
   have:(cur.toList.take (l.length*2))[k]?=(CL l)[k]?:=by rw[h7]
   rw[List.getElem?_take_of_lt hk]at this;simpa using this
  rw[Nat.zero_add,AE h3,AE h3,e _ AD,e _ AD,JO,Jg,List.getElem?_eq_getElem hj];exact ⟨rfl,rfl⟩
theorem OQ.later{l:Qs}(ha:AA w w')(h:OQ t w B v l):OQ t w' B v l:=GG ha h
theorem OQ.form{l:Qs}(h:OQ t w B v l):∃A cap,v=.slice A l.length cap/\l.length<=cap:=(OQ.rq h).form
theorem OQ.wide{C:Nat}{l:Qs}(hC:C<=B)(h:OQ t w B v l):OQ t w C v l:=by
 refine ⟨h.1,?_⟩;rcases h.2 with q|⟨g,cap,cur,h0,h1,h2⟩
 ·exact .inl q
 ·exact .inr ⟨g,cap,cur,h0,AD,h2⟩
theorem OQ.grown{W w2:World}{l:Qs}(ho:OQ t w B v l)(hW:W.heap.size<=B)(h:AA W w)(hg:w.grownBy w2 v.ownBlock):AA W w2:=
 CP h hg (fun q hq=>le_trans hW (DI ho q hq))
theorem OQ.empty(hB:B<=g)(h:w.heap[g]?=some (.cells #[] t)):OQ t w B (.slice (some ⟨g,0,none⟩) 0 0) []:=⟨rfl,.inr ⟨g,0,#[],rfl,hB,h,Nat.le_refl _,zero_le _,rfl,rfl⟩⟩
theorem OQ.nil(t:TypeId)(w:World)(B:Nat):OQ t w B (.slice none 0 0) []:=⟨rfl,.inl ⟨rfl,rfl⟩⟩
theorem OQ.one{r:Int × Int}(hB:B<=g)(h:w.heap[g]?=some (.cells #[.int .i64 r.1,.int .i64 r.2] t)):OQ t w B (.slice (some ⟨g,0,none⟩) 1 1) [r]:=⟨rfl,.inr ⟨g,1,_,rfl,hB,h,Nat.le_refl _,by unfold maxLen;omega,rfl,rfl⟩⟩
theorem QR.cells{b off:Nat}{l:Qs}(hc:∀(j:Nat) (h:j<l.length),w.cell? ⟨b,off+j*2,none⟩=some (.int .i64 l[j].1)/\w.cell? ⟨b,off+j*2+1,none⟩=some (.int .i64 l[j].2)):
 ∀(j:Nat) (u:Value),(CL l)[j]?=some u->w.cell? ((⟨b,off,none⟩:Addr).add j)=some u:=by
 intro j u hu;have hj:j<l.length*2:=by
  rcases Nat.lt_or_ge j (l.length*2) with h|h
  ·exact h
  ·rw[List.getElem?_eq_none (by rw[Bb];exact h)]at hu;cases hu
 have hk:j/2<l.length:=AD;rw[Nj];rcases Nat.mod_two_eq_zero_or_one j with hm|hm
 ·have e:j=j/2*2:=AD;rw[e]at hu ⊢;rw[JO,List.getElem?_eq_getElem hk]at hu;rw[(hc _ hk).1];exact hu
 ·have e:j=j/2*2+1:=AD;rw[e]at hu ⊢;rw[Jg,List.getElem?_eq_getElem hk]at hu;rw[<-Nat.add_assoc,(hc _ hk).2];exact hu
structure Mz(t s:TypeId):Prop where
 Yq:prog.underlying s=some (.slice t)
 el:prog.elem s=t
 info:(prog.info? t).map (fun i=>(i.zero,i.size,i.bytes))=some (some (.agg #[.int .i64 0,.int .i64 0]),2,16)
 size:∀w,(Go.sizeOf (prog.elem s)).run prog w=.ok 2 w
theorem Mz.L_(T:Mz t s):prog.underlying s=some (.slice (prog.elem s)):=by rw[T.el];exact T.Yq
theorem OZ(T:Mz t s){w:World}{B:Nat}{v u:Value}{l m:Qs}(ho:OQ t w B v l)(hm:QR w u m)(hB:B<=w.heap.size)(hlen:l.length+m.length<=200000):
 ∃v' w',(Builtin.append_ #[s,s] s #[v,u]).run prog w=.ok v' w'/\OQ t w' B v' (l++m)/\w.grownBy w' v.ownBlock:=by
 obtain ⟨i0,Gv,JM,Ie,JN⟩:=info_parts T.info;obtain ⟨A,cap,rfl,h2,h3⟩:=hm
 cases A with
 |none=>
  have h0:m=[]:=by
   cases m with
   |nil=>rfl
   |cons x t=>obtain ⟨b,off,e,_⟩:=h3 Ar;cases e
  subst h0;obtain ⟨A2,c2,rfl,q2⟩:=ho.form;have NL:=Src.ofNil (P:=prog) w (size:=i0.size) T.Yq cap;refine ⟨_,_,run_append_nothing (P:=prog) w s s s t i0 T.Yq Gv A2 l.length c2 q2 _ NL,by rw[append_nil];exact ho,⟨rfl,rfl,rfl,Nat.le_refl _,fun _ _ _=>rfl⟩⟩
 |some ad=>
  by_cases h0:0<m.length
  ·obtain ⟨b,off,e,hb,hc⟩:=h3 h0;cases e;obtain ⟨v',w',k1,k2,k3,_⟩:=run_append_own (P:=prog) w B s s t i0 (.agg #[.int .i64 0,.int .i64 0]) 2 16 T.Yq Gv JM Ie JN rfl (by decide) v l.length (CL l) ho ⟨b,off,none⟩ m.length cap (CL m) (by rw[Bb]) (QR.cells hc) (SV m) (by unfold maxLen;omega) AD hB;refine ⟨v',w',k1,?_,k3⟩;show w'.ownsRow B t 2 v' (l++m).length (CL (l++m))
   rw[length_append,Ja];exact k2
  ·obtain rfl:=List.eq_nil_of_length_eq_zero (Nat.eq_zero_of_not_pos h0)
   obtain ⟨v',w',k1,k2,k3,_⟩:=run_append_own (P:=prog) w B s s t i0 (.agg #[.int .i64 0,.int .i64 0]) 2 16 T.Yq Gv JM Ie JN rfl (by decide) v l.length (CL l) ho ad 0 cap [] Ar (fun j x hx=>by simp at hx) (by intro x hx;simp at hx) (by unfold maxLen;omega) (by simp at hlen;omega) hB;refine ⟨v',w',k1,?_,k3⟩;show w'.ownsRow B t 2 v' (l++[]).length (CL (l++[]))
   rw[append_nil];simpa using k2
theorem OR(T:Mz t s){w:World}{B:Nat}{v:Value}{l:Qs}(r:Int × Int)(ho:OQ t w B v l)(hB:B<=w.heap.size)(hl:l.length<=190000):
 ∃u w2,(Builtin.append_ #[s,s] s #[v,.slice (some ⟨w.heap.size,0,none⟩) 1 1]).run prog (w.alloc (.cells #[.int .i64 r.1,.int .i64 r.2] t))=.ok u w2/\OQ t w2 B u (l++[r])/\∀W,W.heap.size<=B->AA W w->AA W w2:=by
 have a1:AA w (w.alloc (.cells #[.int .i64 r.1,.int .i64 r.2] t)):=(AA.refl w).alloc _;have hm:QR (w.alloc (.cells #[.int .i64 r.1,.int .i64 r.2] t)) (.slice (some ⟨w.heap.size,0,none⟩) 1 1) [r]:=OQ.rq (OQ.one (B:=0) (zero_le _) (Ae rfl));have XI:=OQ.later a1 ho;obtain ⟨u,w2,k1,k2,k3⟩:=OZ T XI hm (le_trans hB a1.below.size) (by simp;omega);exact ⟨u,w2,k1,k2,fun W h1 h2=>OQ.grown XI h1 (h2.trans a1) k3⟩
theorem aL(T:Mz t s){w:World}{v:Value}{l:Qs}(hr:QR w v l)(hl:l.length<=190000):
 ∃u w2,(Builtin.append_ #[s,s] s #[.slice (some ⟨w.heap.size,0,none⟩) 0 0,v]).run prog (w.alloc (.cells #[] t))=.ok u w2/\AA w w2/\OQ t w2 w.heap.size u l:=by
 have a1:AA w (w.alloc (.cells #[] t)):=(AA.refl w).alloc _;have ho:OQ t (w.alloc (.cells #[] t)) w.heap.size (.slice (some ⟨w.heap.size,0,none⟩) 0 0) []:=OQ.empty (Nat.le_refl _) (Ae rfl);obtain ⟨u,w2,k1,k2,k3⟩:=OZ T ho (hr.later a1) a1.below.size (by simp;omega);exact ⟨u,w2,k1,OQ.grown ho (Nat.le_refl _) a1 k3,k2⟩
theorem QR.jp(T:Mz t s){w:World}{v:Value}{l:Qs}(h:QR w v l)(n:Nat)(hn:n<=l.length):∃u,QR w u (l.drop n)/\∀w',(Instr.sliceAt s v (some (.int .i64 (n:Int))) none none).run prog w'=.ok u w':=by
 obtain ⟨A,cap,rfl,h2,h3⟩:=h;refine ⟨_,QR.drop ⟨A,cap,rfl,h2,h3⟩ n hn,fun w'=>?_⟩;rw[run_sliceAt_slice w' _ _ _ _ _ T.L_,run_slice_l w' _ A l.length cap T.L_ .i64 (n:Int) AD AD];rw[T.size];simp[Result.andThen,sliced]
theorem QR.Sk(T:Mz t s){w:World}{v:Value}{l:Qs}(h:QR w v l)(n:Nat)(hn:n<=l.length):∃A cap,QR w (.slice A n cap) (l.take n)/\∀w',(Instr.sliceAt s v none (some (.int .i64 (n:Int))) none).run prog w'=.ok (.slice A n cap) w':=by
 obtain ⟨A,cap,rfl,h2,h3⟩:=h;have key:∀w',(Instr.sliceAt s (.slice A l.length cap) none (some (.int .i64 (n:Int))) none).run prog w'=.ok (.slice (if cap=0 then A else A.map (fun x=>x.add 0)) n cap) w':=fun w'=>by
  rw[run_sliceAt_slice w' _ _ _ _ _ T.L_,run_slice_h w' _ A l.length cap T.L_ .i64 (n:Int) AD AD];rw[T.size];simp[Result.andThen,sliced]
 have eA:(if cap=0 then A else A.map (fun x=>x.add 0))=A:=by
  split
  ·rfl
  ·cases A with
   |none=>rfl
   |some a=>simp[Addr.add]
 rw[eA]at key;exact ⟨A,cap,QR.take ⟨A,cap,rfl,h2,h3⟩ n hn,key⟩
def RT(k:IntKind)(t:TypeId)(w:World)(v:Value)(l:List Int):Prop:=∃(A:Option Addr) (cap:Nat),v=.slice A l.length cap/\l.length<=cap/\
 (0<l.length->∃b off cs m,A=some ⟨b,off,none⟩/\w.heap[b]?=some (.cells cs t m)/\∀(j:Nat) (h:j<l.length),cs[off+j]?=some (.int k l[j]))
theorem RT.rn(h:RT k t w v l):RN k w v l:=by
 obtain ⟨A,cap,h1,h2,h3⟩:=h;refine ⟨A,cap,h1,h2,fun h0=>?_⟩;obtain ⟨b,off,cs,m,e,hb,hc⟩:=h3 h0;refine ⟨b,off,e,As hb,fun j hj=>?_⟩;rw[<-hc j hj];simp[World.cell?,hb]
theorem RT.later(h:RT k t w v l)(ha:AA w w'):RT k t w' v l:=by
 obtain ⟨A,cap,h1,h2,h3⟩:=h;refine ⟨A,cap,h1,h2,fun h0=>?_⟩;obtain ⟨b,off,cs,m,e,hb,hc⟩:=h3 h0;exact ⟨b,off,cs,m,e,AB ha hb,hc⟩
theorem RT.NJ(h:RT k t w v l)(hg:w.heap[g]?=some (.cells cs s m))(Az:s≠t):RT k t (w.setCell ⟨g,i,none⟩ x) v l:=by
 obtain ⟨A,cap,h1,h2,h3⟩:=h;refine ⟨A,cap,h1,h2,fun h0=>?_⟩;obtain ⟨b,off,c2,m2,e,hb,hc⟩:=h3 h0;refine ⟨b,off,c2,m2,e,Bh (fun e2=>?_) hb,hc⟩;rw[e2,hg]at hb;cases hb;exact Az rfl
theorem RT.form(h:RT k t w v l):∃A cap,v=.slice A l.length cap/\l.length<=cap:=h.rn.form
theorem ON.rt(h:ON k t w B v l):RT k t w v l:=by
 rcases h.2 with ⟨rfl,h0⟩|⟨g,cap,cur,rfl,h1,h2,h3,h4,h5,h6⟩
 ·exact ⟨none,0,by rw[h0],AD,fun h=>by omega⟩
 ·refine ⟨_,cap,rfl,h3,fun h0=>⟨g,0,cur,_,rfl,h2,fun j hj=>?_⟩⟩;have:(cur.toList.take (l.length*1))[j]?=(l.map (Value.int k))[j]?:=by rw[h6]
  rw[List.getElem?_take_of_lt AD,Array.getElem?_toList]at this;rw[Nat.zero_add,this];simp[hj]
theorem RT.nil(w:World):RT k t w (.slice none 0 0) []:=⟨none,0,rfl,Nat.le_refl _,fun h=>absurd h (by decide)⟩
def EA(w:World)(bv fv:Value)(p:Pc):Prop:=RT .u8 5 w bv p.b/\RT .i32 21 w fv p.fs
theorem EA.later(h:EA w bv fv p)(ha:AA w w'):EA w' bv fv p:=⟨h.1.later ha,h.2.later ha⟩
def GM(bv fv:Value)(p:Pc):Value:=.agg #[bv,fv,.int .i64 p.base]
def Hd(t:Tr):Value:=.agg #[.int .i64 (t.len:Int),.int .i64 (t.nf:Int),.int .i64 (t.np:Int),.int .i64 (t.Ad:Int)]
def FO(lv rv bv fv:Value)(p:Pc)(t:Tr):Array Value:= #[lv,rv,bv,fv,.int .i64 p.base,.int .i64 (t.len:Int),.int .i64 (t.nf:Int),.int .i64 (t.np:Int),.int .i64 (t.Ad:Int)]
def CU(w:World):Tr->Value->Prop
 |.nil,v=>v=.pointer none
 |.node l p r,v=>∃(k:Nat) (lv rv bv fv:Value),v=.pointer (some ⟨k,0,none⟩)/\w.heap[k]?=some (.cells (FO lv rv bv fv p (.node l p r)) 193)/\CU w l lv/\CU w r rv/\EA w bv fv p
theorem CU.later{w w':World}(ha:AA w w'):∀{t:Tr} {v:Value},CU w t v->CU w' t v
 |.nil,_,h=>h
 |.node l p r,v,h=>by
  obtain ⟨k,lv,rv,bv,fv,h1,h2,h3,h4,h5⟩:=h;exact ⟨k,lv,rv,bv,fv,h1,AB ha h2,CU.later ha h3,CU.later ha h4,h5.later ha⟩
theorem CU.ptr:∀{t:Tr} {v:Value},CU w t v->∃q,v=.pointer q
 |.nil,_,h=>⟨none,h⟩
 |.node _ _ _,_,h=>by
  obtain ⟨k,_,_,_,_,h1,_⟩:=h;exact ⟨_,h1⟩
theorem CU.NJ{w:World}{g i:Nat}{cs:Array Value}{s:TypeId}{m:Nat × Nat}{x:Value}(hg:w.heap[g]?=some (.cells cs s m))(h8:s≠5)(h3:s≠21)(hn:s≠193):
 ∀{t:Tr} {v:Value},CU w t v->CU (w.setCell ⟨g,i,none⟩ x) t v
 |.nil,_,h=>h
 |.node l p r,v,h=>by
  obtain ⟨k,lv,rv,bv,fv,q1,q2,q3,q4,q5⟩:=h;refine ⟨k,lv,rv,bv,fv,q1,Bh (fun e=>?_) q2,CU.NJ hg h8 h3 hn q3,CU.NJ hg h8 h3 hn q4,q5.1.NJ hg h8,q5.2.NJ hg h3⟩;rw[e,hg]at q2;cases q2;exact hn rfl
theorem EA.NJ(hg:w.heap[g]?=some (.cells cs s m))(h8:s≠5)(h3:s≠21)(h:EA w bv fv p):EA (w.setCell ⟨g,i,none⟩ x) bv fv p:=⟨h.1.NJ hg h8,h.2.NJ hg h3⟩
theorem CU.oZ{k:Nat}(hg:w.heap[g]?=some (.cells cs s))(h8:s≠5)(h3:s≠21)(hn:s≠193){t:Tr}{v:Value}(h:CU w t v):
 CU (((w.setCell ⟨g,i,none⟩ x).setCell ⟨g,j,none⟩ y).setCell ⟨g,k,none⟩ z) t v:=by
 have h1:=BI (i:=i) (v:=x) hg rfl;have h2:=BI (i:=j) (v:=y) h1 rfl;exact CU.NJ h2 h8 h3 hn (CU.NJ h1 h8 h3 hn (CU.NJ hg h8 h3 hn h))
theorem EA.oZ{k:Nat}(hg:w.heap[g]?=some (.cells cs s))(h8:s≠5)(h3:s≠21)(h:EA w bv fv p):
 EA (((w.setCell ⟨g,i,none⟩ x).setCell ⟨g,j,none⟩ y).setCell ⟨g,k,none⟩ z) bv fv p:=by
 have h1:=BI (i:=i) (v:=x) hg rfl;have h2:=BI (i:=j) (v:=y) h1 rfl;exact EA.NJ h2 h8 h3 (EA.NJ h1 h8 h3 (EA.NJ hg h8 h3 h))
theorem kX{P:Program}(w:World)(ts:Array TypeId)(t:TypeId)(p q:Nat):(Builtin.max_ ts t #[.int .i64 (p:Int),.int .i64 (q:Int)]).run P w=.ok (.int .i64 ((max p q:Nat):Int)) w:=by
 rw[run_max_int2];split <;> (congr 2;omega)
theorem ec(w:World):Calls prog 155 #[.pointer none] w fun e w'=>e=.returned (Hd .nil)/\AA w w':=by
 go_enter func155,ntmps155;go_wp2_with fail;refine bodyPost_ret (v:=Hd .nil) (by simp[results,results155,go_sem,Hd,Tr.len,Tr.nf,Tr.np,Tr.Ad]) rfl ⟨rfl,?_⟩;exact BQ
theorem Zc(k:Nat)(cs:Array Value)(a b c d:Nat)(x0 x1 x2 x3 x4:Value)(w:World)(hk:w.heap[k]?=some (.cells #[x0,x1,x2,x3,x4,.int .i64 (a:Int),.int .i64 (b:Int),.int .i64 (c:Int),.int .i64 (d:Int)] 193)):
 Calls prog 155 #[.pointer (some ⟨k,0,none⟩)] w fun e w'=>e=.returned (.agg #[.int .i64 (a:Int),.int .i64 (b:Int),.int .i64 (c:Int),.int .i64 (d:Int)])/\AA w w':=by
 have s:=hk;have l:=As s;obtain ⟨r,f⟩:=DX s;clear hk s;go_enter func155,ntmps155;go_wp2_with fail;refine bodyPost_ret (v:=.agg #[.int .i64 (a:Int),.int .i64 (b:Int),.int .i64 (c:Int),.int .i64 (d:Int)]) (by simp[results,results155,go_sem, *]) rfl ⟨rfl,?_⟩;exact BQ
theorem CO(t:Tr)(v:Value)(w:World)(h:CU w t v):Calls prog 155 #[v] w fun e w'=>e=.returned (Hd t)/\AA w w':=by
 cases t with
 |nil=>
  obtain rfl:v=.pointer none:=h
  exact ec w
 |node l p r=>
  obtain ⟨k,lv,rv,bv,fv,rfl,h2,_⟩:=h;exact Zc k #[] _ _ _ _ lv rv bv fv _ w h2
def IB(is:Value->World->Prop)(w:World)(e:Ending)(w':World):Prop:=∃u,e=.returned u/\AA w w'/\is u w'
def Cx(t:Tr)(v:Value)(w:World):Prop:=CU w t v
theorem Bi{t:Tr}(h:AA w w')(s:Cx t v w):Cx t v w':=CU.later h s
theorem Y0(l r:Tr)(p:Pc)(lv rv bv fv:Value)(w:World)(hl:CU w l lv)(hr:CU w r rv)(hp:EA w bv fv p)(fl:l.Fair)(fr:r.Fair)(hn:(Tr.node l p r).len<=90000):
 Calls prog 249 #[lv,GM bv fv p,rv] w fun e w'=>e=.returned (Hd (.node l p r))/\AA w w':=by
 have HL:=AC (fun (w':World) (a:AA w w')=>CO l lv w' (hl.later a));have HR:=AC (fun (w':World) (a:AA w w')=>CO r rv w' (hr.later a));obtain ⟨A,cap,rfl,hA⟩:=hp.1.form;obtain ⟨A2,BP,rfl,hA2⟩:=hp.2.form;have b1:=l.Vj fl;have b2:=r.Vj fr;have b3:=l.EH;have b4:=r.EH;have b5:=l.Md;have b6:=r.Md;have b7:=Dg p.b p.base;have b8:p.fs.length<=p.b.length:=b7;simp only[Tr.len]at hn;unfold Hd at HL HR ⊢;simp only[Tr.len,Tr.nf,Tr.np,Tr.Ad];unfold GM;clear hl hr hp fl fr b7 hA hA2;generalize l.len=a1 at *;generalize l.nf=a2 at *;generalize l.np=a3 at *;generalize l.Ad=a4 at *;generalize r.len=c1 at *;generalize r.nf=c2 at *;generalize r.np=c3 at *;generalize r.Ad=c4 at *;generalize p.b.length=n at *;generalize p.fs.length=m at *;obtain ⟨M,hM⟩:=BZ (max a4 c4);have hM2:M<=90000:=AD;have HMx:∀(w:World) ts t,(Builtin.max_ ts t #[.int .i64 (a4:Int),.int .i64 (c4:Int)]).run prog w=.ok (.int .i64 (M:Int)) w:=fun w ts t=>by rw[kX,hM]
 rw[hM];clear hM b3 b4;go_enter func249,ntmps249;go_wp2_with fail;refine AQ (fun wS=>AA w wS/\wS.heap[w.heap.size]?=some (.cells #[.slice A n cap,.slice A2 m BP,.int .i64 p.base] 191)/\wS.heap[w.heap.size+1]?=some (.cells #[.int .i64 0,.int .i64 0,.int .i64 0,.int .i64 0] 157)) ⟨BQ,CG,CG⟩ ?_;rintro w1 ⟨AJ,AH,Aq⟩;have AG:=AJ;refine (HL _ (by assumption)).mono ?_;rintro e w2 ⟨rfl,AL⟩;have AR:=AG.trans AL;have AU:=AB AL AH;have BH:=AB AL Aq;go_wp2_with fail;refine (HR _ (by assumption)).mono ?_;rintro e w3 ⟨rfl,AX⟩;have An:=AR.trans AX;have Ah:=AB AX AU;have BD:=AB AX BH;obtain ⟨CB,Jv⟩:=Rn Ah;obtain ⟨Dm,FE,JI⟩:=GH BD;go_wp2_with fail;refine bodyPost_ret (v:=.agg #[.int .i64 ((a1+n+c1:Nat):Int),.int .i64 ((a2+m+c2:Nat):Int),.int .i64 ((a3+1+c3:Nat):Int),.int .i64 ((1+M:Nat):Int)]) (by simp[results,results249,go_sem, *]) rfl ⟨rfl,?_⟩;exact BQ
theorem xz(a b c d:Int)(w:World):(Instr.field 157 (.agg #[.int .i64 a,.int .i64 b,.int .i64 c,.int .i64 d]) 0).run prog w=.ok (.int .i64 a) w:=AY
theorem tG(a b c d:Int)(w:World):(Instr.field 157 (.agg #[.int .i64 a,.int .i64 b,.int .i64 c,.int .i64 d]) 1).run prog w=.ok (.int .i64 b) w:=AY
theorem i7(a b c d:Int)(w:World):(Instr.field 157 (.agg #[.int .i64 a,.int .i64 b,.int .i64 c,.int .i64 d]) 3).run prog w=.ok (.int .i64 d) w:=AY
theorem Dq(l r:Tr)(lv rv:Value)(w:World)(c:Bool)(hc:decide (r.Ad+2<l.Ad)=c)(hl:CU w l lv)(hr:CU w r rv)(h1:l.Ad<=90000)(h2:r.Ad<=90000):
 Calls prog 213 #[lv,rv] w fun e w'=>e=.returned (.bool c)/\AA w w':=by
 have HL:=AC (fun (w':World) (a:AA w w')=>CO l lv w' (hl.later a));have HR:=AC (fun (w':World) (a:AA w w')=>CO r rv w' (hr.later a));have HC:Hid (decide ((r.Ad:Int)+2<(l.Ad:Int))=c):=AC (by rw[<-hc];simp only[decide_eq_decide];omega);unfold Hd at HL HR;clear hl hr hc;generalize l.Ad=a4 at *;generalize r.Ad=c4 at *;have a0:=AA.refl w;have f3:=i7;go_enter func213,ntmps213;go_wp2_with fail;refine (HL _ a0).mono ?_;rintro e w2 ⟨rfl,b2⟩;go_wp2_with fail;refine (HR _ b2).mono ?_;rintro e w3 ⟨rfl,b3⟩;go_wp2_with fail;go_ret;exact ⟨Am HC.out,b2.trans b3⟩
theorem Ey(l r:Tr)(p:Pc)(lv rv bv fv:Value)(w:World)(hl:CU w l lv)(hr:CU w r rv)(hp:EA w bv fv p)(fl:l.Fair)(fr:r.Fair)(hn:(Tr.node l p r).len<=90000):
 Calls prog 215 #[lv,GM bv fv p,rv] w (IB (Cx (.node l p r)) w):=by
 have HS:=AC (fun (w':World) (a:AA w w')=>Y0 l r p lv rv bv fv w' (hl.later a) (hr.later a) (hp.later a) fl fr hn);have HT:Hid (∀(w':World) (k:Nat),AA w w'->w'.heap[k]?=some (.cells (FO lv rv bv fv p (.node l p r)) 193)->Cx (.node l p r) (.pointer (some ⟨k,0,none⟩)) w'):=AC (fun w' k a hk=>⟨k,lv,rv,bv,fv,rfl,hk,hl.later a,hr.later a,hp.later a⟩);obtain ⟨q1,rfl⟩:=hl.ptr;obtain ⟨q2,rfl⟩:=hr.ptr;obtain ⟨A,cap,rfl,hA⟩:=hp.1.form;obtain ⟨A2,BP,rfl,hA2⟩:=hp.2.form;unfold FO at HT;unfold Hd at HS;unfold GM at HS ⊢;clear hl hr hp fl fr hn;generalize (Tr.node l p r).len=a1 at *;generalize (Tr.node l p r).nf=a2 at *;generalize (Tr.node l p r).np=a3 at *;generalize (Tr.node l p r).Ad=a4 at *;generalize p.b.length=n at *;generalize p.fs.length=m at *;generalize p.base=b0 at *;go_enter func215,ntmps215;go_wp2_with fail;refine JL w (w.heap.size) (.cells #[.slice A n cap,.slice A2 m BP,.int .i64 b0] 191) ?_;intro w1 AJ AH;have AG:=AJ;apply Ac (8) [] AY AY Ar
 case hstab=>
  intro e he v x y BE hv;simp only[mem_cons,List.not_mem_nil,or_false]at he
 case hlex=>
  intro U;have q0:=fun (v:BA (later U))=>AE (AB ⟨v,rfl⟩ (AB ⟨U,rfl⟩ AH))
  refine Ku ?_
  repeat (go_big_quiet_step ((go_at_call 249;exact EQ (HS _ BQ))))
  exact wpQuiet_nil rfl
 case hown=>
  intro e he o ho;simp only[mem_cons,List.not_mem_nil,or_false]at he
 case htail=>
  intro g u Aw Az;have AL:AA w1 (later u):=⟨u,rfl⟩;generalize later u=w2 at *;clear u;clear Aw Az;refine DH ?_;have AR:=AG.trans AL;go_wp2_with fail;go_ret;refine ⟨_,rfl,AR.alloc _,HT _ _ (AR.alloc _) (Ae rfl)⟩
end
end Go.Proofs.YtamhnffokoejjaaGreatDoor
