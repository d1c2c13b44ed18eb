import Derived.Lib.SlBytesConst
import Derived.Test.YtamhnffokoejjaaGreatDoorKwbf
set_option linter.all false
set_option maxRecDepth 100000
namespace Go.Proofs.YtamhnffokoejjaaGreatDoor
open Go.Proofs.Tryz
open Go.RowKit
section
variable{most:Int}{g tg:Nat}{t:Tr}{v:Value}{w w':World}
theorem RN.lit{k:IntKind}{t:TypeId}{cs:Array Value}{m:Nat × Nat}(l:List Int)(h:w.heap[g]?=some (.cells cs t m))(e:cs.toList=l.map (Value.int k)):RN k w (.slice (some ⟨g,0,none⟩) l.length l.length) l:=by
 refine ⟨_,_,rfl,Nat.le_refl _,fun h0=>⟨g,0,rfl,As h,fun j hj=>?_⟩⟩;have:cs[0+j]?=some (.int k l[j]):=by
  rw[Nat.zero_add,<-Array.getElem?_toList,e];simp[hj]
 simpa[World.cell?,h] using this
theorem PT.form{l:List Int}(h:PT l v w):∃A cap,v=.slice A l.length cap/\l.length<=cap:=RT.form h
structure RAM where
 kind:Int
 at_:Int
 n:Int
 v:Value
 b:List Int
def r8(z:Int):Prop:= -9223372036854775808<=z/\z<=9223372036854775807
structure RAM.Ok(A:RAM)(w:World):Prop where
 kind:r8 A.kind
 at_:r8 A.at_
 n:r8 A.n
 row:RN .u8 w A.v A.b
 bytes:BX A.b
theorem ea(A:Option Addr)(cap:Nat)(most:Int)(w:World)(Dk:0<=most/\most<=16777216):Calls prog 87 #[.slice A 0 cap,.int .i64 most] w fun e w'=>∃g,e=.returned (.tuple #[.pointer (some ⟨g,0,none⟩),.int .i64 0])/\AA w w'/\w.heap.size<=g/\KE w' g most .nil:=by
 have HI:Hid (∀w',w'.heap[w.heap.size]?=some (.cells #[.pointer none,.int .i64 most] 146)->Calls prog 121 #[.pointer (some ⟨w.heap.size,0,none⟩),.int .i64 0,.slice A 0 cap] w' fun e Bg=>e=.returned (.int .i64 0)/\AA w' Bg/\KE Bg w.heap.size most .nil):=AC (fun w' hg=>by
  have h:KE w' w.heap.size most .nil:=⟨_,hg,rfl⟩;exact (Sd w.heap.size most .nil 0 A cap w' h ⟨trivial,trivial,Nat.zero_le _⟩ (Nat.zero_le _) (by simp only[Tr.len];omega) Dk).mono fun e Bg ⟨h1,h2⟩=>⟨h1,h2,h.later h2⟩)
 obtain ⟨k1,k2⟩:=Dk;have d1:decide (most<0)=false:=decide_eq_false AD;have d2:decide (16777216<most)=false:=decide_eq_false AD;go_enter func87,ntmps87;go_wp2_with fail;have s0:(w.alloc (.cells #[.pointer none,.int .i64 most] 146)).heap[w.heap.size]?=some (.cells #[.pointer none,.int .i64 most] 146):=Ae rfl;refine (HI _ s0).mono ?_;rintro e w2 ⟨rfl,b2,r2⟩;have H2:Hid (AA w w2/\KE w2 w.heap.size most .nil):=AC ⟨AA.trans BQ b2,r2⟩;clear b2 r2 s0;go_wp2_with fail;refine bodyPost_ret (v:=.tuple #[.pointer (some ⟨w.heap.size,0,none⟩),.int .i64 0]) (by simp[results,results87,go_sem]) rfl ?_;exact ⟨_,rfl,H2.out.1,Nat.le_refl _,H2.out.2⟩
def Od(b:List Int):Tr:=if 0<b.length then M7 .nil 0 b else .nil
theorem nS(b:List Int):(Od b).bs=b:=by
 unfold Od;split
 ·rw[UF];simp[Tr.bs]
 ·obtain rfl:=List.eq_nil_of_length_eq_zero (by omega:b.length=0)
  rfl
theorem pG{b:List Int}(hb:BX b)(hl:b.length<=60000):(Od b).Ok:=by
 unfold Od;split
 ·exact au ⟨trivial,trivial,Nat.zero_le _⟩ (Nat.le_refl _) (by assumption) hb (by simp only[Tr.len];omega)
 ·exact ⟨trivial,trivial,Nat.zero_le _⟩
theorem gr(u:Value)(b:List Int)(most:Int)(w:World)(hu:RN .u8 w u b)(hb:BX b)(hm:(b.length:Int)<=most)(Dk:0<=most/\most<=16777216)(hl:b.length<=60000):
 Calls prog 87 #[u,.int .i64 most] w fun e w'=>∃g,e=.returned (.tuple #[.pointer (some ⟨g,0,none⟩),.int .i64 0])/\AA w w'/\w.heap.size<=g/\KE w' g most (Od b):=by
 unfold Od;by_cases h:0<b.length
 ·rw[if_pos h];exact iB u b most w hu hb h hm Dk hl
 ·rw[if_neg h];obtain ⟨A,cap,rfl,-⟩:=hu.form;have e:b.length=0:=AD;rw[e];exact ea A cap most w Dk
def E4(w:World)(tg g:Nat)(most:Int)(t:Tr):Prop:=w.heap[tg]?=some (.cells #[.pointer (some ⟨g,0,none⟩)] 135)/\KE w g most t
theorem E4.later(h:E4 w tg g most t)(a:AA w w'):E4 w' tg g most t:=⟨AB a h.1,h.2.later a⟩
def Rb(w:World)(v:Value)(t:Tr)(n:Nat):Prop:=(v=.pointer none/\t=.nil/\n=0)\/∃tg g most,v=.pointer (some ⟨tg,0,none⟩)/\E4 w tg g most t/\n=t.nf+1
theorem Rb.later{n:Nat}(h:Rb w v t n)(a:AA w w'):Rb w' v t n:=by
 rcases h with h|⟨tg,g,most,h1,h2,h3⟩
 ·exact .inl h
 ·exact .inr ⟨tg,g,most,h1,h2.later a,h3⟩
theorem E4.tl(h:E4 w tg g most t):Rb w (.pointer (some ⟨tg,0,none⟩)) t (t.nf+1):=.inr ⟨tg,g,most,rfl,h,rfl⟩
theorem EB(tg g:Nat)(most:Int)(t:Tr)(w:World)(h:E4 w tg g most t):Calls prog 61 #[.pointer (some ⟨tg,0,none⟩)] w fun e w'=>e=.returned (.pointer (some ⟨g,0,none⟩))/\AA w w':=by
 have r0:=AE h.1;clear h;go_enter func61,ntmps61;go_wp2_with fail;go_ret;exact ⟨rfl,AA.refl _⟩
theorem Um(w:World):Calls prog 61 #[.pointer none] w fun e w'=>e=.returned (.pointer none)/\AA w w':=by
 go_enter func61,ntmps61;go_wp2_with fail;go_ret;exact ⟨rfl,AA.refl _⟩
theorem ML(v:Value)(t:Tr)(n:Nat)(w:World)(h:Rb w v t n):Calls prog 61 #[v] w fun e w'=>∃q,e=.returned (.pointer q)/\AA w w'/\L0 w' (.pointer q) t:=by
 rcases h with ⟨rfl,rfl,-⟩|⟨tg,g,most,rfl,h,-⟩
 ·exact (Um w).mono fun e w' ⟨h1,h2⟩=>⟨_,h1,h2,.inl ⟨rfl,rfl⟩⟩
 ·exact (EB tg g most t w h).mono fun e w' ⟨h1,h2⟩=>⟨_,h1,h2,.inr ⟨g,most,rfl,h.2.later h2⟩⟩
theorem Kb(v:Value)(t:Tr)(n:Nat)(w:World)(h:Rb w v t n):Calls prog 63 #[v] w fun e w'=>e=.returned (.int .i64 (t.len:Int))/\AA w w':=by
 have HB:=AC (ML v t n w h);have HL:=AC (fun (w':World) (q:Option Addr) (h:L0 w' (.pointer q) t)=>EP (.pointer q) t w' h);clear h;generalize t.len=m at *;go_enter func63,ntmps63;go_wp2_with fail;refine HB.out.mono ?_;rintro e w2 ⟨q,rfl,b2,h2⟩;have H2:=AC (And.intro b2 h2);clear b2 h2;go_wp2_with fail;refine (HL _ _ H2.out.2).mono ?_;rintro e w3 ⟨rfl,b3⟩;have H3:=AC (H2.out.1.trans b3);clear b3;go_wp2_with fail;go_ret;exact ⟨rfl,H3.out⟩
theorem FI(tg g:Nat)(most:Int)(t:Tr)(w:World)(h:E4 w tg g most t)(hn:t.nf<=60000):Calls prog 23 #[.pointer (some ⟨tg,0,none⟩)] w fun e w'=>e=.returned (.int .i64 ((t.nf+1:Nat):Int))/\AA w w':=by
 have HB:=AC (EB tg g most t w h);have HL:=AC (fun (w':World) (b:AA w w')=>IJ _ t w' (.inr ⟨g,most,rfl,h.2.later b⟩));clear h;generalize t.nf=m at *;go_enter func23,ntmps23;go_wp2_with fail;refine HB.out.mono ?_;rintro e w2 ⟨rfl,b2⟩;have H2:=AC b2;clear b2;go_wp2_with fail;refine (HL _ H2.out).mono ?_;rintro e w3 ⟨rfl,b3⟩;have H3:=AC (H2.out.trans b3);clear b3;go_wp2_with fail;go_ret;exact ⟨Ar,H3.out⟩
theorem XD(w:World):Calls prog 23 #[.pointer none] w fun e w'=>e=.returned (.int .i64 0)/\AA w w':=by
 go_enter func23,ntmps23;go_wp2_with fail;go_ret;exact ⟨rfl,AA.refl _⟩
theorem YY(v:Value)(t:Tr)(n:Nat)(w:World)(h:Rb w v t n)(hn:t.nf<=60000):Calls prog 23 #[v] w fun e w'=>e=.returned (.int .i64 (n:Int))/\AA w w':=by
 rcases h with ⟨rfl,rfl,rfl⟩|⟨tg,g,most,rfl,h,rfl⟩
 ·exact XD w
 ·exact FI tg g most t w h hn
theorem QZ(v:Value)(t:Tr)(n:Nat)(k:Int)(c:Bool)(w:World)(hc:decide (0<=k/\k<n)=c)(h:Rb w v t n)(hn:t.nf<=60000):Calls prog 157 #[v,.int .i64 k] w fun e w'=>e=.returned (.bool c)/\AA w w':=by
 have HL:=AC (YY v t n w h hn);clear h hn;by_cases h0:0<=k
 ·by_cases h1:k<n
  ·have HC:Hid (c=true):=AC (by rw[<-hc];exact decide_eq_true ⟨h0,h1⟩);have d0:decide (k<(n:Int))=true:=decide_eq_true h1;clear hc h1;go_enter func157,ntmps157;go_wp2_with fail;refine HL.out.mono ?_;rintro e w2 ⟨rfl,b2⟩;have H2:=AC b2;clear b2;go_wp2_with fail;go_ret;exact ⟨by rw[HC.out];rfl,H2.out⟩
  ·have HC:Hid (c=false):=AC (by rw[<-hc];exact decide_eq_false (fun q=>h1 q.2));have d0:decide (k<(n:Int))=false:=decide_eq_false h1;clear hc h1;go_enter func157,ntmps157;go_wp2_with fail;refine HL.out.mono ?_;rintro e w2 ⟨rfl,b2⟩;have H2:=AC b2;clear b2;go_wp2_with fail;go_ret;exact ⟨by rw[HC.out];rfl,H2.out⟩
 ·have HC:Hid (c=false):=AC (by rw[<-hc];exact decide_eq_false (fun q=>h0 q.1));clear hc;go_enter func157,ntmps157;go_wp2_with fail;go_ret;exact ⟨by rw[HC.out];rfl,AA.refl _⟩
theorem Tr.Ok.nf(h:t.Ok):t.nf<=60000:=Nat.le_trans t.Md h.len
def J_(t:Tr):List Int:=Ap 0 t.bs
theorem EZ(t:Tr):(J_ t).length=t.nf:=Tr.OC t
theorem lG(t:Tr):Ff (J_ t) t.len:=by
 have:=GJ t.bs
 rwa [Tr.Bv]at this
theorem Ud(tg g:Nat)(most:Int)(t:Tr)(w:World)(h:E4 w tg g most t)(ok:t.Ok):Calls prog 115 #[.pointer (some ⟨tg,0,none⟩),.int .i64 0] w fun e w'=>e=.returned (.tuple #[.int .i64 0,.bool true])/\AA w w':=by
 have HH:=AC (QZ _ t (t.nf+1) 0 true w (decide_eq_true AD) h.tl ok.nf);clear h ok;go_enter func115,ntmps115;go_wp2_with fail;refine HH.out.mono ?_;rintro e w2 ⟨rfl,b2⟩;have H2:=AC b2;clear b2;go_wp2_with fail;refine bodyPost_ret (v:=.tuple #[.int .i64 0,.bool true]) (by simp[results,results115,go_sem]) rfl ⟨rfl,H2.out⟩
theorem W5(tg g:Nat)(most:Int)(t:Tr)(k:Nat)(s:Int)(w:World)(h:E4 w tg g most t)(ok:t.Ok)(hk:k<t.nf)(hs:fY t k=s)(hsb:0<=s/\s<=60000):Calls prog 115 #[.pointer (some ⟨tg,0,none⟩),.int .i64 ((k+1:Nat):Int)] w fun e w'=>e=.returned (.tuple #[.int .i64 (s+1),.bool true])/\AA w w':=by
 have HH:=AC (QZ _ t (t.nf+1) ((k+1:Nat):Int) true w (decide_eq_true AD) h.tl ok.nf);have HB:=AC (fun (w':World) (a:AA w w')=>EB tg g most t w' (h.later a));have HK:=AC (fun (w':World) (a:AA w w')=>Pz g most t k s w' hs (h.2.later a) ok hk);have Gh:k<=60000:=by have:=ok.nf;omega
 obtain ⟨Z3,MI⟩:=hsb;clear h ok hk hs;have e1:((k+1:Nat):Int)=(k:Int)+1:=AD;rw[e1]at HH ⊢;clear e1;have d1:(((k:Int)+1) == 0)=false:=by simp;omega
 have d2:(k:Int)+1-1=(k:Int):=AD;go_enter func115,ntmps115;go_wp2_with fail;refine HH.out.mono ?_;rintro e w2 ⟨rfl,b2⟩;have H2:=AC b2;clear b2;go_wp2_with fail;refine (HB _ H2.out).mono ?_;rintro e w3 ⟨rfl,b3⟩;have H3:=AC (H2.out.trans b3);clear b3;go_wp2_with fail;refine (HK _ H3.out).mono ?_;rintro e w4 ⟨rfl,b4⟩;have H4:=AC (H3.out.trans b4);clear b4;go_wp2_with fail;refine bodyPost_ret (v:=.tuple #[.int .i64 (s+1),.bool true]) (by simp[results,results115,go_sem]) rfl ⟨rfl,H4.out⟩
theorem ns(t:Tr)(k:Nat):fY t k=(J_ t).getD k 0:=rfl
theorem MH(tg g:Nat)(most:Int)(t:Tr)(k:Nat)(s:Int)(w:World)(h:E4 w tg g most t)(ok:t.Ok)(hk:k<=t.nf)(hs:Jw (J_ t) k=s):Calls prog 115 #[.pointer (some ⟨tg,0,none⟩),.int .i64 (k:Int)] w fun e w'=>e=.returned (.tuple #[.int .i64 s,.bool true])/\AA w w':=by
 subst hs
 cases k with
 |zero=>exact Ud tg g most t w h ok
 |succ k=>
  have hf:=lG t;have h1:=hf.lo k (by rw[EZ];omega);have h2:=hf.hi k (by rw[EZ];omega);have:=ok.len
  have e:Jw (J_ t) (k+1)=fY t k+1:=by unfold Jw;rw[if_neg AD];rfl
  rw[e];exact W5 tg g most t k (fY t k) w h ok AD rfl (by rw[ns];omega)
theorem jm(tg g:Nat)(most:Int)(t:Tr)(k:Nat)(s:Int)(w:World)(h:E4 w tg g most t)(ok:t.Ok)(hk:k<=t.nf)(hs:Nw (J_ t) t.len k=s):Calls prog 156 #[.pointer (some ⟨tg,0,none⟩),.int .i64 (k:Int)] w fun e w'=>e=.returned (.tuple #[.int .i64 s,.bool true])/\AA w w':=by
 have HH:=AC (QZ _ t (t.nf+1) (k:Int) true w (decide_eq_true AD) h.tl ok.nf);have HB:=AC (fun (w':World) (a:AA w w')=>EB tg g most t w' (h.later a));unfold Nw at hs;rw[EZ]at hs;by_cases BN:k<t.nf
 ·rw[if_pos BN]at hs;have HK:=AC (fun (w':World) (a:AA w w')=>Pz g most t k s w' hs (h.2.later a) ok BN);clear h ok hk hs BN;go_enter func156,ntmps156;go_wp2_with fail;refine HH.out.mono ?_;rintro e w2 ⟨rfl,b2⟩;have H2:=AC b2;clear b2;go_wp2_with fail;refine (HB _ H2.out).mono ?_;rintro e w3 ⟨rfl,b3⟩;have H3:=AC (H2.out.trans b3);clear b3;go_wp2_with fail;refine (HK _ H3.out).mono ?_;rintro e w4 ⟨rfl,b4⟩;have H4:=AC (H3.out.trans b4);clear b4;go_wp2_with fail;refine bodyPost_ret (v:=.tuple #[.int .i64 s,.bool true]) (by simp[results,results156,go_sem]) rfl ⟨rfl,H4.out⟩
 ·rw[if_neg BN]at hs;subst hs;have HK:=AC (fun (w':World) (a:AA w w')=>cY _ t (k:Int) w' (.inr ⟨g,most,rfl,h.2.later a⟩) (.inr AD));have HL:=AC (fun (w':World) (a:AA w w')=>Kb _ t (t.nf+1) w' (h.later a).tl);clear h ok hk BN;generalize t.len=m at *;go_enter func156,ntmps156;go_wp2_with fail;refine HH.out.mono ?_;rintro e w2 ⟨rfl,b2⟩;have H2:=AC b2;clear b2;go_wp2_with fail;refine (HB _ H2.out).mono ?_;rintro e w3 ⟨rfl,b3⟩;have H3:=AC (H2.out.trans b3);clear b3;go_wp2_with fail;refine (HK _ H3.out).mono ?_;rintro e w4 ⟨rfl,b4⟩;have H4:=AC (H3.out.trans b4);clear b4;go_wp2_with fail;refine (HL _ H4.out).mono ?_;rintro e w5 ⟨rfl,b5⟩;have H5:=AC (H4.out.trans b5);clear b5;go_wp2_with fail;refine bodyPost_ret (v:=.tuple #[.int .i64 (m:Int),.bool true]) (by simp[results,results156,go_sem]) rfl ⟨rfl,H5.out⟩
theorem jh(v:Value)(t:Tr)(n:Nat)(k a b:Int)(c d:Bool)(l:List Int)(w:World)(h:Rb w v t n)(ok:t.Ok)(hl:Bt t.bs a b=l)
 (HS:Hid (∀w',AA w w'->Calls prog 115 #[v,.int .i64 k] w' fun e Bg=>e=.returned (.tuple #[.int .i64 a,.bool c])/\AA w' Bg))
 (HE:Hid (∀w',AA w w'->Calls prog 156 #[v,.int .i64 k] w' fun e Bg=>e=.returned (.tuple #[.int .i64 b,.bool d])/\AA w' Bg)):
 Calls prog 114 #[v,.int .i64 k] w (IB (PT l) w):=by
 have HB:=AC (fun (w':World) (e:AA w w')=>ML v t n w' (h.later e));have HP:=AC (fun (w':World) (q:Option Addr) (h:L0 w' (.pointer q) t)=>NQ (.pointer q) t a b l hl w' h ok);clear h ok hl;go_enter func114,ntmps114;go_wp2_with fail;refine (HS _ (AA.refl _)).mono ?_;rintro e w2 ⟨rfl,b2⟩;have H2:=AC b2;clear b2;go_wp2_with fail;refine (HE _ H2.out).mono ?_;rintro e w3 ⟨rfl,b3⟩;have H3:=AC (H2.out.trans b3);clear b3;go_wp2_with fail;refine (HB _ H3.out).mono ?_;rintro e w4 ⟨q,rfl,b4,h4⟩;have H4:=AC (And.intro (H3.out.trans b4) h4);clear b4 h4;go_wp2_with fail;refine (HP _ _ H4.out.2).mono ?_;rintro e w5 ⟨u,rfl,b5,h5⟩;have H5:=AC (And.intro (H4.out.1.trans b5) h5);obtain ⟨A,cap,rfl,-⟩:=PT.form h5;clear b5 h5;go_wp2_with fail;go_ret;exact ⟨_,rfl,H5.out.1,H5.out.2⟩
theorem cJ(tg g:Nat)(most:Int)(t:Tr)(k:Nat)(l:List Int)(w:World)(h:E4 w tg g most t)(ok:t.Ok)(hk:k<=t.nf)(hl:Bt t.bs (Jw (J_ t) k) (Nw (J_ t) t.len k)=l):Calls prog 114 #[.pointer (some ⟨tg,0,none⟩),.int .i64 (k:Int)] w (IB (PT l) w):=
 jh _ t (t.nf+1) k _ _ true true l w h.tl ok hl (AC fun w' a=>MH tg g most t k _ w' (h.later a) ok hk rfl) (AC fun w' a=>jm tg g most t k _ w' (h.later a) ok hk rfl)
theorem eO(tg g:Nat)(most:Int)(t:Tr)(x:Int)(w:World)(h:E4 w tg g most t)(hx:x<0\/(t.len:Int)<x):Calls prog 109 #[.pointer (some ⟨tg,0,none⟩),.int .i64 x] w fun e w'=>e=.returned (.tuple #[.int .i64 0,.int .i64 0,.bool false])/\AA w w':=by
 have HL:=AC (Kb _ t (t.nf+1) w h.tl);clear h;generalize t.len=m at *;by_cases h1:x<0
 ·clear hx;go_enter func109,ntmps109;go_wp2_with fail;refine bodyPost_ret (v:=.tuple #[.int .i64 0,.int .i64 0,.bool false]) (by simp[results,results109,go_sem]) rfl ⟨rfl,AA.refl _⟩
 ·have h2:(m:Int)<x:=AD;have d1:decide (x<0)=false:=decide_eq_false h1;clear hx h1;go_enter func109,ntmps109;go_wp2_with fail;refine HL.out.mono ?_;rintro e w2 ⟨rfl,b2⟩;have H2:=AC b2;clear b2;go_wp2_with fail;refine bodyPost_ret (v:=.tuple #[.int .i64 0,.int .i64 0,.bool false]) (by simp[results,results109,go_sem]) rfl ⟨rfl,H2.out⟩
theorem Qx(tg g:Nat)(most:Int)(t:Tr)(x k:Nat)(s:Int)(w:World)(h:E4 w tg g most t)(ok:t.Ok)(hx:x<=t.len)(hk:below (x:Int) (J_ t)=k)(hs:Jw (J_ t) k=s)(vR:0<=s/\s<=x)(hZ:k<=t.nf):
 Calls prog 109 #[.pointer (some ⟨tg,0,none⟩),.int .i64 (x:Int)] w fun e w'=>e=.returned (.tuple #[.int .i64 (k:Int),.int .i64 ((x:Int)-s),.bool true])/\AA w w':=by
 have HL:=AC (Kb _ t (t.nf+1) w h.tl);have HB:=AC (fun (w':World) (a:AA w w')=>EB tg g most t w' (h.later a));have HA:=AC (fun (w':World) (a:AA w w')=>YG _ t (x:Int) k w' hk (.inr ⟨g,most,rfl,h.2.later a⟩) ok);have HS:=AC (fun (w':World) (a:AA w w')=>MH tg g most t k s w' (h.later a) ok hZ hs);obtain ⟨k1,k2⟩:=vR;have hl6:=ok.len;have d1:decide ((x:Int)<0)=false:=decide_eq_false AD;have d3:decide (t.len<x)=false:=decide_eq_false AD;clear h ok hk hs;generalize t.len=m at *;go_enter func109,ntmps109;go_wp2_with fail;refine HL.out.mono ?_;rintro e w2 ⟨rfl,b2⟩;have H2:=AC b2;clear b2;go_wp2_with fail;refine (HB _ H2.out).mono ?_;rintro e w3 ⟨rfl,b3⟩;have H3:=AC (H2.out.trans b3);clear b3;go_wp2_with fail;refine (HA _ H3.out).mono ?_;rintro e w4 ⟨rfl,b4⟩;have H4:=AC (H3.out.trans b4);clear b4;go_wp2_with fail;refine (HS _ H4.out).mono ?_;rintro e w5 ⟨rfl,b5⟩;have H5:=AC (H4.out.trans b5);clear b5;go_wp2_with fail;refine bodyPost_ret (v:=.tuple #[.int .i64 (k:Int),.int .i64 ((x:Int)-s),.bool true]) (by simp[results,results109,go_sem]) rfl ⟨rfl,H5.out⟩
theorem ic(l:List Int)(n:Nat)(h:l.length=n):Bt l 0 n=l:=by unfold Bt;rw[List.take_of_length_le AD];rfl
theorem kB(v:Value)(t:Tr)(n:Nat)(w:World)(h:Rb w v t n)(ok:t.Ok):Calls prog 18 #[v] w (IB (PT t.bs) w):=by
 have HB:=AC (ML v t n w h);have HL:=AC (fun (w':World) (e:AA w w')=>Kb v t n w' (h.later e));have HP:=AC (fun (w':World) (q:Option Addr) (h:L0 w' (.pointer q) t)=>NQ (.pointer q) t 0 t.len t.bs (ic _ _ (Tr.Bv t)) w' h ok);clear h ok;generalize t.len=m at *;go_enter func18,ntmps18;go_wp2_with fail;refine HB.out.mono ?_;rintro e w2 ⟨q,rfl,b2,h2⟩;have H2:=AC (And.intro b2 h2);clear b2 h2;go_wp2_with fail;refine (HL _ H2.out.1).mono ?_;rintro e w3 ⟨rfl,b3⟩;have H3:=AC (And.intro (H2.out.1.trans b3) (H2.out.2.later b3));clear b3;go_wp2_with fail;refine (HP _ _ H3.out.2).mono ?_;rintro e w4 ⟨u,rfl,b4,h4⟩;have H4:=AC (And.intro (H3.out.1.trans b4) h4);obtain ⟨A,cap,rfl,-⟩:=PT.form h4;clear b4 h4;go_wp2_with fail;go_ret;exact ⟨_,rfl,H4.out.1,H4.out.2⟩
theorem V3(tg g:Nat)(most:Int)(t:Tr)(x c:Int)(A:Option Addr)(n cap:Nat)(R:World->Prop)(w:World)(h:E4 w tg g most t)
 (HI:Hid (∀w',AA w w'->Calls prog 121 #[.pointer (some ⟨g,0,none⟩),.int .i64 x,.slice A n cap] w' fun e Bg=>e=.returned (.int .i64 c)/\LL g w' Bg/\R Bg)):
 Calls prog 80 #[.pointer (some ⟨tg,0,none⟩),.int .i64 x,.slice A n cap] w fun e w'=>e=.returned (.int .i64 c)/\LL g w w'/\R w':=by
 have HB:=AC (EB tg g most t w h);clear h;go_enter func80,ntmps80;go_wp2_with fail;refine HB.out.mono ?_;rintro e w2 ⟨rfl,b2⟩;have H2:=AC b2;clear b2;go_wp2_with fail;refine (HI _ H2.out).mono ?_;rintro e w3 ⟨rfl,b3,h3⟩;have H3:=AC (And.intro ((LL.of H2.out).trans b3) h3);clear b3 h3;go_wp2_with fail;go_ret;exact ⟨rfl,H3.out.1,H3.out.2⟩
theorem WB(tg g:Nat)(most:Int)(t:Tr)(x m c:Int)(l:List Int)(R:World->Prop)(w:World)(h:E4 w tg g most t)
 (HI:Hid (∀w',AA w w'->Calls prog 120 #[.pointer (some ⟨g,0,none⟩),.int .i64 x,.int .i64 m] w' fun e Bg=>∃u,e=.returned (.tuple #[u,.int .i64 c])/\LL g w' Bg/\R Bg/\PT l u Bg)):
 Calls prog 79 #[.pointer (some ⟨tg,0,none⟩),.int .i64 x,.int .i64 m] w fun e w'=>∃u,e=.returned (.tuple #[u,.int .i64 c])/\LL g w w'/\R w'/\PT l u w':=by
 have HB:=AC (EB tg g most t w h);clear h;go_enter func79,ntmps79;go_wp2_with fail;refine HB.out.mono ?_;rintro e w2 ⟨rfl,b2⟩;have H2:=AC b2;clear b2;go_wp2_with fail;refine (HI _ H2.out).mono ?_;rintro e w3 ⟨u,rfl,b3,h3,h4⟩;have H3:=AC (And.intro ((LL.of H2.out).trans b3) (And.intro h3 h4));obtain ⟨A,cap,rfl,-⟩:=PT.form h4;clear b3 h3 h4;generalize l.length=nl at *;go_wp2_with fail;refine bodyPost_ret (v:=.tuple #[.slice A nl cap,.int .i64 c]) (by simp[results,results79,go_sem]) rfl ?_;exact ⟨_,rfl,H3.out.1,H3.out.2.1,H3.out.2.2⟩
theorem gM(u:Value)(b:List Int)(most:Int)(w:World)(hu:RN .u8 w u b)(hb:BX b)(hm:(b.length:Int)<=most)(Dk:0<=most/\most<=16777216)(hl:b.length<=60000):
 Calls prog 34 #[u,.int .i64 most] w fun e w'=>∃tg g,e=.returned (.tuple #[.pointer (some ⟨tg,0,none⟩),.int .i64 0])/\AA w w'/\w.heap.size<=g/\w.heap.size<=tg/\tg≠g/\E4 w' tg g most (Od b):=by
 have HR:=AC (gr u b most w hu hb hm Dk hl);obtain ⟨A,cap,rfl,-⟩:=hu.form;clear hu hb hm Dk hl;generalize Od b=t at *;generalize b.length=n at *;go_enter func34,ntmps34;go_wp2_with fail;refine HR.out.mono ?_;rintro e w2 ⟨g,rfl,b2,hg,h2⟩;have H2:=AC (And.intro b2 (And.intro hg h2));have hgl:g<w2.heap.size:=by
  obtain ⟨rv,q,_⟩:=h2;exact As q
 have HG:=AC hgl;clear b2 hg h2 hgl;go_wp2_with fail;refine bodyPost_ret (v:=.tuple #[.pointer (some ⟨w2.heap.size,0,none⟩),.int .i64 0]) (by simp[results,results34,go_sem]) rfl ?_;have a3:AA w2 (w2.alloc (.cells #[.pointer (some ⟨g,0,none⟩)] 135)):=(AA.refl w2).alloc _;exact ⟨_,g,rfl,H2.out.1.trans a3,H2.out.2.1,H2.out.1.below.size,Nat.ne_of_gt HG.out,Ae rfl,H2.out.2.2.later a3⟩
end
end Go.Proofs.YtamhnffokoejjaaGreatDoor
