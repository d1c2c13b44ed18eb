import Derived.Deep.DeepCutAuto
import Derived.Deep.CutBlock
import Derived.Test.YtamhnffokoejjaaGreatDoorKwas
set_option linter.all false
set_option maxHeartbeats 3200000
set_option maxRecDepth 100000
namespace Go.Proofs.YtamhnffokoejjaaGreatDoor
open Go.Proofs.Tryz
open Go.RowKit
section
variable{a b c d r x:Int}{n:Nat}
theorem rL(n:Nat)(hn:n<=255):(((n/64*64:Nat):Int) == 128)=tl (n:Int):=by
 unfold tl;rw[Bool.eq_iff_iff,beq_iff_eq,decide_eq_true_eq];omega
theorem PO(x:Int)(w:World)(c:Bool)(hc:tl x=c)(hx:0<=x/\x<=255):Calls prog 266 #[.int .u8 x] w fun e w'=>e=.returned (.bool c)/\w=w':=by
 obtain ⟨n,rfl⟩:=Int.eq_ofNat_of_zero_le hx.1;have hn:n<=255:=AD;have h1:bits .andNot .u8 (n:Int) 63=((n/64*64:Nat):Int):=by go_bits2
 have h2:=rL n hn;rw[hc]at h2;go_enter func266,ntmps266;go_wp2_with fail;go_ret;exact ⟨Am h2,rfl⟩
def Ef(r:Int):Int:=if ¬(0<=r/\r<=1114111/\¬(55296<=r/\r<=57343)) then 0 else if r<128 then 1 else if r<2048 then 2 else if r<65536 then 3 else 4
def Cp(r x:Int):Int:=if r<0\/tl x=false then -1 else r*64+(x-128)
theorem kx(hr:r<=262144)(hx:x<=255): -1<=Cp r x/\Cp r x<=16777343:=by
 unfold Cp;split
 ·omega
 ·rename_i h
  have:tl x=true:=by simpa using (not_or.1 h).2
  have:=of_decide_eq_true this
  have:=(not_or.1 h).1
  omega
theorem Hi(r:Int)(w:World)(c:Int)(hc:Ef r=c)(hr: -2147483648<=r/\r<=2147483647):Calls prog 241 #[.int .i32 r] w fun e w'=>e=.returned (.int .i64 c)/\w=w':=by
 obtain ⟨h1,h2⟩:=hr;unfold Ef at hc;by_cases q1:r<0
 ·rw[if_pos AD]at hc;have HC:=AC hc;clear hc;go_enter func241,ntmps241;go_wp2_with fail;go_ret;exact ⟨CN HC.out,rfl⟩
 by_cases q2:r>1114111
 ·rw[if_pos AD]at hc;have HC:=AC hc;clear hc;go_enter func241,ntmps241;go_wp2_with fail;go_ret;exact ⟨CN HC.out,rfl⟩
 by_cases q3:55296<=r
 ·by_cases q4:r<=57343
  ·rw[if_pos AD]at hc;have HC:=AC hc;clear hc;go_enter func241,ntmps241;go_wp2_with fail;go_ret;exact ⟨CN HC.out,rfl⟩
  rw[if_neg AD,if_neg AD,if_neg AD]at hc;by_cases q5:r<65536
  ·rw[if_pos AD]at hc;have HC:=AC hc;clear hc;go_enter func241,ntmps241;go_wp2_with fail;go_ret;exact ⟨CN HC.out,rfl⟩
  ·rw[if_neg AD]at hc;have HC:=AC hc;clear hc;go_enter func241,ntmps241;go_wp2_with fail;go_ret;exact ⟨CN HC.out,rfl⟩
 rw[if_neg AD]at hc;by_cases q6:r<128
 ·rw[if_pos AD]at hc;have HC:=AC hc;clear hc;go_enter func241,ntmps241;go_wp2_with fail;go_ret;exact ⟨CN HC.out,rfl⟩
 rw[if_neg AD]at hc;by_cases q7:r<2048
 ·rw[if_pos AD]at hc;have HC:=AC hc;clear hc;go_enter func241,ntmps241;go_wp2_with fail;go_ret;exact ⟨CN HC.out,rfl⟩
 ·rw[if_neg AD,if_pos AD]at hc;have HC:=AC hc;clear hc;go_enter func241,ntmps241;go_wp2_with fail;go_ret;exact ⟨CN HC.out,rfl⟩
theorem JK(r x:Int)(w:World)(c:Int)(hc:Cp r x=c)(hr: -1<=r/\r<=262144)(hx:0<=x/\x<=255):Calls prog 240 #[.int .i32 r,.int .u8 x] w fun e w'=>e=.returned (.int .i32 c)/\w=w':=by
 obtain ⟨r1,r2⟩:=hr;have HX:=AC hx;obtain ⟨x1,x2⟩:=hx;unfold Cp at hc;by_cases q:r<0
 ·rw[if_pos (.inl q)]at hc;have HC:=AC hc;clear hc;go_enter func240,ntmps240;go_wp2_with fail;go_ret;exact ⟨CN HC.out,rfl⟩
 ·rcases ht:tl x
  ·rw[if_pos (.inr ht)]at hc;have HC:=AC hc;have H1:=AC (fun w=>PO x w false ht HX.out);clear hc ht;go_enter func240,ntmps240;go_wp2_with (go_at_call 266;refine (H1 _).mono ?_;rintro e w' ⟨rfl,rfl⟩)
   go_ret;exact ⟨CN HC.out,rfl⟩
  ·rw[if_neg (by rw[ht];simpa using q)]at hc;have H1:=AC (fun w=>PO x w true ht HX.out);have hb:128<=x/\x<=191:=of_decide_eq_true ht;have h1:bits .and .u8 x 63=x%64:=u8_and63 x AD AD;have h2:bits .or .i32 (r*64) (x%64)=r*64+x%64:=i32_or6 _ _ AD AD AD AD AD;have HC:Hid (r*64+x%64=c):=AC AD;clear hc ht;go_enter func240,ntmps240;go_wp2_with (go_at_call 266;refine (H1 _).mono ?_;rintro e w' ⟨rfl,rfl⟩)
   go_ret;exact ⟨CN HC.out,rfl⟩
def Fm(i:Int):Int:=if i<1 then 0 else if i<2 then 1 else if i<4 then 2 else if i<8 then 3 else if i<16 then 4 else if i<32 then 5 else if i<64 then 6 else if i<128 then 7 else 8
def Fn(a:Int):Int:=if a<128 then 1 else if a<192 then 0 else if a<224 then 2 else if a<240 then 3 else if a<248 then 4 else 0
set_option maxRecDepth 1000000 in
theorem oW:∀j:Fin 256,((({data:=([0,1,2,2,3,3,3,3,4,4,4,4,4,4,4,4,5,5,5,5,5,5,5,5,5,5,5,5,5,5,5,5,6,6,6,6,6,6,6,6,6,6,6,6,6,6,6,6,6,6,6,6,6,6,6,6,6,6,6,6,6,6,6,6,7,7,7,7,7,7,7,7,7,7,7,7,7,7,7,7,7,7,7,7,7,7,7,7,7,7,7,7,7,7,7,7,7,7,7,7,7,7,7,7,7,7,7,7,7,7,7,7,7,7,7,7,7,7,7,7,7,7,7,7,7,7,7,7,8,8,8,8,8,8,8,8,8,8,8,8,8,8,8,8,8,8,8,8,8,8,8,8,8,8,8,8,8,8,8,8,8,8,8,8,8,8,8,8,8,8,8,8,8,8,8,8,8,8,8,8,8,8,8,8,8,8,8,8,8,8,8,8,8,8,8,8,8,8,8,8,8,8,8,8,8,8,8,8,8,8,8,8,8,8,8,8,8,8,8,8,8,8,8,8,8,8,8,8,8,8,8,8,8,8,8,8,8,8,8,8,8,8,8,8,8,8,8,8,8,8,8,8,8,8,8,8]:List UInt8).toArray}:ByteArray)[j.1]'(by have:=j.2;exact this)).toNat:Int)=Fm (j.1:Int):=by decide +kernel
set_option maxRecDepth 1000000 in
theorem oD{t:TypeId}(ht:prog.underlying t=some .string)(w:World)(k:IntKind)(i:Int)(h0:0<=i)(h1:i<256):(Instr.index t (.string ({data:=([0,1,2,2,3,3,3,3,4,4,4,4,4,4,4,4,5,5,5,5,5,5,5,5,5,5,5,5,5,5,5,5,6,6,6,6,6,6,6,6,6,6,6,6,6,6,6,6,6,6,6,6,6,6,6,6,6,6,6,6,6,6,6,6,7,7,7,7,7,7,7,7,7,7,7,7,7,7,7,7,7,7,7,7,7,7,7,7,7,7,7,7,7,7,7,7,7,7,7,7,7,7,7,7,7,7,7,7,7,7,7,7,7,7,7,7,7,7,7,7,7,7,7,7,7,7,7,7,8,8,8,8,8,8,8,8,8,8,8,8,8,8,8,8,8,8,8,8,8,8,8,8,8,8,8,8,8,8,8,8,8,8,8,8,8,8,8,8,8,8,8,8,8,8,8,8,8,8,8,8,8,8,8,8,8,8,8,8,8,8,8,8,8,8,8,8,8,8,8,8,8,8,8,8,8,8,8,8,8,8,8,8,8,8,8,8,8,8,8,8,8,8,8,8,8,8,8,8,8,8,8,8,8,8,8,8,8,8,8,8,8,8,8,8,8,8,8,8,8,8,8,8,8,8,8,8]:List UInt8).toArray}:ByteArray)) (.int k i)).run prog w=.ok (.int .u8 (Fm i)) w:=by
 have hs:(({data:=([0,1,2,2,3,3,3,3,4,4,4,4,4,4,4,4,5,5,5,5,5,5,5,5,5,5,5,5,5,5,5,5,6,6,6,6,6,6,6,6,6,6,6,6,6,6,6,6,6,6,6,6,6,6,6,6,6,6,6,6,6,6,6,6,7,7,7,7,7,7,7,7,7,7,7,7,7,7,7,7,7,7,7,7,7,7,7,7,7,7,7,7,7,7,7,7,7,7,7,7,7,7,7,7,7,7,7,7,7,7,7,7,7,7,7,7,7,7,7,7,7,7,7,7,7,7,7,7,8,8,8,8,8,8,8,8,8,8,8,8,8,8,8,8,8,8,8,8,8,8,8,8,8,8,8,8,8,8,8,8,8,8,8,8,8,8,8,8,8,8,8,8,8,8,8,8,8,8,8,8,8,8,8,8,8,8,8,8,8,8,8,8,8,8,8,8,8,8,8,8,8,8,8,8,8,8,8,8,8,8,8,8,8,8,8,8,8,8,8,8,8,8,8,8,8,8,8,8,8,8,8,8,8,8,8,8,8,8,8,8,8,8,8,8,8,8,8,8,8,8,8,8,8,8,8,8]:List UInt8).toArray}:ByteArray)).size=256:=rfl;rw[run_index_string w t _ k i ht,dif_pos ⟨h0,AD⟩];have h:=oW ⟨i.toNat,AD⟩;have e:((i.toNat:Nat):Int)=i:=AD;simp only[e]at h;rw[<-h]
theorem QX(i:Int):0<=Fm i/\Fm i<=8:=by
 unfold Fm
 repeat' (first|omega|split)
set_option maxRecDepth 1000000 in
theorem go(x:Int)(w:World)(c:Int)(hc:Fm x=c)(hx:0<=x/\x<=255):Calls prog 290 #[.int .u8 x] w fun e w'=>e=.returned (.int .i64 c)/\w=w':=by
 obtain ⟨x1,x2⟩:=hx;have i0:∀w,(Instr.index 9 (.string ({data:=([0,1,2,2,3,3,3,3,4,4,4,4,4,4,4,4,5,5,5,5,5,5,5,5,5,5,5,5,5,5,5,5,6,6,6,6,6,6,6,6,6,6,6,6,6,6,6,6,6,6,6,6,6,6,6,6,6,6,6,6,6,6,6,6,7,7,7,7,7,7,7,7,7,7,7,7,7,7,7,7,7,7,7,7,7,7,7,7,7,7,7,7,7,7,7,7,7,7,7,7,7,7,7,7,7,7,7,7,7,7,7,7,7,7,7,7,7,7,7,7,7,7,7,7,7,7,7,7,8,8,8,8,8,8,8,8,8,8,8,8,8,8,8,8,8,8,8,8,8,8,8,8,8,8,8,8,8,8,8,8,8,8,8,8,8,8,8,8,8,8,8,8,8,8,8,8,8,8,8,8,8,8,8,8,8,8,8,8,8,8,8,8,8,8,8,8,8,8,8,8,8,8,8,8,8,8,8,8,8,8,8,8,8,8,8,8,8,8,8,8,8,8,8,8,8,8,8,8,8,8,8,8,8,8,8,8,8,8,8,8,8,8,8,8,8,8,8,8,8,8,8,8,8,8,8,8]:List UInt8).toArray}:ByteArray)) (.int .u8 x)).run prog w=.ok (.int .u8 (Fm x)) w:=fun w=>oD AY w _ _ AD AD
 have hb:=QX x;rw[hc]at i0 hb;clear hc;go_enter func290,ntmps290;go_wp2_with fail;go_ret;exact ⟨rfl,rfl⟩
set_option maxRecDepth 1000000 in
theorem cG(x:Int)(w:World)(c:Int)(hc:8-Fm x=c)(hx:0<=x/\x<=255):Calls prog 265 #[.int .u8 x] w fun e w'=>e=.returned (.int .i64 c)/\w=w':=by
 have hb:=QX x;have H1:=AC (fun w=>go x w _ rfl hx);have HC:=AC hc;generalize Fm x=l at *;clear hc;go_enter func265,ntmps265;go_wp2_with (go_at_call 290;refine (H1 _).mono ?_;rintro e w' ⟨rfl,rfl⟩)
 go_ret;exact ⟨CN HC.out,rfl⟩
theorem cz(h1:0<=a)(h2:a<=255):(8-Fm (255-a)=0/\Fn a=1)\/(8-Fm (255-a)=2/\Fn a=2)\/(8-Fm (255-a)=3/\Fn a=3)\/(8-Fm (255-a)=4/\Fn a=4)\/
 (Fn a=0/\8-Fm (255-a)≠0/\8-Fm (255-a)≠2/\8-Fm (255-a)≠3/\8-Fm (255-a)≠4):=by
 unfold Fm Fn
 repeat' (first|omega|split)
theorem oV:∀j:Fin 256,bits .xor .u8 IntKind.u8.max (j.1:Int)=255-(j.1:Int):=by decide +kernel
theorem mP(h1:0<=a)(h2:a<=255):bits .xor .u8 IntKind.u8.max a=255-a:=by
 have h:=oV ⟨a.toNat,AD⟩;have e:((a.toNat:Nat):Int)=a:=AD;simpa only[e] using h
theorem kS(a:Int)(w:World)(c:Int)(hc:Fn a=c)(ha:0<=a/\a<=255):Calls prog 239 #[.int .u8 a] w fun e w'=>e=.returned (.int .i64 c)/\w=w':=by
 obtain ⟨h1,h2⟩:=ha;have H1:=AC (fun w=>cG (255-a) w _ rfl ⟨AD,AD⟩);have ht:=cz h1 h2;rw[hc]at ht;have hb:=QX (255-a);have hxm:=mP h1 h2;have hsg:IntKind.u8.signed=false:=rfl;generalize hz:8-Fm (255-a)=z at *;have hzb:0<=z/\z<=8:=AD;clear hc hb hz;rcases ht with ⟨rfl,rfl⟩|⟨rfl,rfl⟩|⟨rfl,rfl⟩|⟨rfl,rfl⟩|⟨rfl,n0,n2,n3,n4⟩
 ·go_enter func239,ntmps239;go_wp2_with (go_at_call 265;refine (H1 _).mono ?_;rintro e w' ⟨rfl,rfl⟩)
  go_ret;exact ⟨rfl,rfl⟩
 ·go_enter func239,ntmps239;go_wp2_with (go_at_call 265;refine (H1 _).mono ?_;rintro e w' ⟨rfl,rfl⟩)
  go_ret;exact ⟨rfl,rfl⟩
 ·go_enter func239,ntmps239;go_wp2_with (go_at_call 265;refine (H1 _).mono ?_;rintro e w' ⟨rfl,rfl⟩)
  go_ret;exact ⟨rfl,rfl⟩
 ·go_enter func239,ntmps239;go_wp2_with (go_at_call 265;refine (H1 _).mono ?_;rintro e w' ⟨rfl,rfl⟩)
  go_ret;exact ⟨rfl,rfl⟩
 ·have d0:(z == 0)=false:=by simpa using n0
  have d2:(z == 2)=false:=by simpa using n2
  have d3:(z == 3)=false:=by simpa using n3
  have d4:(z == 4)=false:=by simpa using n4
  go_enter func239,ntmps239;go_wp2_with (go_at_call 265;refine (H1 _).mono ?_;rintro e w' ⟨rfl,rfl⟩)
  go_ret;exact ⟨rfl,rfl⟩
structure Dh(w:World):Prop where
 c1:w.cell? ⟨0,1,none⟩=some (.int .u8 0)
 c2:w.cell? ⟨0,2,none⟩=some (.int .u8 192)
 c3:w.cell? ⟨0,3,none⟩=some (.int .u8 224)
 c4:w.cell? ⟨0,4,none⟩=some (.int .u8 240)
theorem Dh.later{w w':World}(h:AA w w')(g:Dh w):Dh w':=
 ⟨(h.below.cell (World.block_lt_of_cell? _ _ g.c1)).trans g.c1,(h.below.cell (World.block_lt_of_cell? _ _ g.c2)).trans g.c2,(h.below.cell (World.block_lt_of_cell? _ _ g.c3)).trans g.c3,(h.below.cell (World.block_lt_of_cell? _ _ g.c4)).trans g.c4⟩
theorem ER(r x:Int):Cp r x=if r<0\/¬(128<=x/\x<=191) then -1 else r*64+(x-128):=by
 unfold Cp tl;simp only[decide_eq_false_iff_not]
theorem Kj{m:Int}(hm:0<=m)(hr:r<=m): -1<=Cp r x/\Cp r x<=m*64+63:=by
 rw[ER];split <;> omega
theorem Es(h0:n≠0)(h1:¬a<128)(h2:¬(2<=n/\194<=a/\a<=223/\128<=b/\b<=191))(h3:¬(3<=n/\224<=a/\a<=239/\128<=b/\b<=191/\128<=c/\c<=191/\2048<=v3 a b c/\¬(55296<=v3 a b c/\v3 a b c<=57343)))
 (h4:¬(4<=n/\240<=a/\a<=247/\128<=b/\b<=191/\128<=c/\c<=191/\128<=d/\d<=191/\65536<=v4 a b c d/\v4 a b c d<=1114111)):Le n a b c d=(65533,1):=by
 unfold Le;rw[if_neg h0,if_neg h1,if_neg h2,if_neg h3,if_neg h4]
theorem MG(a:Int):(a<128/\Fn a=1)\/(128<=a/\a<192/\Fn a=0)\/(192<=a/\a<224/\Fn a=2)\/(224<=a/\a<240/\Fn a=3)\/(240<=a/\a<248/\Fn a=4)\/(248<=a/\Fn a=0):=by
 unfold Fn
 repeat' (first|omega|split)
theorem k9(h0:n≠0)(h:Fn a=0\/(n:Int)<Fn a):Le n a b c d=(65533,1):=by
 have:=MG a
 exact Es h0 AD AD AD AD
theorem kG(h1:192<=a)(h2:a<224)(hn:2<=n):(Ef (Cp (a-192) b)=2/\Le n a b c d=(Cp (a-192) b,2))\/(Ef (Cp (a-192) b)≠2/\Le n a b c d=(65533,1)):=by
 rw[ER];by_cases q:128<=b/\b<=191
 ·rw[if_neg AD];by_cases q2:194<=a
  ·left
   refine ⟨by unfold Ef;rw[if_neg AD,if_neg AD,if_pos AD],?_⟩;unfold Le;rw[if_neg AD,if_neg AD,if_pos AD];rfl
  ·right
   refine ⟨by unfold Ef;rw[if_neg AD,if_pos AD];decide,Es AD AD AD AD AD⟩
 ·rw[if_pos (.inr q)]
  right
  exact ⟨by decide,Es AD AD AD AD AD⟩
theorem ZX(h1:224<=a)(h2:a<240)(hn:3<=n):(Ef (Cp (Cp (a-224) b) c)=3/\Le n a b c d=(Cp (Cp (a-224) b) c,3))\/(Ef (Cp (Cp (a-224) b) c)≠3/\Le n a b c d=(65533,1)):=by
 rw[ER (a-224) b];by_cases q:128<=b/\b<=191
 ·rw[if_neg AD,ER];by_cases qc:128<=c/\c<=191
  ·rw[if_neg AD];have e:((a-224)*64+(b-128))*64+(c-128)=v3 a b c:=by unfold v3;omega
   rw[e];have hv:v3 a b c<=65535:=by unfold v3;omega
   have TV:0<=v3 a b c:=by unfold v3;omega
   by_cases q2:2048<=v3 a b c/\¬(55296<=v3 a b c/\v3 a b c<=57343)
   ·left
    refine ⟨by unfold Ef;rw[if_neg AD,if_neg AD,if_neg AD,if_pos AD],?_⟩;unfold Le;rw[if_neg AD,if_neg AD,if_neg AD,if_pos AD]
   ·right
    refine ⟨?_,Es AD AD AD AD AD⟩;unfold Ef
    repeat' (first|omega|split)
  ·rw[if_pos (.inr qc)]
   right
   exact ⟨by decide,Es AD AD AD AD AD⟩
 ·rw[if_pos (.inr q),ER,if_pos (.inl (by decide))]
  right
  exact ⟨by decide,Es AD AD AD AD AD⟩
theorem cP(h1:240<=a)(h2:a<248)(hn:4<=n):(Ef (Cp (Cp (Cp (a-240) b) c) d)=4/\Le n a b c d=(Cp (Cp (Cp (a-240) b) c) d,4))\/(Ef (Cp (Cp (Cp (a-240) b) c) d)≠4/\Le n a b c d=(65533,1)):=by
 rw[ER (a-240) b];by_cases q:128<=b/\b<=191
 ·rw[if_neg AD,ER _ c];by_cases qc:128<=c/\c<=191
  ·rw[if_neg AD,ER];by_cases qd:128<=d/\d<=191
   ·rw[if_neg AD];have e:(((a-240)*64+(b-128))*64+(c-128))*64+(d-128)=v4 a b c d:=by unfold v4;omega
    rw[e];have TV:0<=v4 a b c d:=by unfold v4;omega
    by_cases q2:65536<=v4 a b c d/\v4 a b c d<=1114111
    ·left
     refine ⟨by unfold Ef;rw[if_neg AD,if_neg AD,if_neg AD,if_neg AD],?_⟩;unfold Le;rw[if_neg AD,if_neg AD,if_neg AD,if_neg AD,if_pos AD]
    ·right
     refine ⟨?_,Es AD AD AD AD AD⟩;unfold Ef
     repeat' (first|omega|split)
   ·rw[if_pos (.inr qd)]
    right
    exact ⟨by decide,Es AD AD AD AD AD⟩
  ·rw[if_pos (.inr qc),ER,if_pos (.inl (by decide))]
   right
   exact ⟨by decide,Es AD AD AD AD AD⟩
 ·rw[if_pos (.inr q),ER _ c,if_pos (.inl (by decide)),ER,if_pos (.inl (by decide))]
  right
  exact ⟨by decide,Es AD AD AD AD AD⟩
theorem de:∀j:Fin 256,bits .andNot .u8 (j.1:Int) 0=(j.1:Int)/\(192<=j.1->j.1<224->bits .andNot .u8 (j.1:Int) 192=(j.1:Int)-192)/\(224<=j.1->j.1<240->bits .andNot .u8 (j.1:Int) 224=(j.1:Int)-224)/\(240<=j.1->j.1<248->bits .andNot .u8 (j.1:Int) 240=(j.1:Int)-240):=by decide +kernel
theorem d_(h1:0<=a)(h2:a<=255):bits .andNot .u8 a 0=a/\(192<=a->a<224->bits .andNot .u8 a 192=a-192)/\(224<=a->a<240->bits .andNot .u8 a 224=a-224)/\(240<=a->a<248->bits .andNot .u8 a 240=a-240):=by
 have h:=de ⟨a.toNat,AD⟩;have e:((a.toNat:Nat):Int)=a:=AD;simp only[e]at h;exact ⟨h.1,fun x y=>h.2.1 AD AD,fun x y=>h.2.2.1 AD AD,fun x y=>h.2.2.2 AD AD⟩
theorem aI(v:Value)(l:List Int)(w:World)(r:Int)(k:Nat)(hc:JH l=(r,k))(hv:Lr w v l)(hb:BX l)(hl:l.length<=1000)(hg:Dh w):
 Calls prog 198 #[v] w fun e w'=>e=.returned (.tuple #[.int .i32 r,.int .i64 (k:Int)])/\AA w w':=by
 obtain ⟨A,cap,rfl,JY,Eq⟩:=hv;by_cases h0:l.length=0
 ·obtain rfl:=List.eq_nil_of_length_eq_zero h0
  obtain ⟨rfl,rfl⟩:(0:Int)=r/\0=k:=by
   have:((0:Int),(0:Nat))=(r,k):=hc
   cases this;exact ⟨rfl,rfl⟩
  clear hc hb Eq hg;simp only[List.length_nil]at *;go_enter func198,ntmps198;go_wp2_with fail
  go_ret2
  exact ⟨rfl,AA.refl _⟩
 obtain ⟨b,off,rfl,Lp,OW⟩:=Eq AD;obtain ⟨n,hn⟩:=BZ (l.length);have rR:∀j,0<=l.getD j 0/\l.getD j 0<=255:=fun j=>by
  by_cases q:j<l.length
  ·rw[List.getD_eq_getElem?_getD,List.getElem?_eq_getElem q];exact hb.get q
  ·rw[List.getD_eq_getElem?_getD,List.getElem?_eq_none AD];simp
 have us:∀j,j<n->w.cell? ⟨b,off+j,none⟩=some (.int .u8 (l.getD j 0)):=fun j hj=>by
  rw[OW j AD];simp[List.getD_eq_getElem?_getD,show j<l.length by omega]
 unfold JH at hc;rw[hn]at hc JY hl h0 ⊢;have B0:=rR 0;have B1:=rR 1;have B2:=rR 2;have B3:=rR 3;have cc0:=us 0 AD;rw[Nat.add_zero]at cc0;have C1:=AC (us 1);have C2:=AC (us 2);have C3:=AC (us 3);clear OW us rR hb hn Eq;generalize l.getD 0 0=a at *;generalize l.getD 1 0=x1 at *;generalize l.getD 2 0=x2 at *;generalize l.getD 3 0=x3 at *;clear l;obtain ⟨t,ht⟩:=BZ (Fn a);have HT:=AC (fun w=>kS a w t ht B0);obtain ⟨k0,k2,k3,k4⟩:=d_ B0.1 B0.2;obtain ⟨a0,a1⟩:=B0;by_cases Tt:Fn a=0\/(n:Int)<Fn a
 ·rw[k9 h0 Tt]at hc;obtain ⟨rfl,rfl⟩:(65533:Int)=r/\1=k:=by cases hc;exact ⟨rfl,rfl⟩
  clear hc k0 k2 k3 k4 hg;rw[ht]at Tt;have tb:0<=t/\t<=4:=by have:=MG a;omega
  clear ht;by_cases t0:t=0
  ·subst t0;clear Tt tb;go_enter func198,ntmps198;go_wp2_with (go_at_call 239;refine (HT _).mono ?_;rintro e w' ⟨rfl,rfl⟩)
   go_ret2
   exact ⟨rfl,AA.refl _⟩
  ·have d0:(t == 0)=false:=by simpa using t0
   have d1:(n:Int)<t:=AD;clear Tt;go_enter func198,ntmps198;go_wp2_with (go_at_call 239;refine (HT _).mono ?_;rintro e w' ⟨rfl,rfl⟩)
   go_ret2
   exact ⟨rfl,AA.refl _⟩
 have IO:=not_or.1 Tt;have tc:=MG a;clear Tt;rcases tc with ⟨i1,e⟩|⟨_,_,e⟩|⟨i1,i2,e⟩|⟨i1,i2,e⟩|⟨i1,i2,e⟩|⟨_,e⟩
 ·obtain rfl:1=t:=e.symm.trans ht
  obtain ⟨rfl,rfl⟩:a=r/\1=k:=by
   have:Le n a x1 x2 x3=(a,1):=by unfold Le;rw[if_neg h0,if_pos i1]
   rw[this]at hc;cases hc;exact ⟨rfl,rfl⟩
  have hs:Ef a=1:=by unfold Ef;rw[if_neg AD,if_pos i1]
  have HS:=AC (fun w=>Hi a w 1 hs ⟨AD,AD⟩);have g1:=hg.c1;clear hc ht e k2 k3 k4 hs hg;go_enter func198,ntmps198;go_wp2_with (go_at_call 239;refine (HT _).mono ?_;rintro e w' ⟨rfl,rfl⟩)
  go_quiet (fail)
  go_wp2_with (go_at_call 241;refine (HS _).mono ?_;rintro e w' ⟨rfl,rfl⟩)
  go_ret2
  exact ⟨rfl,(AA.refl _).drewN _⟩
 ·exact absurd e IO.1
 ·obtain rfl:2=t:=e.symm.trans ht
  have Fx:2<=n:=by have:=IO.2;omega
  have cc1:=C1 AD;have g1:=hg.c2;have e2:=k2 i1 i2;have J1:=AC (fun w=>JK (a-192) x1 w _ rfl ⟨AD,AD⟩ B1);have jb:=kx (r:=a-192) (x:=x1) AD B1.2;have pT:=kG (b:=x1) (c:=x2) (d:=x3) i1 i2 Fx;rw[hc]at pT;clear hc ht e k0 k2 k3 k4 hg IO;generalize Cp (a-192) x1=j1 at *;rcases pT with ⟨hs,he⟩|⟨hs,he⟩
  ·obtain ⟨rfl,rfl⟩:r=j1/\k=2:=by cases he;exact ⟨rfl,rfl⟩
   have HS:=AC (fun w=>Hi r w 2 hs ⟨AD,AD⟩);clear hs he;go_enter func198,ntmps198;go_wp2_with (go_at_call 239;refine (HT _).mono ?_;rintro e w' ⟨rfl,rfl⟩)
   go_quiet (fail)
   go_wp2_with (first|(go_at_call 240;refine (J1 _).mono ?_;rintro e w' ⟨rfl,rfl⟩)|(go_at_call 241;refine (HS _).mono ?_;rintro e w' ⟨rfl,rfl⟩))
   go_ret2
   exact ⟨rfl,(AA.refl _).drewN _⟩
  ·obtain ⟨rfl,rfl⟩:r=65533/\k=1:=by cases he;exact ⟨rfl,rfl⟩
   have HS:=AC (fun w=>Hi j1 w _ rfl ⟨AD,AD⟩);have d5:(Ef j1 != 2)=true:=by simpa using hs
   generalize Ef j1=s at *;clear hs he;go_enter func198,ntmps198;go_wp2_with (go_at_call 239;refine (HT _).mono ?_;rintro e w' ⟨rfl,rfl⟩)
   go_quiet (fail)
   go_wp2_with (first|(go_at_call 240;refine (J1 _).mono ?_;rintro e w' ⟨rfl,rfl⟩)|(go_at_call 241;refine (HS _).mono ?_;rintro e w' ⟨rfl,rfl⟩))
   go_ret2
   exact ⟨rfl,(AA.refl _).drewN _⟩
 ·obtain rfl:3=t:=e.symm.trans ht
  have ro:3<=n:=by have:=IO.2;omega
  have cc1:=C1 AD;have cc2:=C2 AD;have g1:=hg.c3;have e2:=k3 i1 i2;have pT:=ZX (b:=x1) (c:=x2) (d:=x3) i1 i2 ro;rw[hc]at pT;clear hc ht e k0 k2 k3 k4 hg IO;have jb1:=Kj (r:=(a-224)) (x:=x1) (m:=15) AD AD;generalize hj1:Cp (a-224) x1=j1 at *;have jb2:=Kj (r:=j1) (x:=x2) (m:=1023) AD AD;generalize CQ:Cp j1 x2=j2 at *;rcases pT with ⟨hs,he⟩|⟨hs,he⟩
  ·obtain ⟨rfl,rfl⟩:r=j2/\k=3:=by cases he;exact ⟨rfl,rfl⟩
   have HS:=AC (fun w=>Hi r w 3 hs ⟨AD,AD⟩);clear hs he;go_enter func198,ntmps198;go_wp2_with (go_at_call 239;refine (HT _).mono ?_;rintro e w' ⟨rfl,rfl⟩)
   go_quiet (fail)
   go_wp2_with (first|(go_at_call 240;refine (JK _ _ _ _ (by assumption) ⟨AD,AD⟩ ⟨AD,AD⟩).mono ?_;rintro e w' ⟨rfl,rfl⟩)|(go_at_call 241;refine (HS _).mono ?_;rintro e w' ⟨rfl,rfl⟩))
   go_ret2
   exact ⟨rfl,(AA.refl _).drewN _⟩
  ·obtain ⟨rfl,rfl⟩:r=65533/\k=1:=by cases he;exact ⟨rfl,rfl⟩
   have HS:=AC (fun w=>Hi j2 w _ rfl ⟨AD,AD⟩);have d5:(Ef j2 != 3)=true:=by simpa using hs
   generalize Ef j2=s at *;clear hs he;go_enter func198,ntmps198;go_wp2_with (go_at_call 239;refine (HT _).mono ?_;rintro e w' ⟨rfl,rfl⟩)
   go_quiet (fail)
   go_wp2_with (first|(go_at_call 240;refine (JK _ _ _ _ (by assumption) ⟨AD,AD⟩ ⟨AD,AD⟩).mono ?_;rintro e w' ⟨rfl,rfl⟩)|(go_at_call 241;refine (HS _).mono ?_;rintro e w' ⟨rfl,rfl⟩))
   go_ret2
   exact ⟨rfl,(AA.refl _).drewN _⟩
 ·obtain rfl:4=t:=e.symm.trans ht
  have hn4:4<=n:=by have:=IO.2;omega
  have cc1:=C1 AD;have cc2:=C2 AD;have cc3:=C3 AD;have g1:=hg.c4;have e2:=k4 i1 i2;have pT:=cP (b:=x1) (c:=x2) (d:=x3) i1 i2 hn4;rw[hc]at pT;clear hc ht e k0 k2 k3 k4 hg IO;have jb1:=Kj (r:=(a-240)) (x:=x1) (m:=7) AD AD;generalize hj1:Cp (a-240) x1=j1 at *;have jb2:=Kj (r:=j1) (x:=x2) (m:=511) AD AD;generalize CQ:Cp j1 x2=j2 at *;have jb3:=Kj (r:=j2) (x:=x3) (m:=32767) AD AD;generalize PA:Cp j2 x3=j3 at *;rcases pT with ⟨hs,he⟩|⟨hs,he⟩
  ·obtain ⟨rfl,rfl⟩:r=j3/\k=4:=by cases he;exact ⟨rfl,rfl⟩
   have HS:=AC (fun w=>Hi r w 4 hs ⟨AD,AD⟩);clear hs he;go_enter func198,ntmps198;go_wp2_with (go_at_call 239;refine (HT _).mono ?_;rintro e w' ⟨rfl,rfl⟩)
   go_quiet (fail)
   go_wp2_with (first|(go_at_call 240;refine (JK _ _ _ _ (by assumption) ⟨AD,AD⟩ ⟨AD,AD⟩).mono ?_;rintro e w' ⟨rfl,rfl⟩)|(go_at_call 241;refine (HS _).mono ?_;rintro e w' ⟨rfl,rfl⟩))
   go_ret2
   exact ⟨rfl,(AA.refl _).drewN _⟩
  ·obtain ⟨rfl,rfl⟩:r=65533/\k=1:=by cases he;exact ⟨rfl,rfl⟩
   have HS:=AC (fun w=>Hi j3 w _ rfl ⟨AD,AD⟩);have d5:(Ef j3 != 4)=true:=by simpa using hs
   generalize Ef j3=s at *;clear hs he;go_enter func198,ntmps198;go_wp2_with (go_at_call 239;refine (HT _).mono ?_;rintro e w' ⟨rfl,rfl⟩)
   go_quiet (fail)
   go_wp2_with (first|(go_at_call 240;refine (JK _ _ _ _ (by assumption) ⟨AD,AD⟩ ⟨AD,AD⟩).mono ?_;rintro e w' ⟨rfl,rfl⟩)|(go_at_call 241;refine (HS _).mono ?_;rintro e w' ⟨rfl,rfl⟩))
   go_ret2
   exact ⟨rfl,(AA.refl _).drewN _⟩
 ·exact absurd e IO.1
theorem aQ(l:List Int)(j:Nat):it l (j+1)=it l j+(JH (l.drop (it l j))).2:=rfl
theorem Y6(v:Value)(l:List Int)(c:Nat)(w:World)(hv:Lr w v l)(hb:BX l)(hl:l.length<=1000)(hg:Dh w)(hc:Vr l c):
 Calls prog 197 #[v] w fun e w'=>e=.returned (.int .i64 (c:Int))/\AA w w':=by
 have HV:=AC hv;obtain ⟨A,cap,rfl,JY⟩:=hv.form;obtain ⟨L,hL⟩:=BZ (l.length);have XG:=AC hL;have HB:=AC hb;have HG:=AC hg;have HC:=AC hc;have OW:=hc.le hb;have sc:=AC (fun j=>N4 hb j);rw[hL]at hl JY OW sc HV ⊢;clear hv hL hb hg hc;go_enter func197,ntmps197;go_wp2_with fail;go_loopg [0,3] c (fun kk sv av wr=>AA w wr/\∃(j m c2:Nat) (A2:Option Addr),kk=c-j/\j<=c/\av=.int .i64 j/\sv=.slice A2 m c2/\m+it l j=L/\Lr w (.slice A2 m c2) (l.drop (it l j)))
 case atStart=>exact ⟨AA.refl w,0,L,cap,A,AD,AD,rfl,rfl,rfl,HV.out⟩
 case round=>
  obtain ⟨AW,j,m,c2,A2,hk,hj,rfl,rfl,hm,hr⟩:=hrel;have HA:=AC AW;have HR:=AC hr;obtain ⟨p,hp⟩:=BZ (it l j);have HP:=AC hp;rw[hp]at hm HR;by_cases BN:0<m
  ·have yD:j<c:=(HC.out.aF hj).1 (by rw[XG.out,hp];omega);obtain ⟨r,k,Ql⟩:∃r k,JH (l.drop p)=(r,k):=⟨_,_,rfl⟩;have LX:=Kz (HB.out.drop p);rw[Ql,List.length_drop,XG.out]at LX;have O_:=LX.1;have hpm:L-p=m:=AD;obtain ⟨u,hu,hcut⟩:=HR.out.cut k (by rw[List.length_drop,XG.out];exact O_);obtain ⟨A3,c3,rfl,h3⟩:=hu.form;have eV:((l.drop p).drop k).length=m-k:=by rw[List.length_drop,List.length_drop,XG.out];omega
   rw[eV]at hu hcut h3;rw[List.drop_drop]at hu;have wO:Hid (it l (j+1)=p+k):=AC (by rw[aQ,hp,Ql]);have HU:=AC hu;have HD:Hid (Calls prog 198 #[.slice A2 m c2] wr fun e Bg=>e=.returned (.tuple #[.int .i32 r,.int .i64 (k:Int)])/\AA wr Bg):=AC (aI _ (l.drop p) wr r k Ql (HR.out.later AW) (HB.out.drop p) (by rw[List.length_drop,XG.out];omega) (HG.out.later AW));simp only at O_
   rw[hpm]at O_;clear hu Ql LX AW hp hr eV hpm;go_wp2_with fail;refine HD.out.mono ?_;rintro e w3 ⟨rfl,b3⟩;have sM:=AC (HA.out.trans b3);clear b3;go_wp2_with fail;go_roundg (c-(j+1))
   case measure=>omega
   case rel=>exact ⟨sM.out,j+1,m-k,c3,A3,rfl,AD,by go_num,rfl,by rw[wO.out];omega,by rw[wO.out];exact HU.out⟩
  ·have yD:j=c:=by
    rcases Nat.lt_or_ge j c with h|h
    ·have:=HC.out.lt j h;rw[HP.out,XG.out]at this;omega
    ·omega
   subst yD;clear AW hp hr;go_wp2_with fail;go_ret;exact ⟨rfl,HA.out⟩
end
end Go.Proofs.YtamhnffokoejjaaGreatDoor
