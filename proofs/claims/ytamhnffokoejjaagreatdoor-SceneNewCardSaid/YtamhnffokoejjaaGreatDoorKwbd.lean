import Derived.Deep.SlicePairs
import Derived.Test.YtamhnffokoejjaaGreatDoorKwav
import Derived.Test.YtamhnffokoejjaaGreatDoorKwag
set_option linter.all false
set_option maxRecDepth 100000
namespace Go.Proofs.YtamhnffokoejjaaGreatDoor
open List(range getElem_map getElem_range)
open World(cell?_spot block_lt_of_cell?)
open Go.Proofs.Tryz
open Go.ChangeShapes Go.WideShapes Go.ChangeAt Go.RowKit Go.Deep
section
section
variable {H:Type}{enc:TypeId × Value->H}{w:World}{base:Nat}{spare:Nat->Bool}{held:Bool}
theorem oq:prog.cellsOf 3=1:=AY
theorem oa:prog.cellsOf 5=1:=AY
theorem iM:prog.cellsOf 22=1:=AY
theorem lc:prog.cellsOf 35=1:=AY
theorem jH:prog.cellsOf 36=1:=AY
theorem aa:prog.cellsOf 38=7:=AY
theorem jC{fuel:Nat}{v:Value}{x:DataW H × List MemPlace}(h:DataW.trod enc prog w base spare held fuel 22 [v]=some x):∃l:List Int,RN .u8 w v l/\BX l:=by
 rcases open_ints underlying22 underlying5 oa h with ⟨FS,_⟩|⟨a,len,cap,zs,FS,_,hl,_,hz,_,Eq,zo⟩
 ·cases FS;exact ⟨[],⟨none,0,rfl,Nat.le_refl _,fun h=>absurd h (by decide)⟩,fun n hn=>by cases hn⟩
 ·cases FS;have hge:len<=zs.length:=by rw[hz];split <;> omega
  have hlen:(zs.take len).length=len:=by rw[List.length_take];omega
  refine ⟨zs.take len,⟨some a,cap,by rw[hlen],by rw[hlen];exact hl,fun h0=>?_⟩,fun n hn=>kI (zo n (List.mem_of_mem_take hn))⟩;rw[hlen]at h0;obtain ⟨b,off,spot⟩:=a;have Mt:spot=none:=by simpa[Addr.add] using cell?_spot (Eq 0 AD)
  subst Mt;have qC:=Eq 0 AD;rw[add_plain]at qC;refine ⟨b,off,rfl,block_lt_of_cell? w ⟨b,off+0,none⟩ qC,fun j hj=>?_⟩;rw[hlen]at hj;have:=Eq j AD
  rw[add_plain]at this;rw[this];simp[List.getD_eq_getElem?_getD,show j<zs.length by omega]
theorem Zj{fuel:Nat}{v:Value}{x:DataW H × List MemPlace}(h:DataW.trod enc prog w base spare held fuel 35 [v]=some x):∃l:Qs,QR w v l/\∀r∈l,BO r.1/\BO r.2:=by
 rcases open_slice_pairs underlying35 underlying76 AY rfl rfl AY AY h with ⟨FS,_⟩|⟨a,len,cap,m,n,V0,V1,D0,D1,P0,P1,FS,_,hl,hm,tQ,_,Eq⟩
 ·cases FS;exact ⟨[],⟨none,0,rfl,Nat.le_refl _,fun h=>absurd h (by decide)⟩,fun r hr=>by cases hr⟩
 ·cases FS;have hge:len<=m:=by rw[tQ];split <;> omega
  have nums:∀i,i<len->∃x y:Int,(w.cell? (a.add (i*2))=some (.int .i64 x)/\w.cell? (a.add (i*2+1))=some (.int .i64 y))/\BO x/\BO y:=by
   intro i hi;obtain ⟨h1,h2,h3,h4⟩:=Eq i AD;obtain ⟨x,ex,_,wx⟩:=DataW.trod_int underlying3 h3;obtain ⟨y,ey,_,wy⟩:=DataW.trod_int underlying3 h4;have ex:V0 i=.int .i64 x:=by simpa using ex
   have ey:V1 i=.int .i64 y:=by simpa using ey
   exact ⟨x,y,⟨by rw[h1,ex],by rw[h2,ey]⟩,JP wx,JP wy⟩
  have choice:∃f:Nat->Int × Int,∀i,i<len->(w.cell? (a.add (i*2))=some (.int .i64 (f i).1)/\w.cell? (a.add (i*2+1))=some (.int .i64 (f i).2))/\BO (f i).1/\BO (f i).2:=by
   refine ⟨fun i=>if h:i<len then (Classical.choose (nums i h),Classical.choose (Classical.choose_spec (nums i h))) else (0,0),fun i hi=>?_⟩;simp only[dif_pos hi];exact Classical.choose_spec (Classical.choose_spec (nums i hi))
  obtain ⟨f,aJ⟩:=choice;have hlen:((range len).map f).length=len:=Ar;refine ⟨(range len).map f,⟨some a,cap,by rw[hlen],by rw[hlen];exact hl,fun h0=>?_⟩,fun r hr=>by
   obtain ⟨i,hi,rfl⟩:=List.mem_map.1 hr;exact (aJ i (List.mem_range.1 hi)).2⟩
  rw[hlen]at h0;obtain ⟨b,off,spot⟩:=a;have Mt:spot=none:=by simpa[Addr.add] using cell?_spot (aJ 0 h0).1.1
  subst Mt;have hb:b<w.heap.size:=block_lt_of_cell? w ⟨b,off,none⟩ (by have:=(aJ 0 h0).1.1;rwa [add_plain]at this);refine ⟨b,off,rfl,hb,fun j hj=>?_⟩;have Gw:j<len:=by rwa [hlen]at hj
  have:=(aJ j Gw).1
  rw[add_plain,add_plain]at this;simp only[getElem_map,getElem_range];exact this
theorem Un{fuel:Nat}{v:Value}{x:DataW H × List MemPlace}(h:DataW.trod enc prog w base spare held fuel 36 [v]=some x):∃l:Qs,QR w v l/\∀r∈l,BO r.1/\BO r.2:=by
 rcases open_slice_pairs underlying36 underlying69 AY rfl rfl AY AY h with ⟨FS,_⟩|⟨a,len,cap,m,n,V0,V1,D0,D1,P0,P1,FS,_,hl,hm,tQ,_,Eq⟩
 ·cases FS;exact ⟨[],⟨none,0,rfl,Nat.le_refl _,fun h=>absurd h (by decide)⟩,fun r hr=>by cases hr⟩
 ·cases FS;have hge:len<=m:=by rw[tQ];split <;> omega
  have nums:∀i,i<len->∃x y:Int,(w.cell? (a.add (i*2))=some (.int .i64 x)/\w.cell? (a.add (i*2+1))=some (.int .i64 y))/\BO x/\BO y:=by
   intro i hi;obtain ⟨h1,h2,h3,h4⟩:=Eq i AD;obtain ⟨x,ex,_,wx⟩:=DataW.trod_int underlying3 h3;obtain ⟨y,ey,_,wy⟩:=DataW.trod_int underlying3 h4;have ex:V0 i=.int .i64 x:=by simpa using ex
   have ey:V1 i=.int .i64 y:=by simpa using ey
   exact ⟨x,y,⟨by rw[h1,ex],by rw[h2,ey]⟩,JP wx,JP wy⟩
  have choice:∃f:Nat->Int × Int,∀i,i<len->(w.cell? (a.add (i*2))=some (.int .i64 (f i).1)/\w.cell? (a.add (i*2+1))=some (.int .i64 (f i).2))/\BO (f i).1/\BO (f i).2:=by
   refine ⟨fun i=>if h:i<len then (Classical.choose (nums i h),Classical.choose (Classical.choose_spec (nums i h))) else (0,0),fun i hi=>?_⟩;simp only[dif_pos hi];exact Classical.choose_spec (Classical.choose_spec (nums i hi))
  obtain ⟨f,aJ⟩:=choice;have hlen:((range len).map f).length=len:=Ar;refine ⟨(range len).map f,⟨some a,cap,by rw[hlen],by rw[hlen];exact hl,fun h0=>?_⟩,fun r hr=>by
   obtain ⟨i,hi,rfl⟩:=List.mem_map.1 hr;exact (aJ i (List.mem_range.1 hi)).2⟩
  rw[hlen]at h0;obtain ⟨b,off,spot⟩:=a;have Mt:spot=none:=by simpa[Addr.add] using cell?_spot (aJ 0 h0).1.1
  subst Mt;have hb:b<w.heap.size:=block_lt_of_cell? w ⟨b,off,none⟩ (by have:=(aJ 0 h0).1.1;rwa [add_plain]at this);refine ⟨b,off,rfl,hb,fun j hj=>?_⟩;have Gw:j<len:=by rwa [hlen]at hj
  have:=(aJ j Gw).1
  rw[add_plain,add_plain]at this;simp only[getElem_map,getElem_range];exact this
theorem cM{fuel:Nat}{cs:List Value}{x:DataW H × List MemPlace}(h:DataW.trod enc prog w base spare held fuel 38 cs=some x):∃A:IW,cs=J0 A/\IW.Ok w A:=by
 obtain ⟨xs,m,_,_,OW,hl,hi⟩:=DataW.trod_struct underlying38 h;have hlen:cs.length=7:=OW.trans aa
 match cs,hlen,xs,hl with
 |[v0,v1,v2,v3,v4,v5,v6],_,[x0,x1,x2,x3,x4,x5,x6],_=>
  have g0:=hi 0 _ rfl;have g1:=hi 1 _ rfl;have g2:=hi 2 _ rfl;have g3:=hi 3 _ rfl;have g4:=hi 4 _ rfl;have g5:=hi 5 _ rfl;have g6:=hi 6 _ rfl;simp[oq,iM,lc,jH]at g0 g1 g2 g3 g4 g5 g6;obtain ⟨n0,e0,_,_⟩:=DataW.trod_int underlying3 g0;obtain ⟨n1,e1,_,q1⟩:=DataW.trod_int underlying3 g1;obtain ⟨n2,e2,_,q2⟩:=DataW.trod_int underlying3 g2;obtain ⟨n3,e3,_,q3⟩:=DataW.trod_int underlying3 g3;obtain ⟨b,hb,bL⟩:=jC g4;obtain ⟨l,IY,uT⟩:=Zj g5;obtain ⟨f,hf,-⟩:=Un g6;cases e0;cases e1;cases e2;cases e3
  exact ⟨⟨n0,n1,n2,n3,v4,v5,v6,b,l,f⟩,rfl,⟨hb,bL,IY,uT,hf,JP q1,JP q2,JP q3⟩⟩
end
theorem et{H:Type}{enc:TypeId × Value->H}{w:World}{b0:Nat}{r:Reach}{v:Value}{d:DataW H}{p:List MemPlace}
 (hv:Value.okWide prog w r b0 24 v) (h:DataW.Trod enc prog w 0 (fun _=>true) true 24 v d p):∃l:List IW,g_ w v l:=by
 obtain ⟨a0,len,cap,rfl⟩:=okWide_slice underlying24 hv;obtain ⟨fuel,hf⟩:=h;rcases open_slice underlying24 hf with ⟨FS,_⟩|⟨a,xB,DZ,m,n,D,Pl,FS,_,hl,_,hm,_,hx⟩
 ·simp[Value.cells]at FS;obtain ⟨rfl,rfl,rfl⟩:=FS;exact ⟨[],none,0,rfl,fun j hj=>absurd hj (Nat.not_lt_zero j),fun h=>absurd h (by decide)⟩
 ·simp[Value.cells]at FS;obtain ⟨rfl,rfl,rfl⟩:=FS;simp only[if_true]at hm;have AK:∀i,i<len->∃A:IW,IW.Ok w A/\∀k,k<7->w.cell? (a.add (i*7+k))=(J0 A)[k]?:=by
   intro i hi;obtain ⟨La,h1,h2⟩:=hx i AD;rw[aa]at h1;obtain ⟨_,hlen,Eq⟩:=World.cells?_some h1;obtain ⟨A,e,hA⟩:=cM h2;refine ⟨A,hA,fun k hk=>?_⟩;have:=Eq k hk
   rw[add_add]at this;rw[this,e]
  have choice:∃f:Nat->IW,∀i,i<len->IW.Ok w (f i)/\∀k,k<7->w.cell? (a.add (i*7+k))=(J0 (f i))[k]?:=
   ⟨fun i=>if h:i<len then Classical.choose (AK i h) else ⟨0,0,0,0,.bool false,.bool false,.bool false,[],[],[]⟩,fun i hi=>by simp only[dif_pos hi];exact Classical.choose_spec (AK i hi)⟩
  obtain ⟨f,aJ⟩:=choice;have hlen:((range len).map f).length=len:=Ar;refine ⟨(range len).map f,some a,cap,by rw[hlen],fun j hj=>?_,fun h0=>?_⟩
  ·simp only[getElem_map,getElem_range];exact (aJ j (by rwa [hlen]at hj)).1
  ·rw[hlen]at h0;obtain ⟨b,off,spot⟩:=a;have Mt:spot=none:=by simpa[Addr.add] using cell?_spot ((aJ 0 h0).2 0 (by decide))
   subst Mt;have qC:=(aJ 0 h0).2 0 (by decide);rw[add_plain]at qC;refine ⟨b,off,rfl,block_lt_of_cell? w ⟨b,off+(0*7+0),none⟩ qC,fun j hj k hk=>?_⟩;have Gw:j<len:=by rwa [hlen]at hj
   have e:=(aJ j Gw).2;simp only[add_plain]at e;simp only[getElem_map,getElem_range];rw[Nat.add_assoc];exact e k hk
end
end Go.Proofs.YtamhnffokoejjaaGreatDoor
