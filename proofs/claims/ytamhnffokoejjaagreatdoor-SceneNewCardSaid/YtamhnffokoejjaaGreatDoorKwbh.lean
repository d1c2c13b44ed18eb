import Derived.Deep.SlicePairs
import Derived.LaidMore
import Derived.Stop.Joined
import Derived.Test.YtamhnffokoejjaaGreatDoorKway
import Derived.Test.YtamhnffokoejjaaGreatDoorKwag
set_option linter.all false
set_option maxRecDepth 100000
namespace Go.Proofs.YtamhnffokoejjaaGreatDoor
open Go.ChangeShapes Go.WideShapes Go.ChangeAt Go.RowKit Go.Deep
theorem aB:Tryz.prog.cellsOf 5=1:=AY
theorem Vd{H:Type}{enc:TypeId × Value->H}{w:World}{b0:Nat}{r:Reach}{v:Value}{d:DataW H}{p:List MemPlace}
 (hv:Value.okWide Tryz.prog w r b0 22 v) (h:DataW.Trod enc Tryz.prog w 0 (fun _=>true) true 22 v d p):∃l:List Int,Lr w v l/\BX l:=by
 obtain ⟨a0,len,cap,rfl⟩:=okWide_slice Tryz.underlying22 hv;obtain ⟨fuel,hf⟩:=h;rcases open_ints Tryz.underlying22 Tryz.underlying5 aB hf with ⟨FS,_⟩|⟨a,len,cap,zs,FS,_,hl,_,hz,_,Eq,zo⟩
 ·cases FS;exact ⟨[],⟨none,0,rfl,Nat.le_refl _,fun h=>absurd h (by decide)⟩,fun n hn=>by cases hn⟩
 ·cases FS;have hge:len<=zs.length:=by rw[hz];split <;> omega
  have hlen:(zs.take len).length=len:=by rw[List.length_take];omega
  refine ⟨zs.take len,⟨some a,cap,by rw[hlen],by rw[hlen];exact hl,fun h0=>?_⟩,fun n hn=>kI (zo n (List.mem_of_mem_take hn))⟩;rw[hlen]at h0;obtain ⟨b,off,spot⟩:=a;have Mt:spot=none:=by simpa[Addr.add] using World.cell?_spot (Eq 0 AD)
  subst Mt;have qC:=Eq 0 AD;rw[Db]at qC;refine ⟨b,off,rfl,World.block_lt_of_cell? w ⟨b,off+0,none⟩ qC,fun j hj=>?_⟩;rw[hlen]at hj;have:=Eq j AD
  rw[Db]at this;rw[this];simp[List.getD_eq_getElem?_getD,show j<zs.length by omega]
theorem own:ownKnob Tryz.prog.godebug=none:=AY
theorem nE:laidOutB Tryz.prog=true:=AY
theorem ri:Tryz.prog.globalNamed "scrivener/utf.heads"=some 0:=AY
theorem r7:(Tryz.prog.globals[0]?).map (·.type)=some 282:=AY
def UZ:List (String × DataW Unit):=[("scrivener/utf.heads",Rows.laid_scrivener_utf_heads)]
theorem jo(os:Os)(args:Array Value):laidMetH Tryz.prog UZ ((World.doorLaid Tryz.prog 400 os).forCall (fun _ _=>0) ⟨#[],args,[]⟩).memory:=
 laidMetH_of_parts3 (fuel:=8) (laidMet_of_run' 8 AY AY) AY AY
theorem RD{W:World}(h:laidMetH Tryz.prog UZ W):Dh W:=by
 rw[MakeChecks.laidMetH_plain _ _ _ AY]at h;obtain ⟨ps,⟨g0,t0,cs0,f0,p0,q0,qB,ht0,TV,hd0,_,_⟩,_,_⟩:=h;obtain rfl:=Option.some.inj (ri.symm.trans qB)
 obtain rfl:=Option.some.inj (r7.symm.trans ht0)
 obtain ⟨xs,m1,rfl,qZ,hlen,ro,zH⟩:=DataW.trod_array Tryz.underlying282 hd0;have c0:Tryz.prog.cellsOf 282=5:=AY;simp only[Prod.mk.injEq,DataW.agg.injEq,Rows.laid_scrivener_utf_heads]at qZ;have FS:cs0.toList.length=5:=by rw[hlen];exact c0
 obtain ⟨l1⟩:=cs0
 match l1,FS with
 |[v0,v1,v2,v3,v4],_=>
  match xs,ro with
  |[x0,x1,x2,x3,x4],_=>
   have g1:=zH 1 (by decide);have g2:=zH 2 (by decide);have g3:=zH 3 (by decide);have g4:=zH 4 (by decide);simp[aB]at g1 g2 g3 g4;obtain ⟨n1,e1,k1,_⟩:=DataW.trod_int Tryz.underlying5 g1;obtain ⟨n2,e2,k2,_⟩:=DataW.trod_int Tryz.underlying5 g2;obtain ⟨n3,e3,k3,_⟩:=DataW.trod_int Tryz.underlying5 g3;obtain ⟨n4,e4,k4,_⟩:=DataW.trod_int Tryz.underlying5 g4;subst k1 k2 k3 k4;simp at qZ
   obtain ⟨⟨_,rfl,rfl,rfl,rfl⟩,_⟩:=qZ;cases e1;cases e2;cases e3;cases e4
   have c:=World.var?_cell qB TV;exact ⟨by simpa using c 1,by simpa using c 2,by simpa using c 3,by simpa using c 4⟩
end Go.Proofs.YtamhnffokoejjaaGreatDoor
