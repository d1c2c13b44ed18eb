import Derived.Test.YtamhnffokoejjaaGreatDoorKwaj
set_option linter.all false
set_option maxHeartbeats 1600000
set_option maxRecDepth 100000
namespace Go.Proofs.YtamhnffokoejjaaGreatDoor
open List(mem_of_getElem? length_append append_assoc nil_sublist)
open Nat(le_refl)
open Go.Proofs.Tryz
open Go.RowKit
theorem Ih(l r:Tr)(p:Pc)(v:Value)(w:World)(h:CU w (.node l p r) v)(hn:(Tr.node l p r).len<=90000):
 Calls prog 147 #[v] w fun e w'=>e=.returned (.tuple #[.int .i64 (l.len:Int),.int .i64 ((l.len+p.b.length:Nat):Int)])/\AA w w':=by
 obtain ⟨k,lv,rv,bv,fv,rfl,hk,hl,hr,hp⟩:=h;have HL:=AC (fun (w':World) (a:AA w w')=>CO l lv w' (hl.later a));obtain ⟨A,cap,rfl,hA⟩:=hp.1.form;have Ag:w.heap[k]?=some (.cells (FO lv rv (.slice A p.b.length cap) fv p (.node l p r)) 193):=hk;have r0:=AE Ag;have HS:=AC Ag;simp only[Tr.len]at hn;unfold FO at r0 HS;unfold Hd at HL;have f0:=xz;clear hl hr hp hk Ag;generalize p.b.length=n at *;generalize l.len=a1 at *;go_enter func147,ntmps147;go_wp2_with fail;refine (HL _ (AA.refl w)).mono ?_;rintro e w2 ⟨rfl,b2⟩;have HB:=AC b2;have r1:=AE (AB b2 HS.out);clear r0 b2;go_wp2_with fail
 go_quiet (fail)
 go_wp2_with fail;refine bodyPost_ret (v:=.tuple #[.int .i64 (a1:Int),.int .i64 ((a1+n:Nat):Int)]) (by simp[results,results147,go_sem]) rfl ⟨rfl,?_⟩;exact HB.out.drewN _
theorem Ka(a i r:Tr)(q p:Pc)(v rv bv fv:Value)(w:World)(h:CU w (.node a q i) v)(hr:CU w r rv)(hp:EA w bv fv p)(hF:(Tr.node a q i).Fair)(fp:p.Fair)(fr:r.Fair)(hn:(Tr.node a q i).len+p.b.length+r.len<=90000)(JW:i.Ad<=a.Ad):
 Calls prog 247 #[v,GM bv fv p,rv] w (IB (Cx (.node a q (.node i p r))) w):=by
 obtain ⟨fa,fq,fi⟩:=hF;have Fx:a.len+q.b.length+i.len+p.b.length+r.len<=90000:=hn;obtain ⟨k,lv,iv,qv,gv,rfl,hk,ha,hi,hq⟩:=h;have xL:=AC (fun (w':World) (b:AA w w')=>CO a lv w' (ha.later b));have iC:=AC (fun (w':World) (b:AA w w')=>CO i iv w' (hi.later b));have Oc:=AC (fun (w':World) (b:AA w w')=>Ey i r p iv rv bv fv w' (hi.later b) (hr.later b) (hp.later b) fi fr (by unfold Tr.len;omega));have Kw:=AC (fun (w':World) (u:Value) (b:AA w w') (hu:Cx (.node i p r) u w')=>Ey a (.node i p r) q lv u qv gv w' (ha.later b) hu (hq.later b) fa ⟨fi,fp,fr⟩ (by simp only[Tr.len];omega));have HK:=AC hk;obtain ⟨A,cap,rfl,-⟩:=hp.1.form;obtain ⟨A2,BP,rfl,-⟩:=hp.2.form;obtain ⟨A3,E7,rfl,-⟩:=hq.1.form;obtain ⟨A4,Kq,rfl,-⟩:=hq.2.form;unfold FO at HK;unfold Hd at xL iC;unfold GM at Oc Kw ⊢;have d1:((i.Ad:Nat):Int)<=(a.Ad:Int):=AD;have f3:=i7;clear ha hi hq hr hp hk hn Fx JW;generalize a.Ad=x1 at *;generalize i.Ad=x2 at *;generalize p.b.length=n at *;generalize p.fs.length=m at *;generalize p.base=b0 at *;generalize q.b.length=n2 at *;generalize q.fs.length=m2 at *;generalize q.base=b1 at *;go_enter func247,ntmps247;go_wp2_with fail;refine JL w (w.heap.size) (.cells #[.slice A n cap,.slice A2 m BP,.int .i64 b0] 191) ?_;intro w1 AJ AH;have AG:=AJ;have Aq:=AB AG HK.out;have Gm:=AE Aq
 go_quiet (fail)
 go_wp2_with fail;refine (xL _ (AG.drewN _)).mono ?_;rintro e w2 ⟨rfl,c2⟩;have AL:AA w1 w2:=((AA.refl w1).drewN _).trans c2;have AR:=AG.trans AL;have AU:=AB AL AH;have BH:=AB AL Aq;(try clear Gm);clear c2;go_wp2_with fail;refine (iC _ AR).mono ?_;rintro e w3 ⟨rfl,AX⟩;have An:=AR.trans AX;have Ah:=AB AX AU;have BD:=AB AX BH;go_wp2_with fail;apply Wild.AP (10) [⟨8,32,undef,true,Cx (.node i p r)⟩,⟨9,33,undef,true,Cx (.node a q (.node i p r))⟩] [⟨8,32,Cx (.node i p r)⟩,⟨9,33,Cx (.node a q (.node i p r))⟩] rfl AY AY AY Ar AY
 case hstab=>
  intro c hc;rcases Cv hc with rfl|rfl
  ·intro v x y BE hv;exact Bi BE hv
  ·intro v x y BE hv;exact Bi BE hv
 case hfix=>
  intro c hc;rcases Cv hc with rfl|rfl
  ·exact .inl rfl
  ·exact .inl rfl
 case hlex=>
  intro U hU;have q0:=AE (AB hU Ah);have q1:=AE (AB hU BD);refine Hj ?_
  repeat (go_big_quiet_step (fail))
  exact wpQuiet_nil rfl
 case hstep=>
  intro j hj o ho;have CQ:j=0\/j=1:=by simp at hj;omega
  rcases CQ with rfl|rfl
  ·cases ho;refine ⟨rfl,fun g x hx hp=>?_⟩;clear hp;refine Bp ?_;refine AO ?_ (Wild.Ai (Oc x (An.trans hx)));simp[go_sem,execOp]
  ·cases ho;refine ⟨rfl,fun g x hx hp=>?_⟩;have p32:(Cx (.node i p r)) (g 8) x:=hp _ (mem_of_getElem? (i:=0) rfl) (List.contains_iff_mem.1 AY);clear hp;refine Bp ?_;refine AO ?_ (Wild.Ai (Kw _ _ (An.trans hx) p32));simp[go_sem,execOp]
 case htail=>
  intro g u Aw Az;have Ao:AA w3 (later u):=⟨u,rfl⟩;generalize later u=w4 at *;clear u Az;obtain ⟨rQ,-⟩:=Aw _ (mem_of_getElem? (i:=0) rfl);(try dsimp only at rQ)
  obtain ⟨Qi,-⟩:=Aw _ (mem_of_getElem? (i:=1) rfl);(try dsimp only at Qi)
  clear Aw;refine DH ?_;generalize g 8=v32 at *;generalize g 9=v33 at *;have Bl:=An.trans Ao;go_wp2_with fail;go_ret;exact ⟨_,rfl,Bl,Qi⟩
theorem Oe(a b c r:Tr)(q s p:Pc)(v rv bv fv:Value)(w:World)(h:CU w (.node a q (.node b s c)) v)(hr:CU w r rv)(hp:EA w bv fv p)(hF:(Tr.node a q (.node b s c)).Fair)(fp:p.Fair)(fr:r.Fair)(hn:(Tr.node a q (.node b s c)).len+p.b.length+r.len<=90000)(JW:¬(Tr.node b s c).Ad<=a.Ad):
 Calls prog 247 #[v,GM bv fv p,rv] w (IB (Cx (.node (.node a q b) s (.node c p r))) w):=by
 obtain ⟨fa,fq,fb,fs,fc⟩:=hF;have Fx:a.len+q.b.length+(b.len+s.b.length+c.len)+p.b.length+r.len<=90000:=hn;obtain ⟨k,lv,iv,qv,gv,rfl,hk,ha,hi,hq⟩:=h;have xL:=AC (fun (w':World) (b:AA w w')=>CO a lv w' (ha.later b));have iC:=AC (fun (w':World) (e:AA w w')=>CO (.node b s c) iv w' (hi.later e));obtain ⟨k2,xv,yv,sv,tv,rfl,Gh,hb,hc,hs⟩:=hi;have Oc:=AC (fun (w':World) (e:AA w w')=>Ey a b q lv xv qv gv w' (ha.later e) (hb.later e) (hq.later e) fa fb (by simp only[Tr.len];omega));have Kw:=AC (fun (w':World) (e:AA w w')=>Ey c r p yv rv bv fv w' (hc.later e) (hr.later e) (hp.later e) fc fr (by simp only[Tr.len];omega));have XL:=AC (fun (w':World) (u u2:Value) (e:AA w w') (hu:Cx (.node a q b) u w') (px:Cx (.node c p r) u2 w')=>Ey (.node a q b) (.node c p r) s u u2 sv tv w' hu px (hs.later e) ⟨fa,fq,fb⟩ ⟨fc,fp,fr⟩ (by simp only[Tr.len];omega));have HK:=AC (And.intro hk Gh);obtain ⟨A,cap,rfl,-⟩:=hp.1.form;obtain ⟨A2,BP,rfl,-⟩:=hp.2.form;obtain ⟨A3,E7,rfl,-⟩:=hq.1.form;obtain ⟨A4,Kq,rfl,-⟩:=hq.2.form;obtain ⟨A5,IA,rfl,-⟩:=hs.1.form;obtain ⟨A6,LZ,rfl,-⟩:=hs.2.form;unfold FO at HK;unfold Hd at xL iC;unfold GM at Oc Kw XL ⊢;have d1:decide ((Tr.node b s c).Ad<=a.Ad)=false:=decide_eq_false AD;have f3:=i7;clear ha hq hr hp hk hn Fx JW hb hc hs Gh;generalize a.Ad=x1 at *;generalize (Tr.node b s c).Ad=x2 at *;generalize p.b.length=n at *;generalize p.fs.length=m at *;generalize p.base=b0 at *;generalize q.b.length=n2 at *;generalize q.fs.length=m2 at *;generalize q.base=b1 at *;generalize s.b.length=n3 at *;generalize s.fs.length=m3 at *;generalize s.base=b3 at *;go_enter func247,ntmps247;go_wp2_with fail;refine JL w (w.heap.size) (.cells #[.slice A n cap,.slice A2 m BP,.int .i64 b0] 191) ?_;intro w1 AJ AH;have AG:=AJ;have Aq:=AB AG HK.out.1;have DA:=AB AG HK.out.2;have Gm:=AE Aq
 go_quiet (fail)
 go_wp2_with fail;refine (xL _ (AG.drewN _)).mono ?_;rintro e w2 ⟨rfl,c2⟩;have AL:AA w1 w2:=((AA.refl w1).drewN _).trans c2;have AR:=AG.trans AL;have AU:=AB AL AH;have BH:=AB AL Aq;have DM:=AB AL DA;(try clear Gm);clear c2;go_wp2_with fail;refine (iC _ AR).mono ?_;rintro e w3 ⟨rfl,AX⟩;have An:=AR.trans AX;have Ah:=AB AX AU;have BD:=AB AX BH;have Er:=AB AX DM;go_wp2_with fail;apply Wild.AP (22) [⟨9,43,undef,true,Cx (.node a q b)⟩,⟨20,54,undef,true,Cx (.node c p r)⟩,⟨21,55,undef,true,Cx (.node (.node a q b) s (.node c p r))⟩] [⟨9,43,Cx (.node a q b)⟩,⟨20,54,Cx (.node c p r)⟩,⟨21,55,Cx (.node (.node a q b) s (.node c p r))⟩] rfl AY AY AY Ar AY
 case hstab=>
  intro c hc;rcases Cv hc with rfl|rfl|rfl
  ·intro v x y BE hv;exact Bi BE hv
  ·intro v x y BE hv;exact Bi BE hv
  ·intro v x y BE hv;exact Bi BE hv
 case hfix=>
  intro c hc;rcases Cv hc with rfl|rfl|rfl
  ·exact .inl rfl
  ·exact .inl rfl
  ·exact .inl rfl
 case hlex=>
  intro U hU;have q0:=AE (AB hU Ah);have q1:=AE (AB hU BD);have q2:=AE (AB hU Er);refine Hj ?_
  repeat (go_big_quiet_step (fail))
  exact wpQuiet_nil rfl
 case hstep=>
  intro j hj o ho;have CQ:j=0\/j=1\/j=2:=by simp at hj;omega
  rcases CQ with rfl|rfl|rfl
  ·cases ho;refine ⟨rfl,fun g x hx hp=>?_⟩;clear hp;refine Bp ?_;refine AO ?_ (Wild.Ai (Oc x (An.trans hx)));simp[go_sem,execOp]
  ·cases ho;refine ⟨rfl,fun g x hx hp=>?_⟩;clear hp;refine Bp ?_;refine AO ?_ (Wild.Ai (Kw x (An.trans hx)));simp[go_sem,execOp]
  ·cases ho;refine ⟨rfl,fun g x hx hp=>?_⟩;have p43:(Cx (.node a q b)) (g 9) x:=hp _ (mem_of_getElem? (i:=0) rfl) (List.contains_iff_mem.1 AY);have p54:(Cx (.node c p r)) (g 20) x:=hp _ (mem_of_getElem? (i:=1) rfl) (List.contains_iff_mem.1 AY);clear hp;refine Bp ?_;refine AO ?_ (Wild.Ai (XL _ _ _ (An.trans hx) p43 p54));simp[go_sem,execOp]
 case htail=>
  intro g u Aw Az;have Ao:AA w3 (later u):=⟨u,rfl⟩;generalize later u=w4 at *;clear u Az;obtain ⟨tB,-⟩:=Aw _ (mem_of_getElem? (i:=0) rfl);(try dsimp only at tB)
  obtain ⟨YO,-⟩:=Aw _ (mem_of_getElem? (i:=1) rfl);(try dsimp only at YO)
  obtain ⟨PQ,-⟩:=Aw _ (mem_of_getElem? (i:=2) rfl);(try dsimp only at PQ)
  clear Aw;refine DH ?_;generalize g 9=v43 at *;generalize g 20=v54 at *;generalize g 21=v55 at *;have Bl:=An.trans Ao;go_wp2_with fail;go_ret;exact ⟨_,rfl,Bl,PQ⟩
theorem RJ(a i r:Tr)(q p:Pc)(v rv bv fv:Value)(w:World)(t:Tr)(ht:Tr.turnR (.node a q i) p r=t)(h:CU w (.node a q i) v)(hr:CU w r rv)(hp:EA w bv fv p)(hF:(Tr.node a q i).Fair)(fp:p.Fair)(fr:r.Fair)(hn:(Tr.node a q i).len+p.b.length+r.len<=90000):
 Calls prog 247 #[v,GM bv fv p,rv] w (IB (Cx t) w):=by
 subst ht
 cases i with
 |nil=>exact Ka a .nil r q p v rv bv fv w h hr hp hF fp fr hn (Nat.zero_le _)
 |node b s c=>
  rw[Tr.E_];split
  ·rename_i hc
   exact Ka a _ r q p v rv bv fv w h hr hp hF fp fr hn hc
  ·rename_i hc
   exact Oe a b c r q s p v rv bv fv w h hr hp hF fp fr hn hc
theorem Lx(l i o:Tr)(q p:Pc)(v lv bv fv:Value)(w:World)(h:CU w (.node i q o) v)(hl:CU w l lv)(hp:EA w bv fv p)(hF:(Tr.node i q o).Fair)(fp:p.Fair)(fl:l.Fair)(hn:l.len+p.b.length+(Tr.node i q o).len<=90000)(JW:i.Ad<=o.Ad):
 Calls prog 248 #[lv,GM bv fv p,v] w (IB (Cx (.node (.node l p i) q o)) w):=by
 obtain ⟨fi,fq,fo⟩:=hF;have Fx:l.len+p.b.length+(i.len+q.b.length+o.len)<=90000:=hn;obtain ⟨k,iv,ov,qv,gv,rfl,hk,hi,ho,hq⟩:=h;have TH:=AC (fun (w':World) (b:AA w w')=>CO o ov w' (ho.later b));have iC:=AC (fun (w':World) (b:AA w w')=>CO i iv w' (hi.later b));have Oc:=AC (fun (w':World) (b:AA w w')=>Ey l i p lv iv bv fv w' (hl.later b) (hi.later b) (hp.later b) fl fi (by unfold Tr.len;omega));have Kw:=AC (fun (w':World) (u:Value) (b:AA w w') (hu:Cx (.node l p i) u w')=>Ey (.node l p i) o q u ov qv gv w' hu (ho.later b) (hq.later b) ⟨fl,fp,fi⟩ fo (by simp only[Tr.len];omega));have HK:=AC hk;obtain ⟨A,cap,rfl,-⟩:=hp.1.form;obtain ⟨A2,BP,rfl,-⟩:=hp.2.form;obtain ⟨A3,E7,rfl,-⟩:=hq.1.form;obtain ⟨A4,Kq,rfl,-⟩:=hq.2.form;unfold FO at HK;unfold Hd at TH iC;unfold GM at Oc Kw ⊢;have d1:((i.Ad:Nat):Int)<=(o.Ad:Int):=AD;have f3:=i7;clear hl hi hq ho hp hk hn Fx JW;generalize o.Ad=x1 at *;generalize i.Ad=x2 at *;generalize p.b.length=n at *;generalize p.fs.length=m at *;generalize p.base=b0 at *;generalize q.b.length=n2 at *;generalize q.fs.length=m2 at *;generalize q.base=b1 at *;go_enter func248,ntmps248;go_wp2_with fail;refine JL w (w.heap.size) (.cells #[.slice A n cap,.slice A2 m BP,.int .i64 b0] 191) ?_;intro w1 AJ AH;have AG:=AJ;have Aq:=AB AG HK.out;have Gm:=AE Aq
 go_quiet (fail)
 go_wp2_with fail;refine (TH _ (AG.drewN _)).mono ?_;rintro e w2 ⟨rfl,c2⟩;have AL:AA w1 w2:=((AA.refl w1).drewN _).trans c2;have AR:=AG.trans AL;have AU:=AB AL AH;have BH:=AB AL Aq;(try clear Gm);clear c2;go_wp2_with fail;refine (iC _ AR).mono ?_;rintro e w3 ⟨rfl,AX⟩;have An:=AR.trans AX;have Ah:=AB AX AU;have BD:=AB AX BH;go_wp2_with fail;apply Wild.AP (10) [⟨3,27,undef,true,Cx (.node l p i)⟩,⟨9,33,undef,true,Cx (.node (.node l p i) q o)⟩] [⟨3,27,Cx (.node l p i)⟩,⟨9,33,Cx (.node (.node l p i) q o)⟩] rfl AY AY AY Ar AY
 case hstab=>
  intro c hc;rcases Cv hc with rfl|rfl
  ·intro v x y BE hv;exact Bi BE hv
  ·intro v x y BE hv;exact Bi BE hv
 case hfix=>
  intro c hc;rcases Cv hc with rfl|rfl
  ·exact .inl rfl
  ·exact .inl rfl
 case hlex=>
  intro U hU;have q0:=AE (AB hU Ah);have q1:=AE (AB hU BD);refine Hj ?_
  repeat (go_big_quiet_step (fail))
  exact wpQuiet_nil rfl
 case hstep=>
  intro j hj o ho;have CQ:j=0\/j=1:=by simp at hj;omega
  rcases CQ with rfl|rfl
  ·cases ho;refine ⟨rfl,fun g x hx hp=>?_⟩;clear hp;refine Bp ?_;refine AO ?_ (Wild.Ai (Oc x (An.trans hx)));simp[go_sem,execOp]
  ·cases ho;refine ⟨rfl,fun g x hx hp=>?_⟩;have p27:(Cx (.node l p i)) (g 3) x:=hp _ (mem_of_getElem? (i:=0) rfl) (List.contains_iff_mem.1 AY);clear hp;refine Bp ?_;refine AO ?_ (Wild.Ai (Kw _ _ (An.trans hx) p27));simp[go_sem,execOp]
 case htail=>
  intro g u Aw Az;have Ao:AA w3 (later u):=⟨u,rfl⟩;generalize later u=w4 at *;clear u Az;obtain ⟨sk,-⟩:=Aw _ (mem_of_getElem? (i:=0) rfl);(try dsimp only at sk)
  obtain ⟨Qi,-⟩:=Aw _ (mem_of_getElem? (i:=1) rfl);(try dsimp only at Qi)
  clear Aw;refine DH ?_;generalize g 3=v27 at *;generalize g 9=v33 at *;have Bl:=An.trans Ao;go_wp2_with fail;go_ret;exact ⟨_,rfl,Bl,Qi⟩
theorem Qc(l b c o:Tr)(q s p:Pc)(v lv bv fv:Value)(w:World)(h:CU w (.node (.node b s c) q o) v)(hl:CU w l lv)(hp:EA w bv fv p)(hF:(Tr.node (.node b s c) q o).Fair)(fp:p.Fair)(fl:l.Fair)(hn:l.len+p.b.length+(Tr.node (.node b s c) q o).len<=90000)(JW:¬(Tr.node b s c).Ad<=o.Ad):
 Calls prog 248 #[lv,GM bv fv p,v] w (IB (Cx (.node (.node l p b) s (.node c q o))) w):=by
 obtain ⟨⟨fb,fs,fc⟩,fq,fo⟩:=hF;have Fx:l.len+p.b.length+((b.len+s.b.length+c.len)+q.b.length+o.len)<=90000:=hn;obtain ⟨k,iv,ov,qv,gv,rfl,hk,hi,ho,hq⟩:=h;have TH:=AC (fun (w':World) (b:AA w w')=>CO o ov w' (ho.later b));have iC:=AC (fun (w':World) (e:AA w w')=>CO (.node b s c) iv w' (hi.later e));obtain ⟨k2,xv,yv,sv,tv,rfl,Gh,hb,hc,hs⟩:=hi;have Oc:=AC (fun (w':World) (e:AA w w')=>Ey l b p lv xv bv fv w' (hl.later e) (hb.later e) (hp.later e) fl fb (by simp only[Tr.len];omega));have Kw:=AC (fun (w':World) (e:AA w w')=>Ey c o q yv ov qv gv w' (hc.later e) (ho.later e) (hq.later e) fc fo (by simp only[Tr.len];omega));have XL:=AC (fun (w':World) (u u2:Value) (e:AA w w') (hu:Cx (.node l p b) u w') (px:Cx (.node c q o) u2 w')=>Ey (.node l p b) (.node c q o) s u u2 sv tv w' hu px (hs.later e) ⟨fl,fp,fb⟩ ⟨fc,fq,fo⟩ (by simp only[Tr.len];omega));have HK:=AC (And.intro hk Gh);obtain ⟨A,cap,rfl,-⟩:=hp.1.form;obtain ⟨A2,BP,rfl,-⟩:=hp.2.form;obtain ⟨A3,E7,rfl,-⟩:=hq.1.form;obtain ⟨A4,Kq,rfl,-⟩:=hq.2.form;obtain ⟨A5,IA,rfl,-⟩:=hs.1.form;obtain ⟨A6,LZ,rfl,-⟩:=hs.2.form;unfold FO at HK;unfold Hd at TH iC;unfold GM at Oc Kw XL ⊢;have d1:decide ((Tr.node b s c).Ad<=o.Ad)=false:=decide_eq_false AD;have f3:=i7;clear hl hq ho hp hk hn Fx JW hb hc hs Gh;generalize o.Ad=x1 at *;generalize (Tr.node b s c).Ad=x2 at *;generalize p.b.length=n at *;generalize p.fs.length=m at *;generalize p.base=b0 at *;generalize q.b.length=n2 at *;generalize q.fs.length=m2 at *;generalize q.base=b1 at *;generalize s.b.length=n3 at *;generalize s.fs.length=m3 at *;generalize s.base=b3 at *;go_enter func248,ntmps248;go_wp2_with fail;refine JL w (w.heap.size) (.cells #[.slice A n cap,.slice A2 m BP,.int .i64 b0] 191) ?_;intro w1 AJ AH;have AG:=AJ;have Aq:=AB AG HK.out.1;have DA:=AB AG HK.out.2;have Gm:=AE Aq
 go_quiet (fail)
 go_wp2_with fail;refine (TH _ (AG.drewN _)).mono ?_;rintro e w2 ⟨rfl,c2⟩;have AL:AA w1 w2:=((AA.refl w1).drewN _).trans c2;have AR:=AG.trans AL;have AU:=AB AL AH;have BH:=AB AL Aq;have DM:=AB AL DA;(try clear Gm);clear c2;go_wp2_with fail;refine (iC _ AR).mono ?_;rintro e w3 ⟨rfl,AX⟩;have An:=AR.trans AX;have Ah:=AB AX AU;have BD:=AB AX BH;have Er:=AB AX DM;go_wp2_with fail;apply Wild.AP (22) [⟨6,40,undef,true,Cx (.node l p b)⟩,⟨20,54,undef,true,Cx (.node c q o)⟩,⟨21,55,undef,true,Cx (.node (.node l p b) s (.node c q o))⟩] [⟨6,40,Cx (.node l p b)⟩,⟨20,54,Cx (.node c q o)⟩,⟨21,55,Cx (.node (.node l p b) s (.node c q o))⟩] rfl AY AY AY Ar AY
 case hstab=>
  intro c hc;rcases Cv hc with rfl|rfl|rfl
  ·intro v x y BE hv;exact Bi BE hv
  ·intro v x y BE hv;exact Bi BE hv
  ·intro v x y BE hv;exact Bi BE hv
 case hfix=>
  intro c hc;rcases Cv hc with rfl|rfl|rfl
  ·exact .inl rfl
  ·exact .inl rfl
  ·exact .inl rfl
 case hlex=>
  intro U hU;have q0:=AE (AB hU Ah);have q1:=AE (AB hU BD);have q2:=AE (AB hU Er);refine Hj ?_
  repeat (go_big_quiet_step (fail))
  exact wpQuiet_nil rfl
 case hstep=>
  intro j hj o ho;have CQ:j=0\/j=1\/j=2:=by simp at hj;omega
  rcases CQ with rfl|rfl|rfl
  ·cases ho;refine ⟨rfl,fun g x hx hp=>?_⟩;clear hp;refine Bp ?_;refine AO ?_ (Wild.Ai (Oc x (An.trans hx)));simp[go_sem,execOp]
  ·cases ho;refine ⟨rfl,fun g x hx hp=>?_⟩;clear hp;refine Bp ?_;refine AO ?_ (Wild.Ai (Kw x (An.trans hx)));simp[go_sem,execOp]
  ·cases ho;refine ⟨rfl,fun g x hx hp=>?_⟩;have p40:(Cx (.node l p b)) (g 6) x:=hp _ (mem_of_getElem? (i:=0) rfl) (List.contains_iff_mem.1 AY);have p54:(Cx (.node c q o)) (g 20) x:=hp _ (mem_of_getElem? (i:=1) rfl) (List.contains_iff_mem.1 AY);clear hp;refine Bp ?_;refine AO ?_ (Wild.Ai (XL _ _ _ (An.trans hx) p40 p54));simp[go_sem,execOp]
 case htail=>
  intro g u Aw Az;have Ao:AA w3 (later u):=⟨u,rfl⟩;generalize later u=w4 at *;clear u Az;obtain ⟨tJ,-⟩:=Aw _ (mem_of_getElem? (i:=0) rfl);(try dsimp only at tJ)
  obtain ⟨YO,-⟩:=Aw _ (mem_of_getElem? (i:=1) rfl);(try dsimp only at YO)
  obtain ⟨PQ,-⟩:=Aw _ (mem_of_getElem? (i:=2) rfl);(try dsimp only at PQ)
  clear Aw;refine DH ?_;generalize g 6=v40 at *;generalize g 20=v54 at *;generalize g 21=v55 at *;have Bl:=An.trans Ao;go_wp2_with fail;go_ret;exact ⟨_,rfl,Bl,PQ⟩
theorem TW(l i o:Tr)(q p:Pc)(v lv bv fv:Value)(w:World)(t:Tr)(ht:Tr.turnL l p (.node i q o)=t)(h:CU w (.node i q o) v)(hl:CU w l lv)(hp:EA w bv fv p)(hF:(Tr.node i q o).Fair)(fp:p.Fair)(fl:l.Fair)(hn:l.len+p.b.length+(Tr.node i q o).len<=90000):
 Calls prog 248 #[lv,GM bv fv p,v] w (IB (Cx t) w):=by
 subst ht
 cases i with
 |nil=>exact Lx l .nil o q p v lv bv fv w h hl hp hF fp fl hn (Nat.zero_le _)
 |node b s c=>
  rw[Tr.E6];split
  ·rename_i hc
   exact Lx l _ o q p v lv bv fv w h hl hp hF fp fl hn hc
  ·rename_i hc
   exact Qc l b c o q s p v lv bv fv w h hl hp hF fp fl hn hc
theorem Tr.FM{t:Tr}(f:t.Fair)(h:t.len<=90000):t.Ad<=90000:=by
 have h1:=t.Vj f;have h2:=t.EH;omega
theorem Pb(l r:Tr)(p:Pc)(lv rv bv fv:Value)(w:World)(t:Tr)(ht:Tr.even l p r=t)(hl:CU w l lv)(hr:CU w r rv)(hp:EA w bv fv p)(fl:l.Fair)(fp:p.Fair)(fr:r.Fair)(hn:l.len+p.b.length+r.len<=90000):
 Calls prog 214 #[lv,GM bv fv p,rv] w (IB (Cx t) w):=by
 have v1:=Tr.FM fl AD;have v2:=Tr.FM fr AD;unfold Tr.even at ht;by_cases c1:r.Ad+2<l.Ad
 ·have HD:=AC (fun (w':World) (b:AA w w')=>Dq l r lv rv w' true (by simpa using c1) (hl.later b) (hr.later b) v1 v2);rw[if_pos c1]at ht;have HT:Hid (∀(w':World),AA w w'->Calls prog 247 #[lv,GM bv fv p,rv] w' (IB (Cx t) w')):=AC (fun w' b=>by
   cases l with
   |nil=>simp[Tr.Ad]at c1
   |node a q i=>exact RJ a i r q p lv rv bv fv w' t ht (hl.later b) (hr.later b) (hp.later b) fl fp fr hn)
  obtain ⟨A,cap,rfl,-⟩:=hp.1.form;obtain ⟨A2,BP,rfl,-⟩:=hp.2.form;unfold GM at HT ⊢;clear hl hr hp fl fp fr hn ht c1 v1 v2;generalize p.b.length=n at *;generalize p.fs.length=m at *;generalize p.base=b0 at *;go_enter func214,ntmps214;go_wp2_with fail;refine AQ (fun wS=>AA w wS/\wS.heap[w.heap.size]?=some (.cells #[.slice A n cap,.slice A2 m BP,.int .i64 b0] 191)) ⟨BQ,CG⟩ ?_;rintro w1 ⟨AJ,AH⟩;have AG:=AJ;refine (HD _ (by assumption)).mono ?_;rintro e w2 ⟨rfl,AL⟩;have AR:=AG.trans AL;have AU:=AB AL AH;have BS:=AE AU;go_wp2_with fail;refine (HT _ AR).mono ?_;rintro e w3 ⟨u,rfl,b3,hu⟩;have HU:=AC (And.intro (AR.trans b3) hu);clear b3 hu;go_wp2_with fail;go_ret;exact ⟨_,rfl,HU.out.1,HU.out.2⟩
 ·have HD:=AC (fun (w':World) (b:AA w w')=>Dq l r lv rv w' false (by simpa using c1) (hl.later b) (hr.later b) v1 v2);rw[if_neg c1]at ht;by_cases c2:l.Ad+2<r.Ad
  ·have Rd:=AC (fun (w':World) (b:AA w w')=>Dq r l rv lv w' true (by simpa using c2) (hr.later b) (hl.later b) v2 v1);rw[if_pos c2]at ht;have HT:Hid (∀(w':World),AA w w'->Calls prog 248 #[lv,GM bv fv p,rv] w' (IB (Cx t) w')):=AC (fun w' b=>by
    cases r with
    |nil=>simp[Tr.Ad]at c2
    |node i q o=>exact TW l i o q p rv lv bv fv w' t ht (hr.later b) (hl.later b) (hp.later b) fr fp fl hn)
   obtain ⟨A,cap,rfl,-⟩:=hp.1.form;obtain ⟨A2,BP,rfl,-⟩:=hp.2.form;unfold GM at HT ⊢;clear hl hr hp fl fp fr hn ht c1 c2 v1 v2;generalize p.b.length=n at *;generalize p.fs.length=m at *;generalize p.base=b0 at *;go_enter func214,ntmps214;go_wp2_with fail;refine AQ (fun wS=>AA w wS/\wS.heap[w.heap.size]?=some (.cells #[.slice A n cap,.slice A2 m BP,.int .i64 b0] 191)) ⟨BQ,CG⟩ ?_;rintro w1 ⟨AJ,AH⟩;have AG:=AJ;refine (HD _ (by assumption)).mono ?_;rintro e w2 ⟨rfl,AL⟩;have AR:=AG.trans AL;have AU:=AB AL AH;have BS:=AE AU;go_wp2_with fail;refine (Rd _ (by assumption)).mono ?_;rintro e w3 ⟨rfl,AX⟩;have An:=AR.trans AX;have Ah:=AB AX AU;have CB:=AE Ah;(try clear BS);go_wp2_with fail;refine (HT _ An).mono ?_;rintro e w4 ⟨u,rfl,b4,hu⟩;have HU:=AC (And.intro (An.trans b4) hu);clear b4 hu;go_wp2_with fail;go_ret;exact ⟨_,rfl,HU.out.1,HU.out.2⟩
  ·have Rd:=AC (fun (w':World) (b:AA w w')=>Dq r l rv lv w' false (by simpa using c2) (hr.later b) (hl.later b) v2 v1);rw[if_neg c2]at ht;have HT:Hid (∀(w':World),AA w w'->Calls prog 215 #[lv,GM bv fv p,rv] w' (IB (Cx t) w')):=AC (fun w' b=>by
    subst ht;exact Ey l r p lv rv bv fv w' (hl.later b) (hr.later b) (hp.later b) fl fr hn)
   obtain ⟨A,cap,rfl,-⟩:=hp.1.form;obtain ⟨A2,BP,rfl,-⟩:=hp.2.form;unfold GM at HT ⊢;clear hl hr hp fl fp fr hn ht c1 c2 v1 v2;generalize p.b.length=n at *;generalize p.fs.length=m at *;generalize p.base=b0 at *;go_enter func214,ntmps214;go_wp2_with fail;refine AQ (fun wS=>AA w wS/\wS.heap[w.heap.size]?=some (.cells #[.slice A n cap,.slice A2 m BP,.int .i64 b0] 191)) ⟨BQ,CG⟩ ?_;rintro w1 ⟨AJ,AH⟩;have AG:=AJ;refine (HD _ (by assumption)).mono ?_;rintro e w2 ⟨rfl,AL⟩;have AR:=AG.trans AL;have AU:=AB AL AH;have BS:=AE AU;go_wp2_with fail;refine (Rd _ (by assumption)).mono ?_;rintro e w3 ⟨rfl,AX⟩;have An:=AR.trans AX;have Ah:=AB AX AU;have CB:=AE Ah;(try clear BS);go_wp2_with fail;refine (HT _ An).mono ?_;rintro e w4 ⟨u,rfl,b4,hu⟩;have HU:=AC (And.intro (An.trans b4) hu);clear b4 hu;go_wp2_with fail;go_ret;exact ⟨_,rfl,HU.out.1,HU.out.2⟩
def Tc(n:Nat):Prop:=∀(l r:Tr) (p:Pc) (lv rv bv fv:Value) (w:World) (t:Tr),l.np+r.np<=n->Tr.join l p r=t->CU w l lv->CU w r rv->EA w bv fv p->l.Fair->p.Fair->r.Fair->l.len+p.b.length+r.len<=90000->
 Calls prog 169 #[lv,GM bv fv p,rv] w (IB (Cx t) w)
theorem Sr(l r:Tr)(p:Pc)(lv rv bv fv:Value)(w:World)(hl:CU w l lv)(hr:CU w r rv)(hp:EA w bv fv p)(fl:l.Fair)(fr:r.Fair)(hn:l.len+p.b.length+r.len<=90000)(c1:¬r.Ad+2<l.Ad)(c2:¬l.Ad+2<r.Ad):
 Calls prog 169 #[lv,GM bv fv p,rv] w (IB (Cx (.node l p r)) w):=by
 have v1:=Tr.FM fl AD;have v2:=Tr.FM fr AD;have HD:=AC (fun (w':World) (b:AA w w')=>Dq l r lv rv w' false (by simpa using c1) (hl.later b) (hr.later b) v1 v2);have Rd:=AC (fun (w':World) (b:AA w w')=>Dq r l rv lv w' false (by simpa using c2) (hr.later b) (hl.later b) v2 v1);have HT:Hid (∀(w':World),AA w w'->Calls prog 215 #[lv,GM bv fv p,rv] w' (IB (Cx (.node l p r)) w')):=AC (fun w' b=>Ey l r p lv rv bv fv w' (hl.later b) (hr.later b) (hp.later b) fl fr hn);obtain ⟨A,cap,rfl,-⟩:=hp.1.form;obtain ⟨A2,BP,rfl,-⟩:=hp.2.form;unfold GM at HT ⊢;clear hl hr hp fl fr hn c1 c2 v1 v2;generalize p.b.length=n at *;generalize p.fs.length=m at *;generalize p.base=b0 at *;go_enter func169,ntmps169;go_wp2_with fail;refine AQ (fun wS=>AA w wS/\wS.heap[w.heap.size]?=some (.cells #[.slice A n cap,.slice A2 m BP,.int .i64 b0] 191)) ⟨BQ,CG⟩ ?_;rintro w1 ⟨AJ,AH⟩;have AG:=AJ;refine (HD _ (by assumption)).mono ?_;rintro e w2 ⟨rfl,AL⟩;have AR:=AG.trans AL;have AU:=AB AL AH;go_wp2_with fail;refine (Rd _ (by assumption)).mono ?_;rintro e w3 ⟨rfl,AX⟩;have An:=AR.trans AX;have Ah:=AB AX AU;have CB:=AE Ah;go_wp2_with fail;refine (HT _ An).mono ?_;rintro e w4 ⟨u,rfl,b4,hu⟩;have HU:=AC (And.intro (An.trans b4) hu);clear b4 hu;go_wp2_with fail;go_ret;exact ⟨_,rfl,HU.out.1,HU.out.2⟩
theorem EY(N:Nat)(ih:Tc N)(a b r:Tr)(q p:Pc)(v rv bv fv:Value)(w:World)(hN:b.np+r.np<=N)(h:CU w (.node a q b) v)(hr:CU w r rv)(hp:EA w bv fv p)(hF:(Tr.node a q b).Fair)(fp:p.Fair)(fr:r.Fair)(hn:(Tr.node a q b).len+p.b.length+r.len<=90000)(c1:r.Ad+2<(Tr.node a q b).Ad):
 Calls prog 169 #[v,GM bv fv p,rv] w (IB (Cx (Tr.even a q (Tr.join b p r))) w):=by
 have v1:=Tr.FM hF AD;have v2:=Tr.FM fr AD;have Fx:a.len+q.b.length+b.len+p.b.length+r.len<=90000:=hn;have HD:=AC (fun (w':World) (e:AA w w')=>Dq (.node a q b) r v rv w' true (by simpa using c1) (h.later e) (hr.later e) v1 v2);obtain ⟨fa,fq,fb⟩:=hF;obtain ⟨k,lv,iv,qv,gv,rfl,hk,ha,hb,hq⟩:=h;have HJ:=AC (fun (w':World) (e:AA w w')=>ih b r p iv rv bv fv w' _ hN rfl (hb.later e) (hr.later e) (hp.later e) fb fp fr AD);have HE:=AC (fun (w':World) (u:Value) (e:AA w w') (hu:Cx (Tr.join b p r) u w')=>Pb a (Tr.join b p r) q lv u qv gv w' _ rfl (ha.later e) hu (hq.later e) fa fq (Tr.F9 fb fp fr) (by rw[Tr.Wo];omega));have HK:=AC hk;obtain ⟨A,cap,rfl,-⟩:=hp.1.form;obtain ⟨A2,BP,rfl,-⟩:=hp.2.form;obtain ⟨A3,E7,rfl,-⟩:=hq.1.form;obtain ⟨A4,Kq,rfl,-⟩:=hq.2.form;unfold FO at HK;unfold GM at HJ HE ⊢;clear ha hb hq hr hp hk hn Fx hN ih v1 v2 c1;generalize p.b.length=n at *;generalize p.fs.length=m at *;generalize p.base=b0 at *;generalize q.b.length=n2 at *;generalize q.fs.length=m2 at *;generalize q.base=b1 at *;go_enter func169,ntmps169;go_wp2_with fail;refine AQ (fun wS=>AA w wS/\wS.heap[w.heap.size]?=some (.cells #[.slice A n cap,.slice A2 m BP,.int .i64 b0] 191)) ⟨BQ,CG⟩ ?_;rintro w1 ⟨AJ,AH⟩;have AG:=AJ;have Aq:=AB AG HK.out;refine (HD _ (by assumption)).mono ?_;rintro e w2 ⟨rfl,AL⟩;have AR:=AG.trans AL;have AU:=AB AL AH;have BH:=AB AL Aq;go_wp2_with fail;apply Wild.AP (16) [⟨14,25,undef,true,Cx (Tr.join b p r)⟩,⟨15,26,undef,true,Cx (Tr.even a q (Tr.join b p r))⟩] [⟨14,25,Cx (Tr.join b p r)⟩,⟨15,26,Cx (Tr.even a q (Tr.join b p r))⟩] rfl AY AY AY Ar AY
 case hstab=>
  intro c hc;rcases Cv hc with rfl|rfl
  ·intro v x y BE hv;exact Bi BE hv
  ·intro v x y BE hv;exact Bi BE hv
 case hfix=>
  intro c hc;rcases Cv hc with rfl|rfl
  ·exact .inl rfl
  ·exact .inl rfl
 case hlex=>
  intro U hU;have q0:=AE (AB hU AU);have q1:=AE (AB hU BH);refine Hj ?_
  repeat (go_big_quiet_step (fail))
  exact wpQuiet_nil rfl
 case hstep=>
  intro j hj o ho;have CQ:j=0\/j=1:=by simp at hj;omega
  rcases CQ with rfl|rfl
  ·cases ho;refine ⟨rfl,fun g x hx hp=>?_⟩;clear hp;refine Bp ?_;refine AO ?_ (Wild.Ai (HJ x (AR.trans hx)));simp[go_sem,execOp]
  ·cases ho;refine ⟨rfl,fun g x hx hp=>?_⟩;have p25:(Cx (Tr.join b p r)) (g 14) x:=hp _ (mem_of_getElem? (i:=0) rfl) (List.contains_iff_mem.1 AY);clear hp;refine Bp ?_;refine AO ?_ (Wild.Ai (HE _ _ (AR.trans hx) p25));simp[go_sem,execOp]
 case htail=>
  intro g u Aw Az;have AX:AA w2 (later u):=⟨u,rfl⟩;generalize later u=w3 at *;clear u Az;obtain ⟨rB,-⟩:=Aw _ (mem_of_getElem? (i:=0) rfl);(try dsimp only at rB)
  obtain ⟨gt,-⟩:=Aw _ (mem_of_getElem? (i:=1) rfl);(try dsimp only at gt)
  clear Aw;refine DH ?_;generalize g 14=v25 at *;generalize g 15=v26 at *;have An:=AR.trans AX;go_wp2_with fail;go_ret;exact ⟨_,rfl,An,gt⟩
theorem Ds(N:Nat)(ih:Tc N)(l a b:Tr)(q p:Pc)(v lv bv fv:Value)(w:World)(hN:l.np+a.np<=N)(h:CU w (.node a q b) v)(hl:CU w l lv)(hp:EA w bv fv p)(hF:(Tr.node a q b).Fair)(fp:p.Fair)(fl:l.Fair)(hn:l.len+p.b.length+(Tr.node a q b).len<=90000)(c1:¬(Tr.node a q b).Ad+2<l.Ad)(c2:l.Ad+2<(Tr.node a q b).Ad):
 Calls prog 169 #[lv,GM bv fv p,v] w (IB (Cx (Tr.even (Tr.join l p a) q b)) w):=by
 have v1:=Tr.FM hF AD;have v2:=Tr.FM fl AD;have Fx:l.len+p.b.length+(a.len+q.b.length+b.len)<=90000:=hn;have HD:=AC (fun (w':World) (e:AA w w')=>Dq l (.node a q b) lv v w' false (by simpa using c1) (hl.later e) (h.later e) v2 v1);have Rd:=AC (fun (w':World) (e:AA w w')=>Dq (.node a q b) l v lv w' true (by simpa using c2) (h.later e) (hl.later e) v1 v2);obtain ⟨fa,fq,fb⟩:=hF;obtain ⟨k,iv,rv,qv,gv,rfl,hk,ha,hb,hq⟩:=h;have HJ:=AC (fun (w':World) (e:AA w w')=>ih l a p lv iv bv fv w' _ hN rfl (hl.later e) (ha.later e) (hp.later e) fl fp fa AD);have HE:=AC (fun (w':World) (u:Value) (e:AA w w') (hu:Cx (Tr.join l p a) u w')=>Pb (Tr.join l p a) b q u rv qv gv w' _ rfl hu (hb.later e) (hq.later e) (Tr.F9 fl fp fa) fq fb (by rw[Tr.Wo];omega));have HK:=AC hk;obtain ⟨A,cap,rfl,-⟩:=hp.1.form;obtain ⟨A2,BP,rfl,-⟩:=hp.2.form;obtain ⟨A3,E7,rfl,-⟩:=hq.1.form;obtain ⟨A4,Kq,rfl,-⟩:=hq.2.form;unfold FO at HK;unfold GM at HJ HE ⊢;clear ha hb hq hl hp hk hn Fx hN ih v1 v2 c1 c2;generalize p.b.length=n at *;generalize p.fs.length=m at *;generalize p.base=b0 at *;generalize q.b.length=n2 at *;generalize q.fs.length=m2 at *;generalize q.base=b1 at *;go_enter func169,ntmps169;go_wp2_with fail;refine AQ (fun wS=>AA w wS/\wS.heap[w.heap.size]?=some (.cells #[.slice A n cap,.slice A2 m BP,.int .i64 b0] 191)) ⟨BQ,CG⟩ ?_;rintro w1 ⟨AJ,AH⟩;have AG:=AJ;have Aq:=AB AG HK.out;refine (HD _ (by assumption)).mono ?_;rintro e w2 ⟨rfl,AL⟩;have AR:=AG.trans AL;have AU:=AB AL AH;have BH:=AB AL Aq;go_wp2_with fail;refine (Rd _ (by assumption)).mono ?_;rintro e w3 ⟨rfl,AX⟩;have An:=AR.trans AX;have Ah:=AB AX AU;have BD:=AB AX BH;go_wp2_with fail;apply Wild.AP (16) [⟨6,37,undef,true,Cx (Tr.join l p a)⟩,⟨15,46,undef,true,Cx (Tr.even (Tr.join l p a) q b)⟩] [⟨6,37,Cx (Tr.join l p a)⟩,⟨15,46,Cx (Tr.even (Tr.join l p a) q b)⟩] rfl AY AY AY Ar AY
 case hstab=>
  intro c hc;rcases Cv hc with rfl|rfl
  ·intro v x y BE hv;exact Bi BE hv
  ·intro v x y BE hv;exact Bi BE hv
 case hfix=>
  intro c hc;rcases Cv hc with rfl|rfl
  ·exact .inl rfl
  ·exact .inl rfl
 case hlex=>
  intro U hU;have q0:=AE (AB hU Ah);have q1:=AE (AB hU BD);refine Hj ?_
  repeat (go_big_quiet_step (fail))
  exact wpQuiet_nil rfl
 case hstep=>
  intro j hj o ho;have CQ:j=0\/j=1:=by simp at hj;omega
  rcases CQ with rfl|rfl
  ·cases ho;refine ⟨rfl,fun g x hx hp=>?_⟩;clear hp;refine Bp ?_;refine AO ?_ (Wild.Ai (HJ x (An.trans hx)));simp[go_sem,execOp]
  ·cases ho;refine ⟨rfl,fun g x hx hp=>?_⟩;have xK:(Cx (Tr.join l p a)) (g 6) x:=hp _ (mem_of_getElem? (i:=0) rfl) (List.contains_iff_mem.1 AY);clear hp;refine Bp ?_;refine AO ?_ (Wild.Ai (HE _ _ (An.trans hx) xK));simp[go_sem,execOp]
 case htail=>
  intro g u Aw Az;have Ao:AA w3 (later u):=⟨u,rfl⟩;generalize later u=w4 at *;clear u Az;obtain ⟨TU,-⟩:=Aw _ (mem_of_getElem? (i:=0) rfl);(try dsimp only at TU)
  obtain ⟨iQ,-⟩:=Aw _ (mem_of_getElem? (i:=1) rfl);(try dsimp only at iQ)
  clear Aw;refine DH ?_;generalize g 6=v37 at *;generalize g 15=v46 at *;have Bl:=An.trans Ao;go_wp2_with fail;go_ret;exact ⟨_,rfl,Bl,iQ⟩
theorem xX(n:Nat):Tc n:=by
 induction n with
 |zero=>
  intro l r p lv rv bv fv w t hN ht hl hr hp fl fp fr hn;subst ht;have h3:=Tr.EH l;have h4:=Tr.EH r;rw[Tr.Ew _ _ _ AD AD];exact Sr l r p lv rv bv fv w hl hr hp fl fr hn AD AD
 |succ n ih=>
  intro l r p lv rv bv fv w t hN ht hl hr hp fl fp fr hn;subst ht;by_cases c1:r.Ad+2<l.Ad
  ·cases l with
   |nil=>simp[Tr.Ad]at c1
   |node a q b=>
    rw[Tr.EY _ _ _ _ _ c1];exact EY n ih a b r q p lv rv bv fv w (by simp only[Tr.np]at hN;omega) hl hr hp fl fp fr hn c1
  ·by_cases c2:l.Ad+2<r.Ad
   ·cases r with
    |nil=>simp[Tr.Ad]at c2
    |node a q b=>
     rw[Tr.Ds _ _ _ _ _ c1 c2];exact Ds n ih l a b q p rv lv bv fv w (by simp only[Tr.np]at hN;omega) hr hl hp fr fp fl hn c1 c2
   ·rw[Tr.Ew _ _ _ c1 c2];exact Sr l r p lv rv bv fv w hl hr hp fl fr hn c1 c2
theorem G8(l r:Tr)(p:Pc)(lv rv bv fv:Value)(w:World)(t:Tr)(ht:Tr.join l p r=t)(hl:CU w l lv)(hr:CU w r rv)(hp:EA w bv fv p)(fl:l.Fair)(fp:p.Fair)(fr:r.Fair)(hn:l.len+p.b.length+r.len<=90000):
 Calls prog 169 #[lv,GM bv fv p,rv] w (IB (Cx t) w):=xX _ l r p lv rv bv fv w t (le_refl _) ht hl hr hp fl fp fr hn
end Go.Proofs.YtamhnffokoejjaaGreatDoor
namespace Go.Proofs.YtamhnffokoejjaaGreatDoor
open List(mem_of_getElem? length_append append_assoc nil_sublist)
open Nat(le_refl)
open Go.Proofs.Tryz
section
def DL:Qs->Int
 |[]=>0
 |x::l=>x.1+DL l
def DG:Qs->Int
 |[]=>0
 |x::l=>x.2+DG l
theorem EC:∀a b:Qs,DL (a++b)=DL a+DL b
 |[],b=>by simp[DL]
 |x::a,b=>by rw[List.cons_append,DL,DL,EC a b];omega
theorem EO:∀a b:Qs,DG (a++b)=DG a+DG b
 |[],b=>by simp[DG]
 |x::a,b=>by rw[List.cons_append,DG,DG,EO a b];omega
def Zs(zt:Nat)(l:Qs):Int:=match zt with
 |0=>(l.length:Int)
 |1=>DL l
 |_=>DG l
theorem MQ(k:Nat)(a b:Qs):Zs k (a++b)=Zs k a+Zs k b:=by
 unfold Zs;split
 ·rw[length_append];omega
 ·exact EC a b
 ·exact EO a b
def D8(l:Qs):Prop:=∀x∈l,(0<=x.1/\x.1<=16777216)/\0<=x.2/\x.2<=16777216
theorem D8.nil:D8 []:=fun _ h=>by cases h
theorem D8.append{a b:Qs}(ha:D8 a)(hb:D8 b):D8 (a++b):=fun x hx=>(List.mem_append.1 hx).elim (ha x) (hb x)
theorem D8.left{a b:Qs}(h:D8 (a++b)):D8 a:=fun x hx=>h x (List.mem_append_left _ hx)
theorem D8.right{a b:Qs}(h:D8 (a++b)):D8 b:=fun x hx=>h x (List.mem_append_right _ hx)
theorem D8.take{a:Qs}(h:D8 a)(n:Nat):D8 (a.take n):=fun x hx=>h x (List.mem_of_mem_take hx)
theorem D8.drop{a:Qs}(h:D8 a)(n:Nat):D8 (a.drop n):=fun x hx=>h x (List.mem_of_mem_drop hx)
theorem D8.set{a:Qs}(h:D8 a){i:Nat}{x:Int × Int}(hx:(0<=x.1/\x.1<=16777216)/\0<=x.2/\x.2<=16777216):D8 (a.set i x):=fun y hy=>by
 rcases List.mem_or_eq_of_mem_set hy with h1|rfl
 ·exact h y h1
 ·exact hx
theorem D8.Ob:∀{l:Qs},D8 l->(0<=DL l/\DL l<=16777216*l.length)/\0<=DG l/\DG l<=16777216*l.length
 |[],_=>by simp[DL,DG]
 |x::l,h=>by
  have h1:=D8.Ob (l:=l) (fun y hy=>h y (List.mem_cons_of_mem _ hy));have h2:=h x (List.mem_cons_self ..);rw[DL,DG,List.length_cons];omega
theorem D8.cnt{l:Qs}(h:D8 l)(k:Nat):0<=Zs k l:=by
 have:=h.Ob
 unfold Zs;split <;> omega
inductive Ht where
 |nil
 |leaf (b:Nat) (l:Qs)
 |node (l r:Ht)
namespace Ht
def hs:Ht->Qs
 |nil=>[]
 |leaf _ l=>l
 |node l r=>l.hs++r.hs
def CW:Ht->List Nat
 |nil=>[]
 |leaf b _=>[b]
 |node l r=>l.CW++r.CW
def Ad:Ht->Nat
 |nil=>0
 |leaf _ _=>1
 |node l r=>1+max l.Ad r.Ad
def np:Ht->Nat
 |nil=>0
 |leaf _ _=>1
 |node l r=>l.np+1+r.np
def Full:Ht->Prop
 |nil=>True
 |leaf _ l=>0<l.length
 |node l r=>l≠nil/\r≠nil/\l.Full/\r.Full
def DQ:Ht->Prop
 |nil=>True
 |leaf _ _=>True
 |node l r=>l.Ad<=r.Ad+1/\r.Ad<=l.Ad+1/\l.DQ/\r.DQ
theorem EH:∀t:Ht,t.Ad<=t.np
 |nil=>le_refl _
 |leaf _ _=>le_refl _
 |node l r=>by
  have h1:=EH l;have h2:=EH r;unfold np Ad;omega
theorem D7{t:Ht}(h:t≠nil):1<=t.Ad:=by
 cases t with
 |nil=>exact absurd rfl h
 |leaf _ _=>exact le_refl _
 |node l r=>unfold Ad;omega
theorem hs_pos:∀{t:Ht},t.Full->t≠nil->0<t.hs.length
 |nil,_,h=>absurd rfl h
 |leaf _ _,h,_=>h
 |node l r,h,_=>by
  have:=hs_pos h.2.2.1 h.1
  rw[hs,length_append];omega
theorem Ys:∀{t:Ht},t.Full->t.Ad<=t.hs.length
 |nil,_=>le_refl _
 |leaf _ _,h=>h
 |node l r,h=>by
  have h1:=Ys h.2.2.1;have h2:=Ys h.2.2.2;have h3:=hs_pos h.2.2.1 h.1;have h4:=hs_pos h.2.2.2 h.2.1;rw[hs,length_append,Ad];omega
def turnR:Ht->Ht->Ht
 |node o (node a b),r=>if (node a b).Ad<=o.Ad then node o (node (node a b) r) else node (node o a) (node b r)
 |node o i,r=>node o (node i r)
 |l,r=>node l r
def turnL(l:Ht):Ht->Ht
 |node (node a b) o=>if (node a b).Ad<=o.Ad then node (node l (node a b)) o else node (node l a) (node b o)
 |node i o=>node (node l i) o
 |r=>node l r
def even(l r:Ht):Ht:=if r.Ad+1<l.Ad then turnR l r else if l.Ad+1<r.Ad then turnL l r else node l r
theorem E_(o a b r:Ht):turnR (node o (node a b)) r=if (node a b).Ad<=o.Ad then node o (node (node a b) r) else node (node o a) (node b r):=rfl
theorem E6(l a b o:Ht):turnL l (node (node a b) o)=if (node a b).Ad<=o.Ad then node (node l (node a b)) o else node (node l a) (node b o):=rfl
theorem turnR_hs(l r:Ht):(turnR l r).hs=l.hs++r.hs/\(turnR l r).CW=l.CW++r.CW:=by
 match l with
 |nil=>simp[turnR,hs,CW]
 |leaf _ _=>simp[turnR,hs,CW]
 |node o nil=>simp[turnR,hs,CW]
 |node o (leaf _ _)=>simp[turnR,hs,CW]
 |node o (node a b)=>rw[E_];split <;> simp[hs,CW]
theorem turnL_hs(l r:Ht):(turnL l r).hs=l.hs++r.hs/\(turnL l r).CW=l.CW++r.CW:=by
 match r with
 |nil=>simp[turnL,hs,CW]
 |leaf _ _=>simp[turnL,hs,CW]
 |node nil o=>simp[turnL,hs,CW]
 |node (leaf _ _) o=>simp[turnL,hs,CW]
 |node (node a b) o=>rw[E6];split <;> simp[hs,CW]
theorem even_hs(l r:Ht):(even l r).hs=l.hs++r.hs/\(even l r).CW=l.CW++r.CW:=by
 unfold even;split
 ·exact turnR_hs l r
 ·split
  ·exact turnL_hs l r
  ·exact ⟨rfl,rfl⟩
theorem even_even(l r:Ht)(hl:l.DQ)(hr:r.DQ)(fl:l.Full)(fr:r.Full)(nl:l≠nil)(nr:r≠nil)(h1:l.Ad<=r.Ad+2)(h2:r.Ad<=l.Ad+2):
 (even l r).DQ/\(even l r).Full/\even l r≠nil/\(l.Ad<=r.Ad+1->r.Ad<=l.Ad+1->(even l r).Ad=1+max l.Ad r.Ad)/\max l.Ad r.Ad<=(even l r).Ad/\(even l r).Ad<=1+max l.Ad r.Ad:=by
 have pr:=D7 nr;have pl:=D7 nl;unfold even;split
 ·rename_i hc
  match l,hl,fl with
  |nil,_,_=>exact absurd rfl nl
  |leaf _ _,_,_=>simp only[Ad]at hc;omega
  |node o nil,_,fl=>exact absurd rfl fl.2.1
  |node o (leaf x y),hl,fl=>
   have po:=D7 fl.1;simp only[DQ,Ad]at hl hc h1;refine ⟨⟨?_,?_,hl.2.2.1,?_,?_,trivial,hr⟩,⟨fl.1,Ar,fl.2.2.1,Ar,nr,fl.2.2.2,fr⟩,by simp[turnR],fun _ _=>?_,?_,?_⟩ <;> simp only[turnR,Ad]at * <;> omega
  |node o (node a b),hl,fl=>
   have po:=D7 fl.1;simp only[DQ,Ad]at hl hc h1 ⊢;rw[E_];split
   ·rename_i h
    simp only[Ad]at h;refine ⟨?_,⟨fl.1,Ar,fl.2.2.1,Ar,nr,fl.2.2.2,fr⟩,Ar,?_⟩
    ·simp only[DQ,Ad];refine ⟨?_,?_,hl.2.2.1,?_,?_,hl.2.2.2,hr⟩ <;> omega
    ·simp only[Ad];omega
   ·rename_i h
    simp only[Ad]at h;refine ⟨?_,⟨Ar,Ar,⟨fl.1,fl.2.2.2.1,fl.2.2.1,fl.2.2.2.2.2.1⟩,fl.2.2.2.2.1,nr,fl.2.2.2.2.2.2,fr⟩,Ar,?_⟩
    ·simp only[DQ,Ad];refine ⟨?_,?_,⟨?_,?_,hl.2.2.1,hl.2.2.2.2.2.1⟩,?_,?_,hl.2.2.2.2.2.2,hr⟩ <;> omega
    ·simp only[Ad];omega
 ·rename_i hc
  split
  ·rename_i hd
   match r,hr,fr with
   |nil,_,_=>exact absurd rfl nr
   |leaf _ _,_,_=>simp only[Ad]at hd;omega
   |node nil o,_,fr=>exact absurd rfl fr.1
   |node (leaf x y) o,hr,fr=>
    have po:=D7 fr.2.1;simp only[DQ,Ad]at hr hd h2;refine ⟨⟨?_,?_,⟨?_,?_,hl,trivial⟩,hr.2.2.2⟩,⟨Ar,fr.2.1,⟨nl,Ar,fl,fr.2.2.1⟩,fr.2.2.2⟩,by simp[turnL],fun _ _=>?_,?_,?_⟩ <;> simp only[turnL,Ad]at * <;> omega
   |node (node a b) o,hr,fr=>
    have po:=D7 fr.2.1;simp only[DQ,Ad]at hr hd h2 hc ⊢;rw[E6];split
    ·rename_i h
     simp only[Ad]at h;refine ⟨?_,⟨Ar,fr.2.1,⟨nl,Ar,fl,fr.2.2.1⟩,fr.2.2.2⟩,Ar,?_⟩
     ·simp only[DQ,Ad];refine ⟨?_,?_,⟨?_,?_,hl,hr.2.2.1⟩,hr.2.2.2⟩ <;> omega
     ·simp only[Ad];omega
    ·rename_i h
     simp only[Ad]at h;refine ⟨?_,⟨Ar,Ar,⟨nl,fr.2.2.1.1,fl,fr.2.2.1.2.2.1⟩,fr.2.2.1.2.1,fr.2.1,fr.2.2.1.2.2.2,fr.2.2.2⟩,Ar,?_⟩
     ·simp only[DQ,Ad];refine ⟨?_,?_,⟨?_,?_,hl,hr.2.2.1.2.2.1⟩,?_,?_,hr.2.2.1.2.2.2,hr.2.2.2⟩ <;> omega
     ·simp only[Ad];omega
  ·exact ⟨⟨AD,AD,hl,hr⟩,⟨nl,nr,fl,fr⟩,Ar,fun _ _=>by simp only[Ad],by simp only[Ad];omega,by simp only[Ad];omega⟩
def join(l r:Ht):Ht:=
 if l.Ad=0 then r else if r.Ad=0 then l
 else if r.Ad+1<l.Ad then
  match l with
  |node a b=>even a (join b r)
  |l=>node l r
 else if l.Ad+1<r.Ad then
  match r with
  |node a b=>even (join l a) b
  |r=>node l r
 else node l r
termination_by l.np+r.np
decreasing_by all_goals (simp only[np];omega)
theorem DO(r:Ht):join nil r=r:=by rw[join.eq_def,if_pos (show nil.Ad=0 from rfl)]
theorem Mq{t:Ht}(h:t.Ad=0):t=nil:=by
 cases t with
 |nil=>rfl
 |leaf _ _=>cases h
 |node l r=>unfold Ad at h;omega
theorem Hu(l:Ht):join l nil=l:=by
 by_cases h:l.Ad=0
 ·rw[Mq h,DO]
 ·rw[join.eq_def,if_neg h,if_pos (show nil.Ad=0 from rfl)]
theorem EY(a b r:Ht)(h0:r≠nil)(h:r.Ad+1<(node a b).Ad):join (node a b) r=even a (join b r):=by
 have:=D7 h0
 rw[join.eq_def,if_neg AD,if_neg AD,if_pos h]
theorem Ds(l a b:Ht)(h0:l≠nil)(h:¬(node a b).Ad+1<l.Ad)(h2:l.Ad+1<(node a b).Ad):join l (node a b)=even (join l a) b:=by
 have:=D7 h0
 rw[join.eq_def,if_neg AD,if_neg AD,if_neg h,if_pos h2]
theorem Ew(l r:Ht)(h0:l≠nil)(h3:r≠nil)(h:¬r.Ad+1<l.Ad)(h2:¬l.Ad+1<r.Ad):join l r=node l r:=by
 have:=D7 h0
 have:=D7 h3
 rw[join.eq_def,if_neg AD,if_neg AD,if_neg h,if_neg h2]
theorem join_hs_n:∀(n:Nat) (l r:Ht),l.np+r.np<=n->(join l r).hs=l.hs++r.hs/\(join l r).CW=l.CW++r.CW:=by
 intro n
 induction n with
 |zero=>
  intro l r h;have h3:=EH l;rw[Mq (t:=l) AD,DO];exact ⟨rfl,rfl⟩
 |succ n ih=>
  intro l r h;by_cases l0:l=nil
  ·rw[l0,DO];exact ⟨rfl,rfl⟩
  ·by_cases r0:r=nil
   ·rw[r0,Hu];simp[hs,CW]
   ·by_cases h1:r.Ad+1<l.Ad
    ·match l,l0 with
     |nil,l0=>exact absurd rfl l0
     |leaf _ _,_=>simp only[Ad]at h1;omega
     |node a b,_=>
      have i:=ih b r (by simp only[np]at h;omega);rw[EY _ _ _ r0 h1,(even_hs _ _).1,(even_hs _ _).2,i.1,i.2];simp[hs,CW]
    ·by_cases h2:l.Ad+1<r.Ad
     ·match r,r0 with
      |nil,r0=>exact absurd rfl r0
      |leaf _ _,_=>simp only[Ad]at h2;omega
      |node a b,_=>
       have i:=ih l a (by simp only[np]at h;omega);rw[Ds _ _ _ l0 h1 h2,(even_hs _ _).1,(even_hs _ _).2,i.1,i.2];simp[hs,CW]
     ·rw[Ew _ _ l0 r0 h1 h2];exact ⟨rfl,rfl⟩
theorem IH(l r:Ht):(join l r).hs=l.hs++r.hs:=(join_hs_n _ l r (le_refl _)).1
theorem GX(l r:Ht):(join l r).CW=l.CW++r.CW:=(join_hs_n _ l r (le_refl _)).2
def Cd(t:Ht):Prop:=t.DQ/\t.Full
theorem KR:∀(n:Nat) (l r:Ht),l.np+r.np<=n->l.Cd->r.Cd->(join l r).Cd/\(l≠nil->join l r≠nil)/\(r≠nil->join l r≠nil)/\max l.Ad r.Ad<=(join l r).Ad/\(join l r).Ad<=1+max l.Ad r.Ad:=by
 intro n
 induction n with
 |zero=>
  intro l r h hl hr;have h3:=EH l;rw[Mq (t:=l) AD,DO];exact ⟨hr,fun h=>absurd rfl h,fun h=>h,by simp only[Ad];omega,by simp only[Ad];omega⟩
 |succ n ih=>
  intro l r h hl hr;by_cases l0:l=nil
  ·rw[l0,DO];exact ⟨hr,fun h=>absurd rfl h,fun h=>h,by simp only[Ad];omega,by simp only[Ad];omega⟩
  ·by_cases r0:r=nil
   ·rw[r0,Hu];exact ⟨hl,fun h=>h,fun h=>absurd rfl h,by simp only[Ad];omega,by simp only[Ad];omega⟩
   ·by_cases h1:r.Ad+1<l.Ad
    ·match l,l0,hl with
     |nil,l0,_=>exact absurd rfl l0
     |leaf _ _,_,_=>simp only[Ad]at h1;omega
     |node a b,_,⟨el,fl⟩=>
      rw[EY _ _ _ r0 h1];obtain ⟨i1,i2,i3,i4,i5⟩:=ih b r (by simp only[np]at h;omega) ⟨el.2.2.2,fl.2.2.2⟩ hr;obtain ⟨e1,e2,e3,e4⟩:=el;simp only[Ad]at h1 ⊢;obtain ⟨k1,k2,k3,k4,k5,k6⟩:=even_even a (join b r) e3 i1.1 fl.2.2.1 i1.2 fl.1 (i3 r0) AD AD;refine ⟨⟨k1,k2⟩,fun _=>k3,fun _=>k3,?_,?_⟩
      ·by_cases hh:(join b r).Ad<=a.Ad+1
       ·have:=k4 AD hh;omega
       ·omega
      ·omega
    ·by_cases h2:l.Ad+1<r.Ad
     ·match r,r0,hr with
      |nil,r0,_=>exact absurd rfl r0
      |leaf _ _,_,_=>simp only[Ad]at h2;omega
      |node a b,_,⟨er,fr⟩=>
       rw[Ds _ _ _ l0 h1 h2];obtain ⟨i1,i2,i3,i4,i5⟩:=ih l a (by simp only[np]at h;omega) hl ⟨er.2.2.1,fr.2.2.1⟩;obtain ⟨e1,e2,e3,e4⟩:=er;simp only[Ad]at h2 ⊢;obtain ⟨k1,k2,k3,k4,k5,k6⟩:=even_even (join l a) b i1.1 e4 i1.2 fr.2.2.2 (i2 l0) fr.2.1 AD AD;refine ⟨⟨k1,k2⟩,fun _=>k3,fun _=>k3,?_,?_⟩
       ·by_cases hh:(join l a).Ad<=b.Ad+1
        ·have:=k4 hh AD;omega
        ·omega
       ·omega
     ·rw[Ew _ _ l0 r0 h1 h2];refine ⟨⟨⟨AD,AD,hl.1,hr.1⟩,l0,r0,hl.2,hr.2⟩,fun _=>by simp,fun _=>by simp,?_⟩;simp only[Ad];omega
theorem Cd.join{l r:Ht}(hl:l.Cd)(hr:r.Cd):(join l r).Cd:=(KR _ l r (le_refl _) hl hr).1
theorem Cd.nil:Cd nil:=⟨trivial,trivial⟩
theorem Cd.left{l r:Ht}(h:(node l r).Cd):l.Cd:=⟨h.1.2.2.1,h.2.2.2.1⟩
theorem Cd.right{l r:Ht}(h:(node l r).Cd):r.Cd:=⟨h.1.2.2.2,h.2.2.2.2⟩
def ahead:Ht->Nat->Ht × Qs
 |nil,_=>(nil,[])
 |leaf _ l,i=>(nil,l.take i)
 |node l r,i=>if i<=l.hs.length then ahead l i else (join l (ahead r (i-l.hs.length)).1,(ahead r (i-l.hs.length)).2)
def behind:Ht->Nat->Qs × Ht
 |nil,_=>([],nil)
 |leaf _ l,i=>(l.drop i,nil)
 |node l r,i=>if l.hs.length<=i then behind r (i-l.hs.length) else ((behind l i).1,join (behind l i).2 r)
theorem Mh:∀(t:Ht) (i:Nat),(ahead t i).1.hs++(ahead t i).2=t.hs.take i
 |nil,i=>by simp[ahead,hs]
 |leaf _ l,i=>by simp[ahead,hs]
 |node l r,i=>by
  unfold ahead;split
  ·rename_i h
   rw[Mh l i,hs,List.take_append_of_le_length h]
  ·rename_i h
   have e:i=l.hs.length+(i-l.hs.length):=AD;rw[IH,append_assoc,Mh r,hs]
   conv=>rhs;rw[e,List.take_length_add_append]
theorem LE:∀(t:Ht) (i:Nat),(behind t i).1++(behind t i).2.hs=t.hs.drop i
 |nil,i=>by simp[behind,hs]
 |leaf _ l,i=>by simp[behind,hs]
 |node l r,i=>by
  unfold behind;split
  ·rename_i h
   have e:i=l.hs.length+(i-l.hs.length):=AD;rw[LE r,hs]
   conv=>rhs;rw[e,List.drop_length_add_append]
  ·rename_i h
   rw[IH,<-append_assoc,LE l,hs,List.drop_append_of_le_length AD]
theorem Jh:∀(t:Ht) (i:Nat),t.Cd->(ahead t i).1.Cd
 |nil,i,_=>Cd.nil
 |leaf _ l,i,_=>Cd.nil
 |node l r,i,h=>by
  unfold ahead;split
  ·exact Jh l i h.left
  ·exact h.left.join (Jh r _ h.right)
theorem IM:∀(t:Ht) (i:Nat),t.Cd->(behind t i).2.Cd
 |nil,i,_=>Cd.nil
 |leaf _ l,i,_=>Cd.nil
 |node l r,i,h=>by
  unfold behind;split
  ·exact IM r _ h.right
  ·exact (IM l i h.left).join h.right
theorem ahead_bks:∀(t:Ht) (i:Nat),(ahead t i).1.CW.Sublist t.CW
 |nil,i=>List.Sublist.refl _
 |leaf _ l,i=>nil_sublist _
 |node l r,i=>by
  unfold ahead;rw[CW];split
  ·exact (ahead_bks l i).trans (List.sublist_append_left _ _)
  ·rw[GX];exact (List.Sublist.refl _).append (ahead_bks r _)
theorem behind_bks:∀(t:Ht) (i:Nat),(behind t i).2.CW.Sublist t.CW
 |nil,i=>List.Sublist.refl _
 |leaf _ l,i=>nil_sublist _
 |node l r,i=>by
  unfold behind;rw[CW];split
  ·exact (behind_bks r _).trans (List.sublist_append_right _ _)
  ·rw[GX];exact (behind_bks l i).append (List.Sublist.refl _)
theorem MD:∀(t:Ht) (i j:Nat),i<=j->((ahead t i).1.CW++(behind t j).2.CW).Sublist t.CW
 |nil,i,j,_=>List.Sublist.refl _
 |leaf _ l,i,j,_=>nil_sublist _
 |node l r,i,j,Fr=>by
  unfold ahead behind;rw[CW];split
  ·split
   ·exact (ahead_bks l i).append (behind_bks r _)
   ·rw[GX,<-append_assoc];exact (MD l i j Fr).append (List.Sublist.refl _)
  ·rw[if_pos AD,GX,append_assoc];exact (List.Sublist.refl _).append (MD r _ _ AD)
def setT:Ht->Nat->Int × Int->Ht
 |nil,_,_=>nil
 |leaf b l,i,x=>leaf b (l.set i x)
 |node l r,i,x=>if i<l.hs.length then node (setT l i x) r else node l (setT r (i-l.hs.length) x)
theorem Gq:∀(t:Ht) (i:Nat) (x:Int × Int),(setT t i x).hs=t.hs.set i x
 |nil,i,x=>by simp[setT,hs]
 |leaf _ l,i,x=>by simp[setT,hs]
 |node l r,i,x=>by
  unfold setT;split
  ·rename_i h
   rw[hs,hs,Gq l i x,List.set_append_left _ _ h]
  ·rename_i h
   rw[hs,hs,Gq r _ x,List.set_append_right _ _ AD]
theorem GD:∀(t:Ht) (i:Nat) (x:Int × Int),(setT t i x).CW=t.CW/\(setT t i x).Ad=t.Ad/\((setT t i x)=nil↔t=nil)/\(t.Cd->(setT t i x).Cd)
 |nil,i,x=>⟨rfl,rfl,Iff.rfl,id⟩
 |leaf b l,i,x=>⟨rfl,rfl,by simp[setT],fun h=>⟨trivial,by
  have:0<l.length:=h.2
  simpa[setT,Full] using this⟩⟩
 |node l r,i,x=>by
  unfold setT;split
  ·obtain ⟨h1,h2,h3,h4⟩:=GD l i x;refine ⟨by rw[CW,CW,h1],by rw[Ad,Ad,h2],Ar,fun h=>?_⟩;have q:=h4 h.left;exact ⟨⟨by rw[h2];exact h.1.1,by rw[h2];exact h.1.2.1,q.1,h.1.2.2.2⟩,fun e=>h.2.1 (h3.1 e),h.2.2.1,q.2,h.2.2.2.2⟩
  ·obtain ⟨h1,h2,h3,h4⟩:=GD r (i-l.hs.length) x;refine ⟨by rw[CW,CW,h1],by rw[Ad,Ad,h2],Ar,fun h=>?_⟩;have q:=h4 h.right;exact ⟨⟨by rw[h2];exact h.1.1,by rw[h2];exact h.1.2.1,h.1.2.2.1,q.1⟩,h.2.1,fun e=>h.2.2.1 (h3.1 e),h.2.2.2.1,q.2⟩
end Ht
def I0(n:Nat):Nat:=if n=0 then 0 else if n<=32 then 1 else 1+I0 (n-n/2)
decreasing_by omega
theorem JF{n:Nat}(h:0<n)(h2:n<=32):I0 n=1:=by rw[I0,if_neg AD,if_pos h2]
theorem NP{n:Nat}(h:32<n):I0 n=1+I0 (n-n/2):=by rw[I0,if_neg AD,if_neg AD]
theorem cZ:∀n:Nat,I0 n<=I0 (n+1)/\I0 (n+1)<=I0 n+1:=by
 intro n
 induction n using Nat.strongRecOn with
 |ind n ih=>
  rcases Nat.lt_or_ge n 32 with h|h
  ·rw[JF (n:=n+1) AD AD];rcases Nat.eq_zero_or_pos n with rfl|hp
   ·rw[show I0 0=0 by rw[I0];rfl];omega
   ·rw[JF (n:=n) hp AD];omega
  ·rw[NP (n:=n+1) AD];rcases Nat.eq_or_lt_of_le h with rfl|h2
   ·rw[JF (n:=32) AD AD,JF (n:=32+1-(32+1)/2) AD AD];omega
   ·rw[NP (n:=n) AD];rcases Nat.mod_two_eq_zero_or_one n with hm|hm
    ·have e:n+1-(n+1)/2=(n-n/2)+1:=AD;rw[e];have:=ih (n-n/2) AD
     omega
    ·have e:n+1-(n+1)/2=n-n/2:=AD;rw[e];omega
theorem eP{n:Nat}:I0 (n/2)<=I0 (n-n/2)/\I0 (n-n/2)<=I0 (n/2)+1:=by
 rcases Nat.mod_two_eq_zero_or_one n with hm|hm
 ·have e:n-n/2=n/2:=AD;rw[e];omega
 ·have e:n-n/2=n/2+1:=AD;rw[e];have:=cZ (n/2)
  omega
end
end Go.Proofs.YtamhnffokoejjaaGreatDoor
