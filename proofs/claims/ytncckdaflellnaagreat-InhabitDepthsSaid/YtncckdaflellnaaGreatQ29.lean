import Derived.Test.YtncckdaflellnaaGreatProg
import Derived.Shelf.SlSortCmp.NoneTotal
import Derived.Shelf.SlicesE.Clone
import Derived.Test.YtncckdaflellnaaGreatQ28
import Derived.Test.YtncckdaflellnaaGreatQ25
import Derived.Test.YtncckdaflellnaaGreatQ27
set_option linter.all false
set_option maxRecDepth 100000
set_option maxHeartbeats 4000000
namespace Go.Proofs.YtncckdaflellnaaGreat
open Go.Shelf
def cloneEd_ren:Go.Shelf.Ren:=⟨fun|41=>86|n=>n,fun|22=>72|23=>85|4=>4|n=>n,fun|n=>n⟩
theorem cloneEd:Go.Proofs.SlLaysE0.n41 Tryz.prog cloneEd_ren:={
mixed:=by kernel_rfl
f41:=⟨Tryz.f86.name,by decide,Tryz.func86.trans (congrArg some (by kernel_rfl))⟩
t4:=Tryz.underlying4
a4:=Tryz.isAgg4
z4:=Tryz.sizeOf4
v4:=Tryz.zeroValue4
t22:=Tryz.underlying72
a22:=Tryz.isAgg72
z22:=Tryz.sizeOf72
v22:=Tryz.zeroValue72 }
end Go.Proofs.YtncckdaflellnaaGreat
namespace Go.Proofs.YtncckdaflellnaaGreat.Res
open Go.RowKit Go.Lib Utf Nam Lat Kin Unp Rel Lab
theorem plennil_calls(w:World)(R:Ending→World→Prop)(hR:Hid (R (.returned (.int .i64 0)) w)):Calls Tryz.prog 38 #[.pointer none] w R:=by
 go_enter Tryz.func38,Tryz.ntmps38
 go_wp2_with fail
 exact hR.out
theorem PlanP.op{w:World}{v:Value}{nm:List ByteArray}{F:Nat→Nat→Bool}{ns:List ByteArray}{x:List NdR×Int×List Int}(h:PlanP w v nm F ns x):∃(P:Nat)(lv tab:Value)(A Z:Option Addr)(c z:Nat)(xs:List Nv),v=.pointer (some ⟨P,0,none⟩)∧w.heap[P]?=some (.cells #[lv,.slice A x.1.length c,.int .i64 x.2.1,tab,.slice Z x.2.2.length z] 123)∧LatP w lv nm F∧RdT w tab ns∧xs.map (·.1)=x.1∧(∀y∈xs,(RdS w y.2.1 y.1.names∧RdEd w y.2.2 y.1.edges)∧Shp y.2.1∧Shp y.2.2) ∧
  (0<xs.length→∃g o,A=some ⟨g,o,none⟩∧g<w.heap.size∧∀i (hi:i<xs.length) j,j<7→w.cell? ⟨g,o+i*7+j,none⟩=(encN xs[i])[j]?)∧RdAt w (.slice Z x.2.2.length z) 1 (ints x.2.2):=by
 obtain⟨P,lv,nv,tab,zv,xs,e,hb,hl,ht,hn,hx,hr,hz⟩:=h;have hn':RdG encN 7 w nv xs:=hn;obtain⟨A,c,rfl,-,hA⟩:=RdG.open encN_len (by decide) hn';have hlen:xs.length=x.1.length:=by rw [←hx,List.length_map]
 have hz2:=hz;obtain⟨Z,n,z,rfl,hzl,-,-⟩:=hz2;obtain rfl:n=x.2.2.length:=by simpa [ints]using hzl.symm
 rw [hlen]at hb;exact⟨P,lv,tab,A,Z,c,z,xs,e,hb,hl,ht,hx,hr,hA,hz⟩
theorem plen_calls{w:World}{v:Value}{nm:List ByteArray}{F:Nat→Nat→Bool}{ns:List ByteArray}{x:List NdR×Int×List Int}(h:PlanP w v nm F ns x)(R:Ending→World→Prop)(hR:Hid (R (.returned (.int .i64 x.1.length)) w)):Calls Tryz.prog 38 #[v] w R:=by
 obtain⟨P,lv,tab,A,Z,c,z,xs,rfl,hb,-,-,-,-,-,-⟩:=h.op;have c1:=(Lib.cell_of_heap hb 1).trans rfl;clear hb h;go_enter Tryz.func38,Tryz.ntmps38
 go_wp2_with fail
 exact hR.out
theorem proot_calls{w:World}{v:Value}{nm:List ByteArray}{F:Nat→Nat→Bool}{ns:List ByteArray}{x:List NdR×Int×List Int}(h:PlanP w v nm F ns x)(R:Ending→World→Prop)(hR:Hid (R (.returned (.int .i64 x.2.1)) w)):Calls Tryz.prog 26 #[v] w R:=by
 obtain⟨P,lv,tab,A,Z,c,z,xs,rfl,hb,-,-,-,-,-,-⟩:=h.op;have c1:=(Lib.cell_of_heap hb 2).trans rfl;clear hb h;go_enter Tryz.func26,Tryz.ntmps26
 go_wp2_with fail
 exact hR.out
theorem node_alloc(ρ:Operand→Value)(W:World)(o:Oper)(h:o.op=.alloc 74):(execOp ρ o).run Tryz.prog W=.ok (.value (ptA W.heap.size)) (W.alloc (.cells #[.int .i64 0,.int .i64 0,.int .i64 0,.int .i64 0,.int .i64 0,.slice none 0 0,.slice none 0 0] 74)):=by
 simp [execOp,h,go_sem,ptA]
theorem cloneE_calls(l:List EdR)(v:Value)(w:World)(hx:RdEd w v l)(hv:Shp v)(hl:l.length≤1000000)(R:Ending→World→Prop)(hR:Hid (∀v' w',w'.ownsRow w.heap.size 85 10 v' l.length (flatG encE l)→Below w.heap.size w w'→R (.returned v') w')):Calls Tryz.prog 86 #[v] w R:=by
 obtain⟨i0,hi,hZ⟩:=edge_info;simp only[Prod.mk.injEq]at hZ;obtain⟨hz0,hz1,hz2⟩:=hZ;have hlen:(flatG encE l).length=l.length*10:=flatG_len encE_len l;have hx2:RdAt w v 10 (flatG encE l):=hx;obtain⟨A,n,c,e,h1,h2,h3⟩:=hx2;obtain rfl:n=l.length:=by omega
 rcases hv with e2|⟨g,o,n,c2,e2⟩
 ·rw [e2]at e
  simp only[Value.slice.injEq]at e;obtain⟨rfl,hz,rfl⟩:=e;obtain rfl:=List.eq_nil_of_length_eq_zero hz.symm;subst e2;have:=AnyE.slices_Clone_nil YtncckdaflellnaaGreat.cloneEd 0 0 w
  change Calls Tryz.prog 86 _ _ _ at this
  refine this.mono ?_
  rintro e w' ⟨rfl,rfl⟩
  exact hR.out _ _ (World.ownsRow_nil _ _ _ _) (Below.refl _ _)
 ·rw [e2]at e
  simp only[Value.slice.injEq]at e;obtain⟨rfl,rfl,rfl⟩:=e;subst e2
  have hcell:∀j u,(flatG encE l)[j]?=some u→w.cell? ⟨g,o+j,none⟩=some u:=fun j u hj=>by
   obtain⟨g',o',e,-,hca⟩:=h3 (by have:=(List.getElem?_eq_some_iff.1 hj).1;omega)
   simp only[Option.some.injEq,Addr.mk.injEq,and_true]at e;obtain⟨rfl,rfl⟩:=e;exact hca j u hj
  have hone:∀u∈flatG encE l,u.oneCell'=true:=fun u hu=>by
   simp only[flatG,List.mem_flatMap,encE,List.mem_cons,List.not_mem_nil,or_false]at hu;obtain⟨x,_,rfl|rfl|rfl|rfl|rfl|rfl|rfl|rfl|rfl|rfl⟩:=hu<;>rfl
  have:=AnyE.slices_Clone YtncckdaflellnaaGreat.cloneEd i0 (.agg #[.string ⟨#[]⟩,.bool false,.int .i64 0,.int .i64 0,.int .i64 0,.int .i64 0,.int .i64 0,.int .i64 0,.int .i64 0,.int .i64 0]) 10 88 hi hz0 hz1 hz2 rfl (by decide) Tryz.sizeOf85 g o l.length c2 (flatG encE l) w hlen (by unfold maxLen;omega) (by omega) hcell hone
  change Calls Tryz.prog 86 _ _ _ at this
  refine this.mono ?_
  rintro e w' ⟨v',rfl,hown,-,hb⟩
  exact hR.out _ _ hown hb
theorem cloneS_calls(l:List ByteArray)(v:Value)(w:World)(hx:RdS w v l)(hv:Shp v)(hl:l.length≤1000000)(R:Ending→World→Prop)(hR:Hid (∀v' w',w'.ownsRow w.heap.size 9 1 v' l.length (sv l)→Below w.heap.size w w'→R (.returned v') w')):Calls Tryz.prog 85 #[v] w R:=by
 obtain⟨i0,hi,hZ⟩:=str_info;simp only[Prod.mk.injEq]at hZ;obtain⟨hz0,hz1,hz2⟩:=hZ;have hlen:(sv l).length=l.length:=sv_len l;have hx2:RdAt w v 1 (sv l):=hx;obtain⟨A,n,c,e,h1,h2,h3⟩:=hx2;obtain rfl:n=l.length:=by omega
 rcases hv with e2|⟨g,o,n,c2,e2⟩
 ·rw [e2]at e
  simp only[Value.slice.injEq]at e;obtain⟨rfl,hz,rfl⟩:=e;obtain rfl:=List.eq_nil_of_length_eq_zero hz.symm;subst e2;have:=AnyE.slices_Clone_nil YtncckdaflellnaaGreat.cloneStr 0 0 w
  change Calls Tryz.prog 85 _ _ _ at this
  refine this.mono ?_
  rintro e w' ⟨rfl,rfl⟩
  exact hR.out _ _ (World.ownsRow_nil _ _ _ _) (Below.refl _ _)
 ·rw [e2]at e
  simp only[Value.slice.injEq]at e;obtain⟨rfl,rfl,rfl⟩:=e;subst e2
  have hcell:∀j u,(sv l)[j]?=some u→w.cell? ⟨g,o+j,none⟩=some u:=fun j u hj=>by
   obtain⟨g',o',e,-,hca⟩:=h3 (by have:=(List.getElem?_eq_some_iff.1 hj).1;omega)
   simp only[Option.some.injEq,Addr.mk.injEq,and_true]at e;obtain⟨rfl,rfl⟩:=e;exact hca j u hj
  have:=AnyE.slices_Clone YtncckdaflellnaaGreat.cloneStr i0 (.string ⟨#[]⟩) 1 16 hi hz0 hz1 hz2 rfl (by decide) Tryz.sizeOf9 g o l.length c2 (sv l) w (by rw [sv_len,Nat.mul_one]) (by unfold maxLen;omega) (by omega) hcell (fun u hu=>by simp only[sv,List.mem_map]at hu;obtain⟨s,-,rfl⟩:=hu;rfl)
  change Calls Tryz.prog 85 _ _ _ at this
  refine this.mono ?_
  rintro e w' ⟨v',rfl,hown,-,hb⟩
  exact hR.out _ _ hown hb
theorem pnodeo_calls{w:World}{v:Value}{nm:List ByteArray}{F:Nat→Nat→Bool}{ns:List ByteArray}{x:List NdR×Int×List Int}(h:PlanP w v nm F ns x)(hb1:∀y∈x.1,y.names.length≤1000000∧y.edges.length≤1000000)(I:Nat)(hI:I<x.1.length)(R:Ending→World→Prop)
  (hR:Hid (∀w' nv ev y,x.1[I]?=some y→w'.ownsRow w.heap.size 9 1 nv y.names.length (sv y.names)→w'.ownsRow w.heap.size 85 10 ev y.edges.length (flatG encE y.edges)→Below w.heap.size w w'→R (.returned (.tuple #[.agg #[.int .i64 y.kind,.int .i64 y.at_,.int .i64 y.lo,.int .i64 y.hi,.int .i64 y.most,nv,ev],.bool true])) w')):Calls Tryz.prog 40 #[v,.int .i64 I] w R:=by
 obtain⟨P,lv,tab,A,Z,c,z,xs,rfl,hbx,-,-,hx,hr,hA,-⟩:=h.op;have hlen:xs.length=x.1.length:=by rw [←hx,List.length_map]
 obtain⟨g,o,rfl,hg,hca0⟩:=hA (by omega);have hIx:I<xs.length:=by omega
 have hca:=hca0 I hIx;have hy1:x.1[I]?=some (xs[I]).1:=by rw [←hx,List.getElem?_map,List.getElem?_eq_getElem hIx];rfl
 have hry:=hr _ (List.getElem_mem hIx);have hby:=hb1 _ (List.mem_of_getElem? hy1);clear hca0 hA hr hb1 hx;generalize xs[I]=y at *;obtain⟨⟨k0,k1,k2,k3,k4,ns_,es_⟩,nv,ev⟩:=y;simp only at hy1 hry hby;obtain⟨⟨rS,rE⟩,sh1,sh2⟩:=hry;obtain⟨A3,c3,rfl,-⟩:=rS.open;obtain⟨A4,c4,rfl,-⟩:=RdG.open encE_len (by decide) (show RdG encE 10 w ev es_ from rE);have m0:=F0.z w;obtain⟨V,e1,n,z1⟩:=m0.new (.cells #[.int .i64 0,.int .i64 0,.int .i64 0,.int .i64 0,.int .i64 0,.slice none 0 0,.slice none 0 0] 74);clear m0 z1;have hG:=n.b 0 rfl;have eS:=setRow_self V w.heap.size #[.int .i64 0,.int .i64 0,.int .i64 0,.int .i64 0,.int .i64 0,.slice none 0 0,.slice none 0 0] 74 (0,0) hG;have w0_:=n.c 0 0 rfl rfl;have w1_:=n.c 0 1 rfl rfl;have w2_:=n.c 0 2 rfl rfl;have w3_:=n.c 0 3 rfl rfl;have w4_:=n.c 0 4 rfl rfl;have w5_:=n.c 0 5 rfl rfl;have w6_:=n.c 0 6 rfl rfl;have hb:=F0.bel n;have lV:=n.lt 0 rfl;have hbV:=(hb.block P (hp_lt hbx)).trans hbx;have c1:=(Lib.cell_of_heap hbV 1).trans rfl;have planV:=Lib.hid (h.below hb)
 have rg:V.rangeAt g (o+I*7) [.int .i64 k0,.int .i64 k1,.int .i64 k2,.int .i64 k3,.int .i64 k4,.slice A3 ns_.length c3,.slice A4 es_.length c4]:=fun j u e=>by
  have hj:j<7:=(List.getElem?_eq_some_iff.1 e).1;rw [hb.cell (p:=⟨g,o+I*7+j,none⟩) hg,hca j hj];exact e
 clear hca h hbx hlen;go_enter Tryz.func40,Tryz.ntmps40
 go_upto_region 1 with fail
 clear e1;have q0:¬(I:Int)<0:=by omega
 have i0:(0:Int)≤(I:Int):=by omega
 have i1:(I:Int)<(x.1.length:Int):=by omega
 have q1:¬(x.1.length:Int)≤(I:Int):=by omega
 go_wp2_with fail
 refine plen_calls planV.out _ (Lib.hid ?_);go_upto_region 3 with fail
 obtain⟨V3,e3,n,z3⟩:=n.new (.cells [.int .i64 k0,.int .i64 k1,.int .i64 k2,.int .i64 k3,.int .i64 k4,.slice A3 ns_.length c3,.slice A4 es_.length c4].toArray 74);go_upto_region 4 with(first|(refine wpList_load_g (by rfl) 74 _ rfl g (o+I*7) rfl _ _ rg Tryz.underlying74 rfl (by kernel_rfl) ?_;go_simp)|(refine wpList_copy [.int .i64 k0,.int .i64 k1,.int .i64 k2,.int .i64 k3,.int .i64 k4,.slice A3 ns_.length c3,.slice A4 es_.length c4].toArray ⟨rfl,rfl,rfl⟩ ⟨rfl,rfl,rfl⟩ node_alloc (by kernel_rfl) ⟨rfl,by simp [Value.oneCell']⟩ (fun _=>⟨rfl,rfl⟩) ?_;go_simp))
 clear e3 z3 rg planV c1 hbV hG eS w0_ w1_ w2_ w3_ w4_ w5_ w6_;have hb3:=F0.bel n;have t5:=n.c 0 5 rfl rfl;go_wp2_with fail
 refine cloneS_calls ns_ _ V3 (rS.below hb3) sh1 hby.1 _ (Lib.hid fun v5 W5 o5 m5=>?_);have l3:=n.lt 0 rfl;replace n:=n.bl m5;clear t5;obtain⟨B5,d5,rfl⟩:=own_sl2 o5;have t5:=n.c 0 5 rfl rfl;have tf5:=n.f 0 5 rfl;obtain⟨V6,e6,n6,z6⟩:=n.put (j:=0) rfl [(5,.slice B5 ns_.length d5)];simp only[stL]at e6;simp only[stA,List.setIfInBounds_toArray,List.set_cons_succ,List.set_cons_zero]at n6
 have o6:V6.ownsRow V3.heap.size 9 1 (.slice B5 ns_.length d5) ns_.length (sv ns_):=ownKp o5 fun k q hk=>by
  rw [←e6];exact hp_sne (by omega)
 clear n;have n:=n6;clear n6;go_upto_region 5 with fail
 clear t5 tf5 e6 o5;have t6:=n.c 0 6 rfl rfl;go_wp2_with fail
 refine cloneE_calls es_ _ V6 (RdAt.below rE (F0.bel n)) sh2 hby.2 _ (Lib.hid fun v7 W7 o7 m7=>?_);replace n:=n.bl m7;have o8:W7.ownsRow V3.heap.size 9 1 (.slice B5 ns_.length d5) ns_.length (sv ns_):=ownKp o6 fun k q hk=>m7.block k (o6.lt k q).2
 clear t6 o6;obtain⟨B6,d6,rfl⟩:=own_sl2 o7;have t6:=n.c 0 6 rfl rfl;have tf6:=n.f 0 6 rfl;obtain⟨V8,e8,n8,z8⟩:=n.put (j:=0) rfl [(6,.slice B6 es_.length d6)];simp only[stL]at e8;simp only[stA,List.setIfInBounds_toArray,List.set_cons_succ,List.set_cons_zero]at n8;have l6:V3.heap.size≤V6.heap.size:=by rw [z6];exact m5.size
 have o9:V8.ownsRow V3.heap.size 9 1 (.slice B5 ns_.length d5) ns_.length (sv ns_):=ownKp o8 fun k q hk=>by
  rw [←e8];exact hp_sne (by omega)
 have o10:V8.ownsRow V6.heap.size 85 10 (.slice B6 es_.length d6) es_.length (flatG encE es_):=ownKp o7 fun k q hk=>by
  rw [←e8];exact hp_sne (by omega)
 clear n;have n:=n8;clear n8;go_upto_region 6 with fail
 clear t6 tf6 e8 o7 o8;have rF:=n.rg 0 rfl;have hG:=n.b 1 rfl;have lw:=n.lt 1 rfl;obtain⟨VE,eE,nE⟩:=n.row (j:=1) rfl [.int .i64 k0,.int .i64 k1,.int .i64 k2,.int .i64 k3,.int .i64 k4,.slice B5 ns_.length d5,.slice B6 es_.length d6].toArray;simp only[List.set_cons_succ,List.set_cons_zero]at nE;have w0_:=nE.c 1 0 rfl rfl;have w1_:=nE.c 1 1 rfl rfl;have w2_:=nE.c 1 2 rfl rfl;have w3_:=nE.c 1 3 rfl rfl;have w4_:=nE.c 1 4 rfl rfl;have w5_:=nE.c 1 5 rfl rfl;have w6_:=nE.c 1 6 rfl rfl
 have hne:∀k,k≠w.heap.size→VE.heap[k]?=V8.heap[k]?:=fun k hk=>by
  rw [←eE];exact setRow_other _ _ _ _ (by omega)
 have l9:w.heap.size<V3.heap.size:=by omega
 have fin:=Lib.hid (hR.out VE (.slice B5 ns_.length d5) (.slice B6 es_.length d6) _ hy1 (own_mono (ownKp o9 fun k q hk=>hne k (by omega)) (by omega)) (own_mono (ownKp o10 fun k q hk=>hne k (by omega)) (by omega)) (F0.bel nE));clear nE n hR o9 o10 hne;go_wp2_with (first|(refine wpList_load_g (by rfl) 74 _ rfl V.heap.size (0) rfl _ _ rF Tryz.underlying74 rfl (by kernel_rfl) ?_)|(refine wpList_store_row (by rfl) 74 _ _ (by rfl) w.heap.size [.int .i64 k0,.int .i64 k1,.int .i64 k2,.int .i64 k3,.int .i64 k4,.slice B5 ns_.length d5,.slice B6 es_.length d6].toArray (by rfl) (by rfl) 74 _ hG (by kernel_rfl) rfl (by simp [Value.oneCell']) ?_;go_simp))
 first|refine bodyPost_ret ?_ rfl fin.out|refine bodyPost_end ?_ rfl fin.out
 simp [results,Tryz.results40,go_sem,w0_,w1_,w2_,w3_,w4_,w5_,w6_]
theorem pnode_calls{w:World}{v:Value}{nm:List ByteArray}{F:Nat→Nat→Bool}{ns:List ByteArray}{x:List NdR×Int×List Int}(h:PlanP w v nm F ns x)(hb1:∀y∈x.1,y.names.length≤1000000∧y.edges.length≤1000000)(I:Nat)(hI:I<x.1.length)(R:Ending→World→Prop)
 (hR:Hid (∀w' nv ev y,x.1[I]?=some y→RdS w' nv y.names→RdEd w' ev y.edges→Below w.heap.size w w'→R (.returned (.tuple #[.agg #[.int .i64 y.kind,.int .i64 y.at_,.int .i64 y.lo,.int .i64 y.hi,.int .i64 y.most,nv,ev],.bool true])) w')):Calls Tryz.prog 40 #[v,.int .i64 I] w R :=
pnodeo_calls h hb1 I hI R (Lib.hid fun w' nv ev y hy a b m=>hR.out w' nv ev y hy (RdAt.of_own a) (RdAt.of_own b) m)
def refT:TH:=⟨9,0,0,0,0,[],⟨#[116]⟩,0⟩
def optT:TH:=⟨6,0,0,0,0,[],⟨#[]⟩,0⟩
def boolT:TH:=⟨1,0,0,0,0,[],⟨#[]⟩,0⟩
def noP:PH:=⟨⟨#[]⟩,0,false,[],0,0,0,0,[]⟩
def tF:Ft:=.cons noP refT .nil .nil
def sc18:Sc:=([(⟨#[97]⟩,0)],[],[((⟨#[116]⟩,0),optT,tF)],boolT,.nil)
theorem b18:bldS sc18=(0,0):=by kernel_rfl
theorem p18_root:(planN (nms sc18.1) (leqF sc18.1 sc18.2.1) sc18.2.2.1 0 sc18.2.2.2.1 sc18.2.2.2.2).2.1=1:=by kernel_rfl
theorem p18_len:(planN (nms sc18.1) (leqF sc18.1 sc18.2.1) sc18.2.2.1 0 sc18.2.2.2.1 sc18.2.2.2.2).1.length=2:=by kernel_rfl
theorem p18_dst:((planN (nms sc18.1) (leqF sc18.1 sc18.2.1) sc18.2.2.1 0 sc18.2.2.2.1 sc18.2.2.2.2).1[0]?.map fun y=>y.edges.map (·.dst))=some [0]:=by kernel_rfl
theorem p18_all:(planN (nms sc18.1) (leqF sc18.1 sc18.2.1) sc18.2.2.1 0 sc18.2.2.2.1 sc18.2.2.2.2).1.all (fun y=>decide (y.names.length≤1000000)&&decide (y.edges.length≤1000000))=true:=by kernel_rfl
theorem i64_z:I64 0:=⟨by decide,by decide⟩
theorem gh18(k:Int)(hk:I64 k)(x:ByteArray)(hx:x.size≤maxLen):GoodH ⟨k,0,0,0,0,[],x,0⟩:=⟨hk,i64_z,i64_z,i64_z,i64_z,by simp,hx,i64_z,by simp⟩
theorem gs18:GoodS sc18 where
l:=fun x hx=>by
 obtain rfl:=List.mem_singleton.1 hx;exact⟨by decide,i64_z⟩
ll:=by decide
o:=fun x hx=>by cases hx
ol:=by decide
t:=fun x hx=>by
 obtain rfl:=List.mem_singleton.1 hx;exact⟨⟨by decide,i64_z⟩,gh18 6 ⟨by decide,by decide⟩ _ (by decide),⟨⟨by decide,i64_z,by simp [noP],i64_z,i64_z,i64_z,i64_z,by simp [noP],by decide,by decide⟩,gh18 9 ⟨by decide,by decide⟩ _ (by decide),by decide,trivial,trivial⟩,by decide⟩
tl:=by decide
h:=gh18 1 ⟨by decide,by decide⟩ _ (by decide)
g:=trivial
gl:=by decide
theorem lives18_calls(w:World)(R:Ending→World→Prop)(hR:Hid (∀w',Below w.heap.size w w'→R (.returned (.bool true)) w')):Calls Tryz.prog 37 #[] w R:=by
 have m0:=F0.z w;obtain⟨V1,e1,m1,z1⟩:=m0.new (.cells #[.string ⟨#[]⟩,.int .i64 0,.bool false,.slice none 0 0,.int .i64 0,.int .i64 0,.int .i64 0,.int .i64 0,.slice none 0 0,.int .i64 9,.int .i64 0,.int .i64 0,.int .i64 0,.int .i64 0,.slice none 0 0,.slice none 0 0,.string ⟨#[116]⟩,.int .i64 0] 130);obtain⟨V2,e2,m2,z2⟩:=m1.new (.cells #[.int .i64 6,.int .i64 0,.int .i64 0,.int .i64 0,.int .i64 0,.slice none 0 0,.slice (some ⟨w.heap.size,0,none⟩) 1 1,.string ⟨#[]⟩,.int .i64 0] 29);obtain⟨V3,e3,m3,z3⟩:=m2.new (.cells #[.string ⟨#[97]⟩,.int .i64 0] 27);obtain⟨V4,e4,n,z4⟩:=m3.new (.cells #[.string ⟨#[116]⟩,.int .i64 0,.int .i64 6,.int .i64 0,.int .i64 0,.int .i64 0,.int .i64 0,.slice none 0 0,.slice (some ⟨w.heap.size,0,none⟩) 1 1,.string ⟨#[]⟩,.int .i64 0] 121);clear m0 m1 m2 z1 z2 z3 z4
 have hy:RdY V4 optT tF (.slice none 0 0) (.slice (some ⟨w.heap.size,0,none⟩) 1 1):=by
  refine⟨RdG.none0 _ _ _,_,1,rfl,Nat.le_refl _,fun _=>⟨_,_,rfl,n.lt 3 rfl,?_⟩⟩;refine RdFo.mk [.string ⟨#[]⟩,.int .i64 0,.bool false,.slice none 0 0,.int .i64 0,.int .i64 0,.int .i64 0,.int .i64 0,.slice none 0 0] [.int .i64 9,.int .i64 0,.int .i64 0,.int .i64 0,.int .i64 0,.slice none 0 0,.slice none 0 0,.string ⟨#[116]⟩,.int .i64 0] rfl (fun j v e=>n.rg 3 rfl j v e) ⟨_,_,rfl,RdG.none0 _ _ _,RdG.none0 _ _ _⟩ ⟨rfl,_,⟨_,rfl,RdG.none0 _ _ _⟩,RdSl.nil _ _ _⟩ trivial
 have rd:RdSc V4 sc18 (.slice (some ⟨V2.heap.size,0,none⟩) 1 1) (.slice none 0 0) (.slice (some ⟨V3.heap.size,0,none⟩) 1 1) (.slice none 0 0) (.slice none 0 0) :=
  ⟨⟨_,1,1,rfl,rfl,Nat.le_refl _,fun _=>⟨_,0,rfl,n.lt 1 rfl,fun j u e=>n.rg 1 rfl j u e⟩⟩,rd_nil _ _,⟨_,1,rfl,Nat.le_refl _,fun _=>⟨_,0,rfl,n.lt 0 rfl,fun i hi=>by
   obtain rfl:i=0:=by
    have:i<1:=hi;omega
   exact⟨_,_,hy,fun j u e=>n.rg 0 rfl j u e⟩⟩⟩,⟨RdG.none0 _ _ _,RdSl.nil _ _ _⟩⟩
 have r2:=m3.rg 1 rfl;clear m3 hy;replace rd:=Lib.hid rd;go_enter Tryz.func37,Tryz.ntmps37
 go_upto_region 2 with(refine wpList_copy #[.int .i64 6,.int .i64 0,.int .i64 0,.int .i64 0,.int .i64 0,.slice none 0 0,.slice (some ⟨w.heap.size,0,none⟩) 1 1,.string ⟨#[]⟩,.int .i64 0] ⟨rfl,rfl,rfl⟩ ⟨rfl,rfl,rfl⟩ typ_alloc (by kernel_rfl) ⟨rfl,by simp [Value.oneCell']⟩ (fun _=>⟨rfl,rfl⟩) ?_;go_simp)
 go_wp2_with (refine wpList_load_g (by rfl) 29 _ rfl V1.heap.size (0) rfl _ _ r2 Tryz.underlying29 rfl (by kernel_rfl) ?_;go_simp)
 refine build18_calls sc18 gs18 (by decide) _ _ _ _ _ V4 rd.out _ (Lib.hid fun W v hz pl m=>?_) (Lib.hid fun W hz m=>?_)
 ·have n2:=n.bl m
  obtain⟨P,rfl⟩:∃P,v=.pointer (some ⟨P,0,none⟩):=by
   obtain⟨P,_,_,_,_,_,e,-⟩:=pl;exact⟨P,e⟩
  clear n rd hz r2;obtain⟨q,hq⟩:∃q:Int×Int,q=(0,0):=⟨_,rfl⟩;rw [←hq];obtain⟨q0,q1⟩:=q;replace hq:=Lib.hid hq;obtain⟨W2,e5,n,z5⟩:=n2.new (.cells #[.int .i64 q0,.int .i64 q1] 34);have m2:Below W.heap.size W W2:=e5▸(Below.refl _ _).alloc (Nat.le_refl _) _;clear n2 m z5;go_upto_region 3 with fail
  clear e5;replace pl:=pl.below m2;have hal:=p18_all;rw [List.all_eq_true]at hal;go_wp2_with fail
  refine(show Calls Tryz.prog 40 #[.pointer (some ⟨P,0,none⟩),.int .i64 0] W2 _ from pnode_calls pl (fun y hy=>by simpa using hal y hy) 0 (by rw [p18_len];decide) _ (Lib.hid fun W3 nv ev y hy rS rE m3=>?_))
  have hd:=p18_dst;rw [hy]at hd;simp only[Option.map_some,Option.some.injEq]at hd;obtain⟨k0,k1,k2,k3,k4,ns_,es_⟩:=y;simp only at hd rS rE
  obtain⟨e,rfl,hed⟩:∃e:EdR,es_=[e]∧e.dst=0:=by
   match es_,hd with
   | [e],hd=>exact⟨e,rfl,by simpa using hd⟩
  obtain⟨A5,c5,rfl,-⟩:=rS.open;obtain⟨A6,c6,rfl,-,hA⟩:=RdG.open encE_len (by decide) (show RdG encE 10 W3 ev [e]from rE);obtain⟨g,o,rfl,hg,hca⟩:=hA (by simp)
  have x3:W3.cell? ⟨g,o+3,none⟩=some (.int .i64 0):=by
   have:=hca 0 (by simp) 3 (by decide);simp only[Nat.zero_mul,Nat.add_zero]at this;rw [this];show some (Value.int .i64 e.dst)=_;rw [hed]
  replace n:=n.bl m3;obtain⟨W4,e6,n,z6⟩:=n.new (.cells #[.int .i64 k0,.int .i64 k1,.int .i64 k2,.int .i64 k3,.int .i64 k4,.slice A5 ns_.length c5,.slice (some ⟨g,o,none⟩) 1 c6] 74);have m4:Below W3.heap.size W3 W4:=e6▸(Below.refl _ _).alloc (Nat.le_refl _) _;replace x3:=(m4.cell (p:=⟨g,o+3,none⟩) hg).trans x3;replace pl:=Lib.hid (pl.below (m3.trans (m4.mono m3.size)));clear hy hd rS rE hA hca hal z6;go_upto_region 4 with(refine wpList_copy #[.int .i64 k0,.int .i64 k1,.int .i64 k2,.int .i64 k3,.int .i64 k4,.slice A5 ns_.length c5,.slice (some ⟨g,o,none⟩) 1 c6] ⟨rfl,rfl,rfl⟩ ⟨rfl,rfl,rfl⟩ node_alloc (by kernel_rfl) ⟨rfl,by simp [Value.oneCell']⟩ (fun _=>⟨rfl,rfl⟩) ?_;go_simp)
  clear e6;obtain⟨rfl,rfl⟩:q0=0∧q1=0:=by simpa using hq.out
  have a0:=n.c 1 0 rfl rfl;have a1:=n.c 1 1 rfl rfl;have t6:=n.c 0 6 rfl rfl;have fin:=Lib.hid (hR.out W4 (F0.bel n));have cR:=Lib.hid fun R hR=>proot_calls pl.out R hR
  rw [p18_root]at cR;clear n hR hq pl m4 m3 m2;go_wp2_with fail
  refine cR.out _ (Lib.hid ?_);go_wp2_with fail
  exact fin.out
 ·exact absurd (by rw [b18]) hz
theorem pfind_calls{w:World}{v:Value}{nm:List ByteArray}{F:Nat→Nat→Bool}{ns:List ByteArray}{x:List NdR×Int×List Int}(h:PlanP w v nm F ns x)(hns:ns.length≤1000000)(hz:x.2.2.length=ns.length)(y:ByteArray)(R:Ending→World→Prop)
  (hR:Hid (∀w',Below w.heap.size w w'→R (.returned (.tuple #[.int .i64 (if(finS ns y).2 then x.2.2.getD (finS ns y).1.toNat 0 else 0),.bool (finS ns y).2])) w')):Calls Tryz.prog 43 #[v,.string y] w R:=by
 obtain⟨P,lv,tab,A,Z,c,z,xs,rfl,hbx,-,hT,-,-,-,hZ⟩:=h.op
 obtain⟨tp,rfl⟩:∃tp,tab=.pointer (some ⟨tp,0,none⟩):=by
  obtain⟨p,_,_,h,-⟩:=hT;exact⟨p,h⟩
 have c3:=(Lib.cell_of_heap hbx 3).trans rfl;go_enter Tryz.func43,Tryz.ntmps43
 go_wp2_with fail
 refine find_calls ns y _ w hns hT _ (Lib.hid fun nq=>?_);have m:Below w.heap.size w (w.drewN nq):=below_drewN (Below.refl _ _) nq;have hbV:=(m.block P (hp_lt hbx)).trans hbx;have c4:=(Lib.cell_of_heap hbV 4).trans rfl;replace hR:=Lib.hid (hR.out _ m);clear c3;rcases find_cases ns y with⟨h1,-⟩|⟨k,h1,-,-,h4⟩
 ·rw [fin_no (by rw [h1];decide)]at hR ⊢
  clear hbV hbx m h hT hZ c4;generalize w.drewN nq=V at *;go_wp2_with fail
  exact hR.out
 ·rw [fin_yes (by rw [h4];omega),h4]at hR ⊢
  have hk:k<x.2.2.length:=by omega
  obtain⟨Z',n',z',e,-,-,hc⟩:=hZ;simp only[Value.slice.injEq]at e;obtain⟨rfl,-,-⟩:=e;obtain⟨g,o,rfl,hg,hcl⟩:=hc (by simp [ints];omega)
  have x0:=(m.cell (p:=⟨g,o+k,none⟩) hg).trans (hcl k (.int .i64 (x.2.2.getD k 0)) (by simp [ints,List.getD,List.getElem?_eq_getElem hk]));simp only[if_true,Int.toNat_natCast]at hR;have i0:(0:Int)≤(k:Int):=by omega
  have i1:(k:Int)<(x.2.2.length:Int):=by omega
  clear hbV hbx m h hT hcl hc;generalize x.2.2.getD k 0=r at *;generalize w.drewN nq=V at *;go_wp2_with fail
  exact hR.out
theorem addA_len{nm:List ByteArray}{F:Nat→Nat→Bool}{tg:ByteArray→Int}:∀(l:List Nd)(m:List NdR),(addA nm F tg l m).1.length=l.length
| [],m=>rfl
| x::r,m=>by
 show(addA nm F tg r (addT nm F tg x.2.1 x.2.2 m).2).1.length+1=_;rw [addA_len r];rfl
theorem plan_named(nm:List ByteArray)(F:Nat→Nat→Bool)(tys:List Nd)(c:Int)(rh:TH)(rf:Ft):(planN nm F tys c rh rf).2.2.length=tys.length:=addA_len _ _
theorem addA_behind{nm:List ByteArray}{F:Nat→Nat→Bool}{tg:ByteArray→Int}:∀(l:List Nd)(m:List NdR),m.length≤(addA nm F tg l m).2.length∧∀i,i<m.length→(addA nm F tg l m).2[i]?=m[i]?
| [],m=>⟨Nat.le_refl _,fun _ _=>rfl⟩
| x::r,m=>by
 have b:=addT_behind nm F tg x.2.1 x.2.2 m;have h:=addA_behind (nm:=nm) (F:=F) (tg:=tg) r (addT nm F tg x.2.1 x.2.2 m).2;exact⟨Nat.le_trans b.1 h.1,fun i hi=>(h.2 i (Nat.lt_of_lt_of_le hi b.1)).trans (b.2.2 i hi)⟩
def EdIn(M:Nat)(e:EdR):Prop:=(e.bare=true→e.dst=-1)∧(e.bare=false→0≤e.dst∧e.dst<(M:Int))
def NdIn(M:Nat)(l:List NdR):Prop:=∀y∈l,∀e∈y.edges,EdIn M e
theorem NdIn.set{M:Nat}{l:List NdR}{i:Nat}{y:NdR}(h:NdIn M l)(hy:∀e∈y.edges,EdIn M e):NdIn M (l.set i y):=fun z hz=>by
 rcases List.mem_or_eq_of_mem_set hz with hz|rfl
 ·exact h z hz
 ·exact hy
theorem NdIn.snoc{M:Nat}{l:List NdR}{y:NdR}(h:NdIn M l)(hy:∀e∈y.edges,EdIn M e):NdIn M (l++[y]):=fun z hz=>by
 rcases List.mem_append.1 hz with hz|hz
 ·exact h z hz
 ·obtain rfl:=List.mem_singleton.1 hz
  exact hy
theorem addF_in{nm:List ByteArray}{F:Nat→Nat→Bool}{tg:ByteArray→Int}{M:Nat}(ht:∀x,0≤tg x∧tg x<(M:Int)):∀(f:Ft)(l:List NdR),NdIn M l→(addF nm F tg f l).2.length≤M→(∀e∈(addF nm F tg f l).1,EdIn M e)∧NdIn M (addF nm F tg f l).2
| .nil,l,h,_=>⟨(fun e he=>by cases he),h⟩
| .cons p h k r,l,hl,hM=>by
 rw [addF_cons]at hM ⊢;have b2:=addF_behind (nm:=nm) (F:=F) (tg:=tg) r (addK nm F tg p h k l).2;have hM1:(addK nm F tg p h k l).2.length≤M:=Nat.le_trans b2.1 hM
 have hk:EdIn M (addK nm F tg p h k l).1∧NdIn M (addK nm F tg p h k l).2:=by
  unfold addK at hM1 ⊢
  by_cases c:p.bare=true
  ·rw [if_pos c]
   exact⟨⟨fun _=>rfl,fun q=>by rw [show(edP nm F p (-1)).bare=p.bare from rfl,c]at q;cases q⟩,hl⟩
  ·rw [if_neg c]at hM1 ⊢
   have nb:∀d,(edP nm F p d).bare=true→(edP nm F p d).dst=-1:=fun d q=>absurd q c
   unfold addW at hM1 ⊢
   by_cases c9:h.kind=9
   ·rw [if_pos c9]
    exact⟨⟨nb _,fun _=>ht h.name⟩,hl⟩
   ·rw [if_neg c9]at hM1 ⊢
    have b3:=addF_behind (nm:=nm) (F:=F) (tg:=tg) k (l++[ndP h]);have hlen:(l++[ndP h]).length=l.length+1:=by simp
    simp only[List.length_set]at hM1;obtain⟨i1,i2⟩:=addF_in ht k (l++[ndP h]) (hl.snoc (by intro e he;cases he)) hM1
    have hb:=b3.1;refine⟨⟨nb _,fun _=>⟨by show(0:Int)≤(l.length:Int);omega,by show(l.length:Int)<(M:Int);omega⟩⟩,i2.set i1⟩
 obtain⟨j1,j2⟩:=addF_in ht r _ hk.2 hM;refine⟨fun e he=>?_,j2⟩;rcases List.mem_cons.1 he with rfl|he
 ·exact hk.1
 ·exact j1 e he
theorem n18_alloc(ρ:Operand→Value)(W:World)(o:Oper)(h:o.op=.alloc 70):(execOp ρ o).run Tryz.prog W=.ok (.value (ptA W.heap.size)) (W.alloc (.cells #[.int .i64 0,.int .i64 0,.int .i64 0,.int .i64 0,.int .i64 0,.slice none 0 0,.slice none 0 0] 70)):=by
 simp [execOp,h,go_sem,ptA]
theorem e18_in:(Tryz.prog.info? 103).map (fun i=>(i.zero,i.size,i.bytes))=some (some (.agg #[.string ⟨#[]⟩,.bool false,.int .i64 0,.int .i64 0,.int .i64 0,.int .i64 0,.int .i64 0,.int .i64 0,.int .i64 0,.int .i64 0]),10,88):=by kernel_rfl
theorem e18_info:∃i0,Tryz.prog.info? 103=some i0∧(i0.zero,i0.size,i0.bytes)=(some (.agg #[.string ⟨#[]⟩,.bool false,.int .i64 0,.int .i64 0,.int .i64 0,.int .i64 0,.int .i64 0,.int .i64 0,.int .i64 0,.int .i64 0]),10,88):=by
 have:=e18_in;cases h:Tryz.prog.info? 103 with
 | none=>rw [h]at this;cases this
 | some i0=>rw [h]at this;exact⟨i0,rfl,by simpa using this⟩
theorem ed_el18{w:World}{v:Value}{l:List EdR}(h:RdEd w v l):∃(A:Option Addr)(c:Nat),v=.slice A l.length c∧l.length≤c∧∀K (hK:K<l.length),∃g o,A=some ⟨g,o,none⟩∧g<w.heap.size∧w.rangeAt g (o+K*10) (encE l[K]):=by
 obtain⟨A,c,rfl,hc,hr⟩:=RdG.open encE_len (by decide) (show RdG encE 10 w v l from h);refine⟨A,c,rfl,hc,fun K hK=>?_⟩;obtain⟨g,o,rfl,hg,hi⟩:=hr (by omega);exact⟨g,o,rfl,hg,fun j v e=>(hi K hK j (by have:=(List.getElem?_eq_some_iff.1 e).1;exact this)).trans e⟩
theorem flat_take{l:List EdR}{K:Nat}(h:K<l.length):flatG encE (l.take (K+1))=flatG encE (l.take K)++encE l[K]:=by
 rw [List.take_succ_eq_append_getElem h,flatG_snoc]
theorem node18_calls(y:NdR)(nv ev:Value)(w:World)(rS:RdS w nv y.names)(rE:RdEd w ev y.edges)(hl:y.edges.length≤1000000)(R:Ending→World→Prop)
  (hR:Hid (∀W ev',W.ownsRow w.heap.size 103 10 ev' y.edges.length (flatG encE y.edges)→Below w.heap.size w W→R (.returned (.agg #[.int .i64 y.kind,.int .i64 y.at_,.int .i64 y.lo,.int .i64 y.hi,.int .i64 y.most,nv,ev'])) W)) :
  Calls Tryz.prog 42 #[.agg #[.int .i64 y.kind,.int .i64 y.at_,.int .i64 y.lo,.int .i64 y.hi,.int .i64 y.most,nv,ev]] w R:=by
 obtain⟨A5,c5,rfl,-⟩:=rS.open;obtain⟨A6,c6,rfl,-,hel⟩:=ed_el18 rE;obtain⟨ti,hTI,hZ⟩:=e18_info;simp only[Prod.mk.injEq]at hZ;obtain⟨hz0,hz1,hz2⟩:=hZ;clear rS rE;obtain⟨k0,k1,k2,k3,k4,yn,es⟩:=y;simp only at *;have n:=F0.z w;obtain⟨V1,e1,n,z1⟩:=n.new (.cells #[.int .i64 k0,.int .i64 k1,.int .i64 k2,.int .i64 k3,.int .i64 k4,.slice A5 yn.length c5,.slice A6 es.length c6] 74);obtain⟨V2,e2,n,z2⟩:=n.new (.cells #[.int .i64 0,.int .i64 0,.int .i64 0,.int .i64 0,.int .i64 0,.slice none 0 0,.slice none 0 0] 70);have t0:=n.c 1 0 rfl rfl;have t1:=n.c 1 1 rfl rfl;have t2:=n.c 1 2 rfl rfl;have t3:=n.c 1 3 rfl rfl;have t4:=n.c 1 4 rfl rfl;have t5:=n.c 1 5 rfl rfl;obtain⟨V3,e3,n3,z3⟩:=n.new (.cells #[.int .i64 k0,.int .i64 k1,.int .i64 k2,.int .i64 k3,.int .i64 k4,.slice A5 yn.length c5,.slice none 0 0] 70);clear z1 z2 z3 n;replace hel:=Lib.hid hel;go_enter Tryz.func42,Tryz.ntmps42
 go_upto_region 1 with fail
 clear e1 e2;go_upto_region 2 with(refine wpList_copy #[.int .i64 k0,.int .i64 k1,.int .i64 k2,.int .i64 k3,.int .i64 k4,.slice A5 yn.length c5,.slice none 0 0] ⟨rfl,rfl,rfl⟩ ⟨rfl,rfl,rfl⟩ n18_alloc (by kernel_rfl) ⟨rfl,by simp [Value.oneCell']⟩ (fun _=>⟨rfl,rfl⟩) ?_;go_simp)
 clear e3 t0 t1 t2 t3 t4 t5;go_wp2_with fail
 go_loopg [4] es.length (fun g i wr=>∃(K:Nat) (ev':Value),i=.int .i64 K∧K+g=es.length∧Hid (Hq F0 () () w wr [(V2.heap.size,.cells #[.int .i64 k0,.int .i64 k1,.int .i64 k2,.int .i64 k3,.int .i64 k4,.slice A5 yn.length c5,ev'] 70),(V1.heap.size,.cells #[.int .i64 0,.int .i64 0,.int .i64 0,.int .i64 0,.int .i64 0,.slice none 0 0,.slice none 0 0] 70),(w.heap.size,.cells #[.int .i64 k0,.int .i64 k1,.int .i64 k2,.int .i64 k3,.int .i64 k4,.slice A5 yn.length c5,.slice A6 es.length c6] 74)])∧Hid (wr.ownsRow V3.heap.size 103 10 ev' K (flatG encE (es.take K)))∧V3.heap.size≤wr.heap.size∧V2.heap.size<V3.heap.size∧w.heap.size≤V1.heap.size∧V1.heap.size<V3.heap.size)
 case atStart=>exact⟨0,.slice none 0 0,rfl,by omega,Lib.hid n3,Lib.hid (by simpa [flatG]using World.ownsRow_nil _ _ _ _),Nat.le_refl _,n3.lt 0 rfl,by have:=(n3.lo _ (List.mem_cons_of_mem _ List.mem_cons_self)).1;exact this,n3.lt 1 rfl⟩
 case round =>
  clear n3;obtain⟨K,ev',rfl,e1,n,own,s1,s2,s3,s4⟩:=hrel;replace n:=n.out;obtain⟨A',m',c',rfl⟩:=own_sl own.out
  by_cases hK:K<es.length
  ·obtain⟨g,o,rfl,hg,hrg⟩:=hel.out K hK
   have i0:(0:Int)≤(K:Int):=by omega
   have i1:(K:Int)<(es.length:Int):=by omega
   have hft:=flat_take hK;generalize es[K]=e at *;have bl2:=n.lt 0 rfl;have bl0:=n.lt 2 rfl
   have notS:∀k,k<V3.heap.size→¬(Value.slice A' m' c').ownBlock=some k:=fun k hk q=>by
    have:=(own.out.lt k q).1;omega
   have b6:=fun y:RW (fun k=>(Value.slice A' m' c').ownBlock=some k) wr=>y.cell bl2 (notS _ s2) (n.c 0 6 rfl rfl)
   have b0:=fun y:RW (fun k=>(Value.slice A' m' c').ownBlock=some k) wr=>y.cell bl0 (notS _ (by omega)) (n.c 2 6 rfl rfl)
   have bw:=F0.bel n
   have rE0:∀W,(∃y:RW (fun k=>(Value.slice A' m' c').ownBlock=some k) wr,W=y.w)→W.rangeAt g (o+K*10) (encE e):=fun W hW j u hj=>by
    obtain⟨y,rfl⟩:=hW;exact y.cell (Nat.lt_of_lt_of_le hg bw.size) (notS _ (by omega)) ((bw.cell (p:=⟨g,o+K*10+j,none⟩) hg).trans (hrg j u hj))
   clear hrg;have own1:(wr.drewN 1).ownsRow V3.heap.size 103 10 (.slice A' m' c') K (flatG encE (es.take K)):=ownKp own.out fun _ _ _=>rfl
   have gW:Below wr.heap.size wr (wr.drewN 1):=below_drewN (Below.refl _ _) 1;obtain⟨f0,f1,f2,f3,f4,f5,f6,f7,f8,f9⟩:=e;have rE:∀W,(∃y:RW (fun k=>(Value.slice A' m' c').ownBlock=some k) wr,W=y.w)→W.rangeAt g (o+K*10) [.string f0,.bool f1,.int .i64 f2,.int .i64 f3,.int .i64 f4,.int .i64 f5,.int .i64 f6,.int .i64 f7,.int .i64 f8,.int .i64 f9]:=rE0;clear rE0;have x6:=n.c 2 6 rfl rfl;go_upto_region 5 with fail
   clear x6;refine wp_region_trS (fun k=>(Value.slice A' m' c').ownBlock=some k) (.one [0,1,2,3,4,5,6] 7 (.one [] 8 (.last [9]))) 10 (by kernel_rfl) (by kernel_rfl) (by kernel_rfl) (by kernel_rfl) (by decide) (fun _ _ d _ _ h=>by cases d<;>exact h) ?_
   refine tr_one (os:=[_,_,_,_,_,_,_]) (by simp only[pickO,List.filterMap_cons,List.filterMap_nil,List.getElem?_toArray,List.getElem?_cons_succ,List.getElem?_cons_zero];rfl) (fun Kp hKp=>?_)
   iterate 6 (go_big_quiet_step (exact rfl))
   refine wpQuiet_load rfl 85 _ rfl g (o+K*10) rfl _ _ rE Tryz.underlying85 rfl (by kernel_rfl) ?_
   try go_simp
   refine wpQuiet_nil ?_;refine hKp _ ?_;clear hKp;refine loudr (by rfl) (by kernel_rfl) (fun K1 hK1=>?_);go_simp;refine hK1 _ _ (RW.of ((Gr.rfl' _ wr).bl (gW.alloc gW.size _))) ?_;clear hK1;refine tr_one (os:=[]) (by rfl) (fun Kp hKp=>?_);refine wpQuiet_nil ?_;refine hKp _ ?_;clear hKp;refine loudr (by rfl) (by kernel_rfl) (fun K2 hK2=>?_);refine appOp (wr.drewN 1) #[.string f0,.bool f1,.int .i64 f2,.int .i64 f3,.int .i64 f4,.int .i64 f5,.int .i64 f6,.int .i64 f7,.int .i64 f8,.int .i64 f9] 10 103 _ _ 68 rfl V3.heap.size ti _ 88 Tryz.underlying68 hTI hz0 hz1 hz2 rfl (by decide) rfl (.slice A' m' c') K (flatG encE (es.take K)) rfl own1 _ rfl rfl (by simp [Value.oneCell']) (by unfold maxLen;omega) (by omega) s1 ?_
   intro v' w2 hown hgr hfr;obtain⟨A'',m'',c'',rfl⟩:=own_sl hown;have gA:Gr (fun k=>(Value.slice A' m' c').ownBlock=some k) wr w2:=((Gr.rfl' _ wr).bl gW).trans (Gr.ofRow hgr) fun k e=>.inl e
   go_simp;refine hK2 _ _ (RW.of gA) ?_;clear hK2;refine tr_last (os:=[_]) (by simp only[pickO,List.filterMap_cons,List.filterMap_nil,List.getElem?_toArray,List.getElem?_cons_succ,List.getElem?_cons_zero];rfl) (fun Kp hKp=>?_)
   repeat (go_big_quiet_step (exact rfl))
   refine wpQuiet_nil ?_;refine hKp _ ?_;clear hKp
   have n2:=(n.bl gW).grow hgr fun k q=>⟨Nat.le_trans (by omega) (own.out.lt k q).1,fun h=>h,fun x hx e=>by
    have:=(own.out.lt k q).1;simp only[List.mem_cons,List.not_mem_nil,or_false]at hx;rcases hx with rfl|rfl|rfl<;>simp at e<;>omega⟩
   have bf:=n2.f 0 6 rfl;have bc:=n2.c 0 6 rfl rfl;obtain⟨V4,e4,n4,z4⟩:=n2.put (j:=0) rfl [(6,.slice A'' m'' c'')];simp only[stL]at e4;simp only[stA,List.setIfInBounds_toArray,List.set_cons_succ,List.set_cons_zero]at n4
   have own4:=Lib.hid (show V4.ownsRow V3.heap.size 103 10 (.slice A'' m'' c'') (K+1) (flatG encE (es.take (K+1)))from by
    rw [hft]
    exact ownKp hown fun k q hk=>by
     rw [←e4];exact hp_sne (by omega))
   have s5:V3.heap.size≤V4.heap.size:=by
    have a:=hgr.size;rw [z4];exact Nat.le_trans s1 a
   have n5:=Lib.hid n4;clear n n2 n4 own hown hgr hfr gA own1 gW b6 b0 hft;refine loudl (by rfl) (by kernel_rfl) ?_;go_simp;go_wp2_with fail
   go_roundg (gk-1)
   case measure=>omega
   case rel=>exact⟨K+1,_,by go_num,by omega,n5,own4,s5,s2,s3,s4⟩
  ·obtain rfl:K=es.length:=by omega
   have x6:=n.c 2 6 rfl rfl;have own2:=own.out;rw [List.take_length]at own2;have rF:=n.rg 0 rfl;have hG:=n.b 1 rfl;obtain⟨VE,eE,nE⟩:=n.row (j:=1) rfl [.int .i64 k0,.int .i64 k1,.int .i64 k2,.int .i64 k3,.int .i64 k4,.slice A5 yn.length c5,.slice A' m' c'].toArray;simp only[List.set_cons_succ,List.set_cons_zero]at nE;have w0_:=nE.c 1 0 rfl rfl;have w1_:=nE.c 1 1 rfl rfl;have w2_:=nE.c 1 2 rfl rfl;have w3_:=nE.c 1 3 rfl rfl;have w4_:=nE.c 1 4 rfl rfl;have w5_:=nE.c 1 5 rfl rfl;have w6_:=nE.c 1 6 rfl rfl
   have ownE:VE.ownsRow w.heap.size 103 10 (.slice A' m' c') es.length (flatG encE es):=own_mono (ownKp own2 fun k q hk=>by
    rw [←eE];exact setRow_other _ _ _ _ (by omega)) (by omega)
   have fin:=Lib.hid (hR.out VE _ ownE (F0.bel nE));clear nE n hR own2 own ownE;go_wp2_with (first|(refine wpList_load_g (by rfl) 70 _ rfl V2.heap.size (0) rfl _ _ rF Tryz.underlying70 rfl (by kernel_rfl) ?_;go_simp)|(refine wpList_store_row (by rfl) 70 _ _ (by rfl) V1.heap.size [.int .i64 k0,.int .i64 k1,.int .i64 k2,.int .i64 k3,.int .i64 k4,.slice A5 yn.length c5,.slice A' m' c'].toArray (by rfl) (by rfl) 70 _ hG (by kernel_rfl) rfl (by simp [Value.oneCell']) ?_;go_simp))
   first|refine bodyPost_ret ?_ rfl fin.out|refine bodyPost_end ?_ rfl fin.out
   simp [results,Tryz.results42,go_sem,w0_,w1_,w2_,w3_,w4_,w5_,w6_]
end Go.Proofs.YtncckdaflellnaaGreat.Res
