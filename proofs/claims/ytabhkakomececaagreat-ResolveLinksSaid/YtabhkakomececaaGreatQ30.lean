import Derived.Test.YtabhkakomececaaGreatProg
import Derived.Shelf.SlSortCmp.NoneTotal
import Derived.Shelf.SlicesE.Clone
import Derived.Test.YtabhkakomececaaGreatQ29
set_option linter.all false
set_option maxRecDepth 100000
set_option maxHeartbeats 4000000
namespace Go.Proofs.YtabhkakomececaaGreat
open Go.Shelf
def cloneEd_ren:Go.Shelf.Ren:=⟨fun|41=>73|n=>n,fun|22=>61|23=>67|4=>4|n=>n,fun|n=>n⟩
theorem cloneEd:Go.Proofs.SlLaysE0.n41 Tryz.prog cloneEd_ren:={
mixed:=by kernel_rfl
f41:=⟨Tryz.f73.name,by decide,Tryz.func73.trans (congrArg some (by kernel_rfl))⟩
t4:=Tryz.underlying4
a4:=Tryz.isAgg4
z4:=Tryz.sizeOf4
v4:=Tryz.zeroValue4
t22:=Tryz.underlying61
a22:=Tryz.isAgg61
z22:=Tryz.sizeOf61
v22:=Tryz.zeroValue61 }
end Go.Proofs.YtabhkakomececaaGreat
namespace Go.Proofs.YtabhkakomececaaGreat.Res
open Go.RowKit Go.Lib Utf Nam Lat Kin Unp Rel Lab
theorem PlanP.op{w:World}{v:Value}{nm:List ByteArray}{F:Nat→Nat→Bool}{ns:List ByteArray}{x:List NdR×Int×List Int}(h:PlanP w v nm F ns x):∃(P:Nat)(lv tab:Value)(A Z:Option Addr)(c z:Nat)(xs:List Nv),v=.pointer (some ⟨P,0,none⟩)∧w.heap[P]?=some (.cells #[lv,.slice A x.1.length c,.int .i64 x.2.1,tab,.slice Z x.2.2.length z] 123)∧LatP w lv nm F∧RdT w tab ns∧xs.map (·.1)=x.1∧(∀y∈xs,(RdS w y.2.1 y.1.names∧RdEd w y.2.2 y.1.edges)∧Shp y.2.1∧Shp y.2.2) ∧
  (0<xs.length→∃g o,A=some ⟨g,o,none⟩∧g<w.heap.size∧∀i (hi:i<xs.length) j,j<7→w.cell? ⟨g,o+i*7+j,none⟩=(encN xs[i])[j]?)∧RdAt w (.slice Z x.2.2.length z) 1 (ints x.2.2):=by
 obtain⟨P,lv,nv,tab,zv,xs,e,hb,hl,ht,hn,hx,hr,hz⟩:=h;have hn':RdG encN 7 w nv xs:=hn;obtain⟨A,c,rfl,-,hA⟩:=RdG.open encN_len (by decide) hn';have hlen:xs.length=x.1.length:=by rw [←hx,List.length_map]
 have hz2:=hz;obtain⟨Z,n,z,rfl,hzl,-,-⟩:=hz2;obtain rfl:n=x.2.2.length:=by simpa [ints]using hzl.symm
 rw [hlen]at hb;exact⟨P,lv,tab,A,Z,c,z,xs,e,hb,hl,ht,hx,hr,hA,hz⟩
theorem plen_calls{w:World}{v:Value}{nm:List ByteArray}{F:Nat→Nat→Bool}{ns:List ByteArray}{x:List NdR×Int×List Int}(h:PlanP w v nm F ns x)(R:Ending→World→Prop)(hR:Hid (R (.returned (.int .i64 x.1.length)) w)):Calls Tryz.prog 24 #[v] w R:=by
 obtain⟨P,lv,tab,A,Z,c,z,xs,rfl,hb,-,-,-,-,-,-⟩:=h.op;have c1:=(Lib.cell_of_heap hb 1).trans rfl;clear hb h;go_enter Tryz.func24,Tryz.ntmps24
 go_wp2_with fail
 exact hR.out
theorem proot_calls{w:World}{v:Value}{nm:List ByteArray}{F:Nat→Nat→Bool}{ns:List ByteArray}{x:List NdR×Int×List Int}(h:PlanP w v nm F ns x)(R:Ending→World→Prop)(hR:Hid (R (.returned (.int .i64 x.2.1)) w)):Calls Tryz.prog 25 #[v] w R:=by
 obtain⟨P,lv,tab,A,Z,c,z,xs,rfl,hb,-,-,-,-,-,-⟩:=h.op;have c1:=(Lib.cell_of_heap hb 2).trans rfl;clear hb h;go_enter Tryz.func25,Tryz.ntmps25
 go_wp2_with fail
 exact hR.out
theorem node_alloc(ρ:Operand→Value)(W:World)(o:Oper)(h:o.op=.alloc 63):(execOp ρ o).run Tryz.prog W=.ok (.value (ptA W.heap.size)) (W.alloc (.cells #[.int .i64 0,.int .i64 0,.int .i64 0,.int .i64 0,.int .i64 0,.slice none 0 0,.slice none 0 0] 63)):=by
 simp [execOp,h,go_sem,ptA]
theorem cloneE_calls(l:List EdR)(v:Value)(w:World)(hx:RdEd w v l)(hv:Shp v)(hl:l.length≤1000000)(R:Ending→World→Prop)(hR:Hid (∀v' w',w'.ownsRow w.heap.size 67 10 v' l.length (flatG encE l)→Below w.heap.size w w'→R (.returned v') w')):Calls Tryz.prog 73 #[v] w R:=by
 obtain⟨i0,hi,hZ⟩:=edge_info;simp only[Prod.mk.injEq]at hZ;obtain⟨hz0,hz1,hz2⟩:=hZ;have hlen:(flatG encE l).length=l.length*10:=flatG_len encE_len l;have hx2:RdAt w v 10 (flatG encE l):=hx;obtain⟨A,n,c,e,h1,h2,h3⟩:=hx2;obtain rfl:n=l.length:=by omega
 rcases hv with e2|⟨g,o,n,c2,e2⟩
 ·rw [e2]at e
  simp only[Value.slice.injEq]at e;obtain⟨rfl,hz,rfl⟩:=e;obtain rfl:=List.eq_nil_of_length_eq_zero hz.symm;subst e2;have:=AnyE.slices_Clone_nil YtabhkakomececaaGreat.cloneEd 0 0 w
  change Calls Tryz.prog 73 _ _ _ at this
  refine this.mono ?_
  rintro e w' ⟨rfl,rfl⟩
  exact hR.out _ _ (World.ownsRow_nil _ _ _ _) (Below.refl _ _)
 ·rw [e2]at e
  simp only[Value.slice.injEq]at e;obtain⟨rfl,rfl,rfl⟩:=e;subst e2
  have hcell:∀j u,(flatG encE l)[j]?=some u→w.cell? ⟨g,o+j,none⟩=some u:=fun j u hj=>by
   obtain⟨g',o',e,-,hca⟩:=h3 (by have:=(List.getElem?_eq_some_iff.1 hj).1;omega)
   simp only[Option.some.injEq,Addr.mk.injEq,and_true]at e;obtain⟨rfl,rfl⟩:=e;exact hca j u hj
  have hone:∀u∈flatG encE l,u.oneCell'=true:=fun u hu=>by
   simp only[flatG,List.mem_flatMap,encE,List.mem_cons,List.not_mem_nil,or_false]at hu;obtain⟨x,_,rfl|rfl|rfl|rfl|rfl|rfl|rfl|rfl|rfl|rfl⟩:=hu<;>rfl
  have:=AnyE.slices_Clone YtabhkakomececaaGreat.cloneEd i0 (.agg #[.string ⟨#[]⟩,.bool false,.int .i64 0,.int .i64 0,.int .i64 0,.int .i64 0,.int .i64 0,.int .i64 0,.int .i64 0,.int .i64 0]) 10 88 hi hz0 hz1 hz2 rfl (by decide) Tryz.sizeOf67 g o l.length c2 (flatG encE l) w hlen (by unfold maxLen;omega) (by omega) hcell hone
  change Calls Tryz.prog 73 _ _ _ at this
  refine this.mono ?_
  rintro e w' ⟨v',rfl,hown,-,hb⟩
  exact hR.out _ _ hown hb
theorem cloneS_calls(l:List ByteArray)(v:Value)(w:World)(hx:RdS w v l)(hv:Shp v)(hl:l.length≤1000000)(R:Ending→World→Prop)(hR:Hid (∀v' w',w'.ownsRow w.heap.size 9 1 v' l.length (sv l)→Below w.heap.size w w'→R (.returned v') w')):Calls Tryz.prog 72 #[v] w R:=by
 obtain⟨i0,hi,hZ⟩:=str_info;simp only[Prod.mk.injEq]at hZ;obtain⟨hz0,hz1,hz2⟩:=hZ;have hlen:(sv l).length=l.length:=sv_len l;have hx2:RdAt w v 1 (sv l):=hx;obtain⟨A,n,c,e,h1,h2,h3⟩:=hx2;obtain rfl:n=l.length:=by omega
 rcases hv with e2|⟨g,o,n,c2,e2⟩
 ·rw [e2]at e
  simp only[Value.slice.injEq]at e;obtain⟨rfl,hz,rfl⟩:=e;obtain rfl:=List.eq_nil_of_length_eq_zero hz.symm;subst e2;have:=AnyE.slices_Clone_nil YtabhkakomececaaGreat.cloneStr 0 0 w
  change Calls Tryz.prog 72 _ _ _ at this
  refine this.mono ?_
  rintro e w' ⟨rfl,rfl⟩
  exact hR.out _ _ (World.ownsRow_nil _ _ _ _) (Below.refl _ _)
 ·rw [e2]at e
  simp only[Value.slice.injEq]at e;obtain⟨rfl,rfl,rfl⟩:=e;subst e2
  have hcell:∀j u,(sv l)[j]?=some u→w.cell? ⟨g,o+j,none⟩=some u:=fun j u hj=>by
   obtain⟨g',o',e,-,hca⟩:=h3 (by have:=(List.getElem?_eq_some_iff.1 hj).1;omega)
   simp only[Option.some.injEq,Addr.mk.injEq,and_true]at e;obtain⟨rfl,rfl⟩:=e;exact hca j u hj
  have:=AnyE.slices_Clone YtabhkakomececaaGreat.cloneStr i0 (.string ⟨#[]⟩) 1 16 hi hz0 hz1 hz2 rfl (by decide) Tryz.sizeOf9 g o l.length c2 (sv l) w (by rw [sv_len,Nat.mul_one]) (by unfold maxLen;omega) (by omega) hcell (fun u hu=>by simp only[sv,List.mem_map]at hu;obtain⟨s,-,rfl⟩:=hu;rfl)
  change Calls Tryz.prog 72 _ _ _ at this
  refine this.mono ?_
  rintro e w' ⟨v',rfl,hown,-,hb⟩
  exact hR.out _ _ hown hb
theorem pnodeo_calls{w:World}{v:Value}{nm:List ByteArray}{F:Nat→Nat→Bool}{ns:List ByteArray}{x:List NdR×Int×List Int}(h:PlanP w v nm F ns x)(hb1:∀y∈x.1,y.names.length≤1000000∧y.edges.length≤1000000)(I:Nat)(hI:I<x.1.length)(R:Ending→World→Prop)
  (hR:Hid (∀w' nv ev y,x.1[I]?=some y→w'.ownsRow w.heap.size 9 1 nv y.names.length (sv y.names)→w'.ownsRow w.heap.size 67 10 ev y.edges.length (flatG encE y.edges)→Below w.heap.size w w'→R (.returned (.tuple #[.agg #[.int .i64 y.kind,.int .i64 y.at_,.int .i64 y.lo,.int .i64 y.hi,.int .i64 y.most,nv,ev],.bool true])) w')):Calls Tryz.prog 29 #[v,.int .i64 I] w R:=by
 obtain⟨P,lv,tab,A,Z,c,z,xs,rfl,hbx,-,-,hx,hr,hA,-⟩:=h.op;have hlen:xs.length=x.1.length:=by rw [←hx,List.length_map]
 obtain⟨g,o,rfl,hg,hca0⟩:=hA (by omega);have hIx:I<xs.length:=by omega
 have hca:=hca0 I hIx;have hy1:x.1[I]?=some (xs[I]).1:=by rw [←hx,List.getElem?_map,List.getElem?_eq_getElem hIx];rfl
 have hry:=hr _ (List.getElem_mem hIx);have hby:=hb1 _ (List.mem_of_getElem? hy1);clear hca0 hA hr hb1 hx;generalize xs[I]=y at *;obtain⟨⟨k0,k1,k2,k3,k4,ns_,es_⟩,nv,ev⟩:=y;simp only at hy1 hry hby;obtain⟨⟨rS,rE⟩,sh1,sh2⟩:=hry;obtain⟨A3,c3,rfl,-⟩:=rS.open;obtain⟨A4,c4,rfl,-⟩:=RdG.open encE_len (by decide) (show RdG encE 10 w ev es_ from rE);have m0:=F0.z w;obtain⟨V,e1,n,z1⟩:=m0.new (.cells #[.int .i64 0,.int .i64 0,.int .i64 0,.int .i64 0,.int .i64 0,.slice none 0 0,.slice none 0 0] 63);clear m0 z1;have hG:=n.b 0 rfl;have eS:=setRow_self V w.heap.size #[.int .i64 0,.int .i64 0,.int .i64 0,.int .i64 0,.int .i64 0,.slice none 0 0,.slice none 0 0] 63 (0,0) hG;have w0_:=n.c 0 0 rfl rfl;have w1_:=n.c 0 1 rfl rfl;have w2_:=n.c 0 2 rfl rfl;have w3_:=n.c 0 3 rfl rfl;have w4_:=n.c 0 4 rfl rfl;have w5_:=n.c 0 5 rfl rfl;have w6_:=n.c 0 6 rfl rfl;have hb:=F0.bel n;have lV:=n.lt 0 rfl;have hbV:=(hb.block P (hp_lt hbx)).trans hbx;have c1:=(Lib.cell_of_heap hbV 1).trans rfl;have planV:=Lib.hid (h.below hb)
 have rg:V.rangeAt g (o+I*7) [.int .i64 k0,.int .i64 k1,.int .i64 k2,.int .i64 k3,.int .i64 k4,.slice A3 ns_.length c3,.slice A4 es_.length c4]:=fun j u e=>by
  have hj:j<7:=(List.getElem?_eq_some_iff.1 e).1;rw [hb.cell (p:=⟨g,o+I*7+j,none⟩) hg,hca j hj];exact e
 clear hca h hbx hlen;go_enter Tryz.func29,Tryz.ntmps29
 go_upto_region 1 with fail
 clear e1;have q0:¬(I:Int)<0:=by omega
 have i0:(0:Int)≤(I:Int):=by omega
 have i1:(I:Int)<(x.1.length:Int):=by omega
 have q1:¬(x.1.length:Int)≤(I:Int):=by omega
 go_wp2_with fail
 refine plen_calls planV.out _ (Lib.hid ?_);go_upto_region 3 with fail
 obtain⟨V3,e3,n,z3⟩:=n.new (.cells [.int .i64 k0,.int .i64 k1,.int .i64 k2,.int .i64 k3,.int .i64 k4,.slice A3 ns_.length c3,.slice A4 es_.length c4].toArray 63);go_upto_region 4 with(first|(refine wpList_load_g (by rfl) 63 _ rfl g (o+I*7) rfl _ _ rg Tryz.underlying63 rfl (by kernel_rfl) ?_;go_simp)|(refine wpList_copy [.int .i64 k0,.int .i64 k1,.int .i64 k2,.int .i64 k3,.int .i64 k4,.slice A3 ns_.length c3,.slice A4 es_.length c4].toArray ⟨rfl,rfl,rfl⟩ ⟨rfl,rfl,rfl⟩ node_alloc (by kernel_rfl) ⟨rfl,by simp [Value.oneCell']⟩ (fun _=>⟨rfl,rfl⟩) ?_;go_simp))
 clear e3 z3 rg planV c1 hbV hG eS w0_ w1_ w2_ w3_ w4_ w5_ w6_;have hb3:=F0.bel n;have t5:=n.c 0 5 rfl rfl;go_wp2_with fail
 refine cloneS_calls ns_ _ V3 (rS.below hb3) sh1 hby.1 _ (Lib.hid fun v5 W5 o5 m5=>?_);have l3:=n.lt 0 rfl;replace n:=n.bl m5;clear t5;obtain⟨B5,d5,rfl⟩:=own_sl2 o5;have t5:=n.c 0 5 rfl rfl;have tf5:=n.f 0 5 rfl;obtain⟨V6,e6,n6,z6⟩:=n.put (j:=0) rfl [(5,.slice B5 ns_.length d5)];simp only[stL]at e6;simp only[stA,List.setIfInBounds_toArray,List.set_cons_succ,List.set_cons_zero]at n6
 have o6:V6.ownsRow V3.heap.size 9 1 (.slice B5 ns_.length d5) ns_.length (sv ns_):=ownKp o5 fun k q hk=>by
  rw [←e6];exact hp_sne (by omega)
 clear n;have n:=n6;clear n6;go_upto_region 5 with fail
 clear t5 tf5 e6 o5;have t6:=n.c 0 6 rfl rfl;go_wp2_with fail
 refine cloneE_calls es_ _ V6 (RdAt.below rE (F0.bel n)) sh2 hby.2 _ (Lib.hid fun v7 W7 o7 m7=>?_);replace n:=n.bl m7;have o8:W7.ownsRow V3.heap.size 9 1 (.slice B5 ns_.length d5) ns_.length (sv ns_):=ownKp o6 fun k q hk=>m7.block k (o6.lt k q).2
 clear t6 o6;obtain⟨B6,d6,rfl⟩:=own_sl2 o7;have t6:=n.c 0 6 rfl rfl;have tf6:=n.f 0 6 rfl;obtain⟨V8,e8,n8,z8⟩:=n.put (j:=0) rfl [(6,.slice B6 es_.length d6)];simp only[stL]at e8;simp only[stA,List.setIfInBounds_toArray,List.set_cons_succ,List.set_cons_zero]at n8;have l6:V3.heap.size≤V6.heap.size:=by rw [z6];exact m5.size
 have o9:V8.ownsRow V3.heap.size 9 1 (.slice B5 ns_.length d5) ns_.length (sv ns_):=ownKp o8 fun k q hk=>by
  rw [←e8];exact hp_sne (by omega)
 have o10:V8.ownsRow V6.heap.size 67 10 (.slice B6 es_.length d6) es_.length (flatG encE es_):=ownKp o7 fun k q hk=>by
  rw [←e8];exact hp_sne (by omega)
 clear n;have n:=n8;clear n8;go_upto_region 6 with fail
 clear t6 tf6 e8 o7 o8;have rF:=n.rg 0 rfl;have hG:=n.b 1 rfl;have lw:=n.lt 1 rfl;obtain⟨VE,eE,nE⟩:=n.row (j:=1) rfl [.int .i64 k0,.int .i64 k1,.int .i64 k2,.int .i64 k3,.int .i64 k4,.slice B5 ns_.length d5,.slice B6 es_.length d6].toArray;simp only[List.set_cons_succ,List.set_cons_zero]at nE;have w0_:=nE.c 1 0 rfl rfl;have w1_:=nE.c 1 1 rfl rfl;have w2_:=nE.c 1 2 rfl rfl;have w3_:=nE.c 1 3 rfl rfl;have w4_:=nE.c 1 4 rfl rfl;have w5_:=nE.c 1 5 rfl rfl;have w6_:=nE.c 1 6 rfl rfl
 have hne:∀k,k≠w.heap.size→VE.heap[k]?=V8.heap[k]?:=fun k hk=>by
  rw [←eE];exact setRow_other _ _ _ _ (by omega)
 have l9:w.heap.size<V3.heap.size:=by omega
 have fin:=Lib.hid (hR.out VE (.slice B5 ns_.length d5) (.slice B6 es_.length d6) _ hy1 (own_mono (ownKp o9 fun k q hk=>hne k (by omega)) (by omega)) (own_mono (ownKp o10 fun k q hk=>hne k (by omega)) (by omega)) (F0.bel nE));clear nE n hR o9 o10 hne;go_wp2_with (first|(refine wpList_load_g (by rfl) 63 _ rfl V.heap.size (0) rfl _ _ rF Tryz.underlying63 rfl (by kernel_rfl) ?_)|(refine wpList_store_row (by rfl) 63 _ _ (by rfl) w.heap.size [.int .i64 k0,.int .i64 k1,.int .i64 k2,.int .i64 k3,.int .i64 k4,.slice B5 ns_.length d5,.slice B6 es_.length d6].toArray (by rfl) (by rfl) 63 _ hG (by kernel_rfl) rfl (by simp [Value.oneCell']) ?_;go_simp))
 first|refine bodyPost_ret ?_ rfl fin.out|refine bodyPost_end ?_ rfl fin.out
 simp [results,Tryz.results29,go_sem,w0_,w1_,w2_,w3_,w4_,w5_,w6_]
theorem pnode_calls{w:World}{v:Value}{nm:List ByteArray}{F:Nat→Nat→Bool}{ns:List ByteArray}{x:List NdR×Int×List Int}(h:PlanP w v nm F ns x)(hb1:∀y∈x.1,y.names.length≤1000000∧y.edges.length≤1000000)(I:Nat)(hI:I<x.1.length)(R:Ending→World→Prop)
 (hR:Hid (∀w' nv ev y,x.1[I]?=some y→RdS w' nv y.names→RdEd w' ev y.edges→Below w.heap.size w w'→R (.returned (.tuple #[.agg #[.int .i64 y.kind,.int .i64 y.at_,.int .i64 y.lo,.int .i64 y.hi,.int .i64 y.most,nv,ev],.bool true])) w')):Calls Tryz.prog 29 #[v,.int .i64 I] w R :=
pnodeo_calls h hb1 I hI R (Lib.hid fun w' nv ev y hy a b m=>hR.out w' nv ev y hy (RdAt.of_own a) (RdAt.of_own b) m)
def refT:TH:=⟨9,0,0,0,0,[],⟨#[116]⟩,0⟩
def optT:TH:=⟨6,0,0,0,0,[],⟨#[]⟩,0⟩
def boolT:TH:=⟨1,0,0,0,0,[],⟨#[]⟩,0⟩
def noP:PH:=⟨⟨#[]⟩,0,false,[],0,0,0,0,[]⟩
def tF:Ft:=.cons noP refT .nil .nil
def sc18:Sc:=([(⟨#[97]⟩,0)],[],[((⟨#[116]⟩,0),optT,tF)],boolT,.nil)
theorem i64_z:I64 0:=⟨by decide,by decide⟩
theorem pnodeno_calls{w:World}{v:Value}{nm:List ByteArray}{F:Nat→Nat→Bool}{ns:List ByteArray}{x:List NdR×Int×List Int}(h:PlanP w v nm F ns x)(i:Int)(hi:i<0∨(x.1.length:Int)≤i)(R:Ending→World→Prop)(hR:Hid (∀w',Below w.heap.size w w'→R (.returned (.tuple #[.agg #[.int .i64 0,.int .i64 0,.int .i64 0,.int .i64 0,.int .i64 0,.slice none 0 0,.slice none 0 0],.bool false])) w')):Calls Tryz.prog 29 #[v,.int .i64 i] w R:=by
 obtain⟨P,_,_,_,_,_,rfl,-⟩:=id h;have m0:=F0.z w;obtain⟨V,e1,n,z1⟩:=m0.new (.cells #[.int .i64 0,.int .i64 0,.int .i64 0,.int .i64 0,.int .i64 0,.slice none 0 0,.slice none 0 0] 63);clear m0 z1;have hG:=n.b 0 rfl;have eS:=setRow_self V w.heap.size #[.int .i64 0,.int .i64 0,.int .i64 0,.int .i64 0,.int .i64 0,.slice none 0 0,.slice none 0 0] 63 (0,0) hG;have w0_:=n.c 0 0 rfl rfl;have w1_:=n.c 0 1 rfl rfl;have w2_:=n.c 0 2 rfl rfl;have w3_:=n.c 0 3 rfl rfl;have w4_:=n.c 0 4 rfl rfl;have w5_:=n.c 0 5 rfl rfl;have w6_:=n.c 0 6 rfl rfl;have planV:=Lib.hid (h.below (F0.bel n));have fin:=Lib.hid (hR.out V (F0.bel n));clear n hR h;go_enter Tryz.func29,Tryz.ntmps29
 go_upto_region 1 with fail
 clear e1
 by_cases h0:i<0
 ·go_upto_region 2 with fail
  go_wp2_with (refine wpList_store_row (by rfl) 63 _ _ (by rfl) w.heap.size #[.int .i64 0,.int .i64 0,.int .i64 0,.int .i64 0,.int .i64 0,.slice none 0 0,.slice none 0 0] (by rfl) (by rfl) 63 _ hG (by kernel_rfl) rfl (by simp [Value.oneCell']) ?_;rw [eS])
  first|refine bodyPost_ret ?_ rfl fin.out|refine bodyPost_end ?_ rfl fin.out
  simp [results,Tryz.results29,go_sem,w0_,w1_,w2_,w3_,w4_,w5_,w6_]
 ·have h1:(x.1.length:Int)≤i:=by omega
  go_wp2_with fail
  refine plen_calls planV.out _ (Lib.hid ?_);go_upto_region 2 with fail
  go_wp2_with (refine wpList_store_row (by rfl) 63 _ _ (by rfl) w.heap.size #[.int .i64 0,.int .i64 0,.int .i64 0,.int .i64 0,.int .i64 0,.slice none 0 0,.slice none 0 0] (by rfl) (by rfl) 63 _ hG (by kernel_rfl) rfl (by simp [Value.oneCell']) ?_;rw [eS])
  first|refine bodyPost_ret ?_ rfl fin.out|refine bodyPost_end ?_ rfl fin.out
  simp [results,Tryz.results29,go_sem,w0_,w1_,w2_,w3_,w4_,w5_,w6_]
theorem addA_behind{nm:List ByteArray}{F:Nat→Nat→Bool}{tg:ByteArray→Int}:∀(l:List Nd)(m:List NdR),m.length≤(addA nm F tg l m).2.length∧∀i,i<m.length→(addA nm F tg l m).2[i]?=m[i]?
| [],m=>⟨Nat.le_refl _,fun _ _=>rfl⟩
| x::r,m=>by
 have b:=addT_behind nm F tg x.2.1 x.2.2 m;have h:=addA_behind (nm:=nm) (F:=F) (tg:=tg) r (addT nm F tg x.2.1 x.2.2 m).2;exact⟨Nat.le_trans b.1 h.1,fun i hi=>(h.2 i (Nat.lt_of_lt_of_le hi b.1)).trans (b.2.2 i hi)⟩
def EdIn(M:Nat)(e:EdR):Prop:=(e.bare=true→e.dst=-1)∧(e.bare=false→0≤e.dst∧e.dst<(M:Int))
def NdIn(M:Nat)(l:List NdR):Prop:=∀y∈l,∀e∈y.edges,EdIn M e
theorem NdIn.set{M:Nat}{l:List NdR}{i:Nat}{y:NdR}(h:NdIn M l)(hy:∀e∈y.edges,EdIn M e):NdIn M (l.set i y):=fun z hz=>by
 rcases List.mem_or_eq_of_mem_set hz with hz|rfl
 ·exact h z hz
 ·exact hy
theorem NdIn.snoc{M:Nat}{l:List NdR}{y:NdR}(h:NdIn M l)(hy:∀e∈y.edges,EdIn M e):NdIn M (l++[y]):=fun z hz=>by
 rcases List.mem_append.1 hz with hz|hz
 ·exact h z hz
 ·obtain rfl:=List.mem_singleton.1 hz
  exact hy
theorem addF_in{nm:List ByteArray}{F:Nat→Nat→Bool}{tg:ByteArray→Int}{M:Nat}(ht:∀x,0≤tg x∧tg x<(M:Int)):∀(f:Ft)(l:List NdR),NdIn M l→(addF nm F tg f l).2.length≤M→(∀e∈(addF nm F tg f l).1,EdIn M e)∧NdIn M (addF nm F tg f l).2
| .nil,l,h,_=>⟨(fun e he=>by cases he),h⟩
| .cons p h k r,l,hl,hM=>by
 rw [addF_cons]at hM ⊢;have b2:=addF_behind (nm:=nm) (F:=F) (tg:=tg) r (addK nm F tg p h k l).2;have hM1:(addK nm F tg p h k l).2.length≤M:=Nat.le_trans b2.1 hM
 have hk:EdIn M (addK nm F tg p h k l).1∧NdIn M (addK nm F tg p h k l).2:=by
  unfold addK at hM1 ⊢
  by_cases c:p.bare=true
  ·rw [if_pos c]
   exact⟨⟨fun _=>rfl,fun q=>by rw [show(edP nm F p (-1)).bare=p.bare from rfl,c]at q;cases q⟩,hl⟩
  ·rw [if_neg c]at hM1 ⊢
   have nb:∀d,(edP nm F p d).bare=true→(edP nm F p d).dst=-1:=fun d q=>absurd q c
   unfold addW at hM1 ⊢
   by_cases c9:h.kind=9
   ·rw [if_pos c9]
    exact⟨⟨nb _,fun _=>ht h.name⟩,hl⟩
   ·rw [if_neg c9]at hM1 ⊢
    have b3:=addF_behind (nm:=nm) (F:=F) (tg:=tg) k (l++[ndP h]);have hlen:(l++[ndP h]).length=l.length+1:=by simp
    simp only[List.length_set]at hM1;obtain⟨i1,i2⟩:=addF_in ht k (l++[ndP h]) (hl.snoc (by intro e he;cases he)) hM1
    have hb:=b3.1;refine⟨⟨nb _,fun _=>⟨by show(0:Int)≤(l.length:Int);omega,by show(l.length:Int)<(M:Int);omega⟩⟩,i2.set i1⟩
 obtain⟨j1,j2⟩:=addF_in ht r _ hk.2 hM;refine⟨fun e he=>?_,j2⟩;rcases List.mem_cons.1 he with rfl|he
 ·exact hk.1
 ·exact j1 e he
end Go.Proofs.YtabhkakomececaaGreat.Res
namespace Go.Proofs.YtabhkakomececaaGreat.Inh
open Res
def atD(D:List Int)(d:Int):Int:=D.getD d.toNat 0
def recD(D:List Int):List EdR→Int→Int
| [],g=>g+1
| e::r,g=>if atD D e.dst=0 then 0 else recD D r (max g (atD D e.dst))
def uniD(D:List Int):List EdR→Int→Int
| [],l=>l
| e::r,l=>if e.bare then 1 else uniD D r (if 0<atD D e.dst∧(l=0∨atD D e.dst+1<l)then atD D e.dst+1 else l)
def depN(D:List Int)(y:NdR):Int:=if y.kind=7 then recD D y.edges 0 else if y.kind=8 then uniD D y.edges 0 else 1
def recC(C:List Int):List EdR→Int→Int
| [],p=>p
| e::r,p=>recC C r (min (p*atD C e.dst) 2)
def uniC(C:List Int):List EdR→Int→Int
| [],s=>min s 2
| e::r,s=>uniC C r (s+if e.bare then 1 else atD C e.dst)
def oneC(b:Prop) [Decidable b]:Int:=if b then 2 else 1
def fstD(y:NdR):Int:=(y.edges.head?.map (·.dst)).getD 0
def cntN(C:List Int)(y:NdR):Int :=
if y.kind=2 then oneC (y.lo<y.hi)else if y.kind=3 then oneC (0<y.most)else if y.kind=4 then min (y.names.length:Int) 2 else
if y.kind=5 then oneC (0<y.most∧0<atD C (fstD y))else if y.kind=6 then oneC (0<atD C (fstD y))else
if y.kind=7 then recC C y.edges 1 else if y.kind=8 then uniC C y.edges 0 else 2
def stp(f:List Int→NdR→Int)(ns:List NdR)(D:List Int):List Int:=ns.map (f D)
def itr(f:List Int→NdR→Int)(ns:List NdR):Nat→List Int
| 0=>ns.map fun _=>0
| k+1=>stp f ns (itr f ns k)
theorem stp_len(f:List Int→NdR→Int)(ns:List NdR)(D:List Int):(stp f ns D).length=ns.length:=List.length_map _
theorem itr_len(f:List Int→NdR→Int)(ns:List NdR):∀k,(itr f ns k).length=ns.length
| 0=>List.length_map _
| _+1=>stp_len _ _ _
def Rel(d:Int)(D E:List Int):Prop:=∀j,0≤atD D j∧atD D j≤d∧(atD D j≠0→atD E j=atD D j)∧(atD D j=0→atD E j=0∨atD E j=d+1)
def RelN(d a b:Int):Prop:=0≤a∧a≤d∧(a≠0→b=a)∧(a=0→b=0∨b=d+1)
def zer:List Int→Nat
| []=>0
| a::l=>(if a=0 then 1 else 0)+zer l
def room:List Int→Nat
| []=>0
| a::l=>(2-a).toNat+room l
def LeD(C D:List Int):Prop:=∀j,0≤atD C j∧atD C j≤atD D j∧atD D j≤2
structure GoodY(y:NdR):Prop where
kb:1≤y.kind∧y.kind≤8
e56:y.kind=5∨y.kind=6→∃e,y.edges=[e]∧e.bare=false
e7:y.kind=7→∀e∈y.edges,e.bare=false
n4:y.kind=4→y.names≠[]
m3:y.kind=3∨y.kind=5→0≤y.most∧y.most≤4096
le:y.edges.length≤64
ln:y.names.length≤64
def onB(K:Int→Bool)(y:NdR):Bool :=
if y.kind=7 then y.edges.all (fun e=>e.bare||K e.dst)else if y.kind=8 then y.edges.any (fun e=>e.bare||K e.dst)else true
def posD(D:List Int)(j:Int):Bool:=decide (atD D j≠0)
def GoodL(ns:List NdR):Prop:=∀y∈ns,GoodY y
end Go.Proofs.YtabhkakomececaaGreat.Inh
