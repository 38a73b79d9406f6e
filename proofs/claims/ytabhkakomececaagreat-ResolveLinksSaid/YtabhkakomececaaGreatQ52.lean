import Derived.Test.YtabhkakomececaaGreatQX
import Derived.Test.YtabhkakomececaaGreatQ37
import Derived.Test.YtabhkakomececaaGreatQ51
import Derived.Test.YtabhkakomececaaGreatQ32
set_option linter.all false
set_option maxRecDepth 100000
set_option maxHeartbeats 4000000
namespace Go.Proofs.YtabhkakomececaaGreat
namespace Unp
open Go.RowKit Go.Lib Nam Lat Kin Dig
def eqL{α:Type}(S:α→α→Bool):List α→List α→Bool
| [],[]=>true
| x::l,y::m=>S x y&&eqL S l m
| _,_=>false
def sW(x y:Wr):Bool:=decide (x.1=y.1)
def sP(x y:Pr):Bool:=sW x.1 y.1&&sW x.2 y.2
def sN(x y:Nd):Bool:=sW x.1 y.1&&sameS x.2.1 x.2.2 y.2.1 y.2.2
def sameSc(s t:Sc):Bool:=eqL sW s.1 t.1&&eqL sP s.2.1 t.2.1&&eqL sN s.2.2.1 t.2.2.1&&sameS s.2.2.2.1 s.2.2.2.2 t.2.2.2.1 t.2.2.2.2
end Unp
namespace Unp
open Go.RowKit Go.Lib Go.Deep Go.ChangeShapes Go.WideShapes Nam Lat Kin
def LimT(h:TH)(f:Ft):Prop:=LimH h∧f.All LimH LimL∧(f.len≤maxLen∧LimN f.len)∧f.AllB LimN
structure LimS(s:Sc):Prop where
t:∀x∈s.2.2.1,LimT x.2.1 x.2.2
r:LimT s.2.2.2.1 s.2.2.2.2
section
variable {G:Type} {enc':TypeId×Value→G} {W:World}
theorem typ_inS{f:Nat}{cs:List Value}(hT:TrS enc' Tryz.prog W 0 f 36 cs)(hl:cs.length=9):∃h fo,LimT h fo∧RdNd 9 9 hdT plT W cs h fo:=by
 have hbp:Tryz.prog.bytesOf 127=224:=by kernel_rfl
 obtain⟨h,gh,fo,ln,hn,ga,gb⟩:=arg_treeT (k:=9) (pre:=9) (hd:=hdT) (pl:=plT) (P:=Tryz.prog) (W:=W) (bs:=0) (TrS enc' Tryz.prog W 0) LimN (tT:=36) (tE:=127) (tS:=32) (by kernel_rfl) (by decide) LimH LimL
  (fun f v h=>by
   obtain⟨A,len,cap,e,h1,h2,hb,h3⟩:=TrS.slice Tryz.underlying32 h;rw [hbp]at hb;have:=reachBytes_lt;exact⟨A,len,cap,e,h1,h2,by unfold LimN;omega,h3⟩) node_typS elem_typS (f+1) f (Nat.lt_succ_self f) cs hT hl
 exact⟨h,fo,⟨gh,ga,ln,gb⟩,hn⟩
theorem named_inS{f:Nat}{v:Value}(h:TrS enc' Tryz.prog W 0 f 31 [v]) :
  ∃l:List Nd,RdNs W v l∧(∀x∈l,GoodW x.1∧LimT x.2.1 x.2.2)∧l.length≤maxLen:=by
 obtain⟨A,len,cap,rfl,hlc,hcm,-,hel⟩:=TrS.slice Tryz.underlying31 h
 by_cases hl:0<len
 ·obtain⟨a,f2,rfl,-,hi⟩:=hel hl
  have ce:Tryz.prog.cellsOf 100=11:=by kernel_rfl
  have key:∀i,i<len→∃(y:Nd) (nv pv:Value),(GoodW y.1∧LimT y.2.1 y.2.2)∧RdY W y.2.1 y.2.2 nv pv∧∀j,j<11→W.cell? (a.add (i*11+j))=[Value.string y.1.1,.int .i64 y.1.2,.int .i64 y.2.1.kind,.int .i64 y.2.1.at_,.int .i64 y.2.1.lo,.int .i64 y.2.1.hi,.int .i64 y.2.1.most,nv,pv,.string y.2.1.name,.int .i64 y.2.1.nat][j]?:=by
   intro i hlt;obtain⟨cs,h1,h2⟩:=hi i hlt;rw [ce]at h1;obtain⟨-,hlen,hcell⟩:=World.cells?_some h1;obtain⟨n,-,hf⟩:=TrS.struct Tryz.underlying100 h2
   match cs,hlen,hcell with
   | [v0,v1,u0,u1,u2,u3,u4,u5,u6,u7,u8],_,hcell =>
    have g0:=hf 0 _ rfl;have g1:=hf 1 _ rfl;have c2:Tryz.prog.cellsOf 34=2:=by kernel_rfl
    have c9:Tryz.prog.cellsOf 36=9:=by kernel_rfl
    simp [c2,c9]at g0 g1;obtain⟨x0,g0,-⟩:=g0;obtain⟨wd,e1,q1⟩:=word_one g0 rfl;obtain⟨th,fo,lt,hn⟩:=typ_inS g1 rfl;obtain⟨nv,pv,e2,hy⟩:=RdY.node hn
    have e3:[v0,v1,u0,u1,u2,u3,u4,u5,u6,u7,u8]=encW wd++[.int .i64 th.kind,.int .i64 th.at_,.int .i64 th.lo,.int .i64 th.hi,.int .i64 th.most,nv,pv,.string th.name,.int .i64 th.nat]:=by
     rw [←e1,←e2];rfl
    refine⟨(wd,th,fo),nv,pv,⟨q1,lt⟩,hy,fun j hj=>?_⟩;have:=hcell j hj;rw [add_add,e3]at this;exact this
  obtain⟨b,off,spot⟩:=a
  have hspot:spot=none∧b<W.heap.size:=by
   obtain⟨y,nv,pv,-,-,hc⟩:=key 0 hl;have:=hc 0 (by decide);have hs:spot=none:=by simpa [Addr.add]using World.cell?_spot this
   subst hs;exact⟨rfl,by have:=World.block_lt_of_cell? W _ this;simpa [Addr.add]using this⟩
  obtain⟨rfl,hb⟩:=hspot;have ad:∀j,(⟨b,off,none⟩:Addr).add j=⟨b,off+j,none⟩:=fun j=>by unfold Addr.add;split<;>simp_all
  have build:∀m i,i+m=len→∃xs:List Nd,xs.length=m∧(∀x∈xs,GoodW x.1∧LimT x.2.1 x.2.2)∧∀q,q<m→∃nv pv,RdY W (nN xs q).2.1 (nN xs q).2.2 nv pv∧∀j u,[Value.string (nN xs q).1.1,.int .i64 (nN xs q).1.2,.int .i64 (nN xs q).2.1.kind,.int .i64 (nN xs q).2.1.at_,.int .i64 (nN xs q).2.1.lo,.int .i64 (nN xs q).2.1.hi,.int .i64 (nN xs q).2.1.most,nv,pv,.string (nN xs q).2.1.name,.int .i64 (nN xs q).2.1.nat][j]?=some u→W.cell? ⟨b,off+(i+q)*11+j,none⟩=some u:=by
   intro m
   induction m with
   | zero=>intro i _;exact⟨[],rfl,by simp,fun q hq=>by omega⟩
   | succ m im =>
    intro i e;obtain⟨xs,e1,e2,e3⟩:=im (i+1) (by omega);obtain⟨y,nv,pv,gy,hy,hc⟩:=key i (by omega);refine⟨y::xs,by simp [e1],fun z hz=>?_,fun q hq=>?_⟩
    ·rcases List.mem_cons.1 hz with rfl|q
     ·exact gy
     ·exact e2 z q
    ·cases q with
     | zero =>
      refine⟨nv,pv,hy,fun j u hj=>?_⟩;have hj':j<11:=(List.getElem?_eq_some_iff.1 hj).1;have:=hc j hj';rw [ad]at this;rw [Nat.add_zero,Nat.add_assoc,this];exact hj
     | succ q =>
      obtain⟨nv',pv',hy',hc'⟩:=e3 q (by omega);refine⟨nv',pv',hy',fun j u hj=>?_⟩;rw [show i+(q+1)=i+1+q by omega];exact hc' j u hj
  obtain⟨xs,e1,e2,e3⟩:=build len 0 (Nat.zero_add _);subst e1;exact⟨xs,⟨_,cap,rfl,hlc,fun _=>⟨b,off,rfl,hb,fun i hi=>by have:=e3 i hi;rwa [Nat.zero_add]at this⟩⟩,e2,Nat.le_trans hlc hcm⟩
 ·obtain rfl:len=0:=by omega
  exact⟨[],⟨A,cap,rfl,Nat.zero_le _,fun h=>absurd h (by simp)⟩,by simp,Nat.zero_le _⟩
end
theorem arg_sch_s{H:Type}{enc':TypeId×Value→H}{W:World}{base:Nat}{v:Value}{d:DataW H}{p:List MemPlace}(hv:Value.okWide Tryz.prog W .any base 38 v)
  (h:DataW.Trod enc' Tryz.prog W 0 (fun _=>true) true 38 v d p) (hs:∀n∈d.weights Tryz.prog 38,n≤reachBytes):∃q:Scx,v=scV q.1 q.2.1 q.2.2.1 q.2.2.2.1 q.2.2.2.2.1 q.2.2.2.2.2∧RdSc W q.1 q.2.1 q.2.2.1 q.2.2.2.1 q.2.2.2.2.1 q.2.2.2.2.2∧GoodS q.1∧LimS q.1:=by
 unfold Value.okWide at hv;rw [Tryz.underlying38]at hv;obtain⟨cs,rfl,hs',ts,ht,-,hc⟩:=hv;have c2:Tryz.prog.cellsOf 38=12:=by kernel_rfl
 rw [c2]at hs';obtain⟨fuel,hf⟩:=h;obtain⟨l⟩:=cs;have hl:l.length=12:=by simpa using hs'
 have hT:TrS enc' Tryz.prog W 0 fuel 38 l:=⟨_,hf,hs⟩;obtain⟨n,-,hfs⟩:=TrS.struct Tryz.underlying38 hT
 match l,hl with
 | [v0,v1,v2,u0,u1,u2,u3,u4,u5,u6,u7,u8],_ =>
  have g0:=hfs 0 _ rfl;have g1:=hfs 1 _ rfl;have g2:=hfs 2 _ rfl;have g3:=hfs 3 _ rfl;have cw:Tryz.prog.cellsOf 29=1:=by kernel_rfl
  have cp:Tryz.prog.cellsOf 30=1:=by kernel_rfl
  have cn:Tryz.prog.cellsOf 31=1:=by kernel_rfl
  have ct:Tryz.prog.cellsOf 36=9:=by kernel_rfl
  simp [cw,cp,cn,ct]at g0 g1 g2 g3;obtain⟨x0,g0,-⟩:=g0;obtain⟨x1,g1,-⟩:=g1;obtain⟨ls,rl,gl,ll⟩:=words_in g0;obtain⟨os,ro,go,lo⟩:=pairs_in g1;obtain⟨ns,rn,gn,ln⟩:=named_inS g2;obtain⟨th,fo,lt,hn⟩:=typ_inS g3 rfl;obtain⟨nv,pv,e2,hy⟩:=RdY.node hn;have e3:[u0,u1,u2,u3,u4,u5,u6,u7,u8]=[.int .i64 th.kind,.int .i64 th.at_,.int .i64 th.lo,.int .i64 th.hi,.int .i64 th.most,nv,pv,.string th.name,.int .i64 th.nat]:=e2;simp only[List.cons.injEq,and_true]at e3;obtain⟨rfl,rfl,rfl,rfl,rfl,rfl,rfl,rfl,rfl⟩:=e3;exact⟨((ls,os,ns,th,fo),v0,v1,v2,_,_),rfl,⟨rl,ro,rn,hy⟩,⟨gl,ll,go,lo,fun x hx=>⟨(gn x hx).1,(gn x hx).2.1.1,all_good (gn x hx).2.2.1,(gn x hx).2.2.2.1.1⟩,ln,lt.1.1,all_good lt.2.1,lt.2.2.1.1⟩,⟨fun x hx=>(gn x hx).2,lt⟩⟩
end Unp
namespace Unp
open Go.RowKit Go.Lib Nam Lat Kin Dig
def stP(p:Pr):Pr:=((p.1.1,0),(p.2.1,0))
def stN(n:Nd):Nd:=((n.1.1,0),stripH n.2.1,stripF n.2.2)
def stS(s:Sc):Sc:=(stripW s.1,s.2.1.map stP,s.2.2.1.map stN,stripH s.2.2.2.1,stripF s.2.2.2.2)
def plW(x:Wr):Bool:=decide (x.2=0)
def plP(x:Pr):Bool:=decide (x.1.2=0)&&decide (x.2.2=0)
def plN(x:Nd):Bool:=decide (x.1.2=0)&&placeS x.2.1 x.2.2
def placeSc(s:Sc):Bool:=placeS s.2.2.2.1 s.2.2.2.2&&s.1.all plW&&s.2.1.all plP&&s.2.2.1.all plN
theorem goodW_st{x:Wr}(h:GoodW x):GoodW (x.1,0):=⟨h.1,by show(-9223372036854775808:Int)≤0;decide,by show(0:Int)≤9223372036854775807;decide⟩
theorem stw_calls(x:Wr)(w:World)(R:Ending→World→Prop)(hR:Hid (∀w',Below w.heap.size w w'→R (.returned (.agg #[.string x.1,.int .i64 0])) w')):Calls Tryz.prog 66 #[.agg #[.string x.1,.int .i64 x.2]] w R:=by
 have n:=((Below.refl w.heap.size w).alloc (Nat.le_refl _) (.cells #[.string x.1,.int .i64 x.2] 34)).alloc (by rw [alz];omega) (.cells #[.string x.1,.int .i64 0] 34)
 have fin:=Lib.hid (hR.out _ n);have hB:=heap_alloc_new (w.alloc (.cells #[.string x.1,.int .i64 x.2] 34)) (.cells #[.string x.1,.int .i64 0] 34);have zA:(w.alloc (.cells #[.string x.1,.int .i64 x.2] 34)).heap.size=w.heap.size+1:=by simp
 rw [zA]at hB;have y0:=(Lib.cell_of_heap hB 0).trans rfl;have y1:=(Lib.cell_of_heap hB 1).trans rfl;clear hR n hB zA;go_enter Tryz.func66,Tryz.ntmps66
 go_wp2_with fail
 refine bodyPost_ret ?_ rfl fin.out;simp [results,Tryz.results66,go_sem,y0,y1]
theorem stP_calls(x:Pr)(w:World)(R:Ending→World→Prop)
  (hR:Hid (∀w',Below w.heap.size w w'→R (.returned (.agg #[.string x.1.1,.int .i64 0,.string x.2.1,.int .i64 0])) w')):Calls Tryz.prog 68 #[.agg #[.string x.1.1,.int .i64 x.1.2,.string x.2.1,.int .i64 x.2.2]] w R:=by
 have hA:=heap_alloc_new w (.cells #[.string x.1.1,.int .i64 x.1.2,.string x.2.1,.int .i64 x.2.2] 142);have zA:(w.alloc (.cells #[.string x.1.1,.int .i64 x.1.2,.string x.2.1,.int .i64 x.2.2] 142)).heap.size=w.heap.size+1:=by simp
 have hB:=heap_alloc_new (w.alloc (.cells #[.string x.1.1,.int .i64 x.1.2,.string x.2.1,.int .i64 x.2.2] 142)) (.cells #[.string ⟨#[]⟩,.int .i64 0,.string ⟨#[]⟩,.int .i64 0] 142);rw [zA]at hB;replace hA:=((alB (w.alloc (.cells #[.string x.1.1,.int .i64 x.1.2,.string x.2.1,.int .i64 x.2.2] 142)) (.cells #[.string ⟨#[]⟩,.int .i64 0,.string ⟨#[]⟩,.int .i64 0] 142)).block _ (blt hA)).trans hA;have n:=((Below.refl w.heap.size w).alloc (Nat.le_refl _) (.cells #[.string x.1.1,.int .i64 x.1.2,.string x.2.1,.int .i64 x.2.2] 142)).alloc (by rw [zA];omega) (.cells #[.string ⟨#[]⟩,.int .i64 0,.string ⟨#[]⟩,.int .i64 0] 142)
 clear zA;go_enter Tryz.func68,Tryz.ntmps68
 go_upto_region 1 with fail
 generalize(w.alloc (.cells #[.string x.1.1,.int .i64 x.1.2,.string x.2.1,.int .i64 x.2.2] 142)).alloc (.cells #[.string ⟨#[]⟩,.int .i64 0,.string ⟨#[]⟩,.int .i64 0] 142)=V at *;have lV:w.heap.size+1<V.heap.size:=blt hB;have c1:=Lib.hid fun(W:World) R hR=>stw_calls x.1 W R hR
 have c2:=Lib.hid fun(W:World) R hR=>stw_calls x.2 W R hR
 have a0:=fun y:GW V (w.heap.size+1) (w.heap.size+1)=>y.cell (blt hA) (by omega) (by omega) ((Lib.cell_of_heap hA 0).trans rfl)
 have a1:=fun y:GW V (w.heap.size+1) (w.heap.size+1)=>y.cell (blt hA) (by omega) (by omega) ((Lib.cell_of_heap hA 1).trans rfl)
 have a2:=fun y:GW V (w.heap.size+1) (w.heap.size+1)=>y.cell (blt hA) (by omega) (by omega) ((Lib.cell_of_heap hA 2).trans rfl)
 have a3:=fun y:GW V (w.heap.size+1) (w.heap.size+1)=>y.cell (blt hA) (by omega) (by omega) ((Lib.cell_of_heap hA 3).trans rfl)
 refine wp_region_mixG (w.heap.size+1) (w.heap.size+1) [([0,1,3,4],2),([],5),([6],7)] [] (by kernel_rfl) (by kernel_rfl) (by kernel_rfl) (by kernel_rfl) (fun _ _ d _ _ h=>by cases d<;>exact h) ?_
 have gW:Below V.heap.size V (V.drewN 1):=⟨rfl,rfl,rfl,Nat.le_refl _,fun _ _=>rfl⟩;refine mix_cons (os:=[_,_,_,_]) (by simp only[pickO,List.filterMap_cons,List.filterMap_nil,List.getElem?_toArray,List.getElem?_cons_succ,List.getElem?_cons_zero];rfl) (fun Kp hKp=>?_)
 repeat (go_big_quiet_step (exact rfl))
 refine wpQuiet_nil ?_;refine hKp _ ?_;clear hKp;refine loud (by rfl) (by kernel_rfl) (fun K1 hK1=>?_);go_simp;refine c1.out _ _ (Lib.hid fun w1 m1=>?_);have g1:=gW.trans (m1.mono gW.size);refine hK1 _ _ (GW.bl g1) ?_;clear hK1 c1;refine mix_cons (os:=[]) (by rfl) (fun Kp hKp=>?_);refine wpQuiet_nil ?_;refine hKp _ ?_;clear hKp;refine loud (by rfl) (by kernel_rfl) (fun K2 hK2=>?_);go_simp;refine c2.out _ _ (Lib.hid fun w2 m2=>?_);have g2:=g1.trans (m2.mono g1.size);refine hK2 _ _ (GW.bl g2) ?_;clear hK2 c2;refine mix_cons (os:=[_]) (by simp only[pickO,List.filterMap_cons,List.filterMap_nil,List.getElem?_toArray,List.getElem?_cons_succ,List.getElem?_cons_zero];rfl) (fun Kp hKp=>?_)
 go_big_quiet_step (exact rfl);refine wpQuiet_nil ?_
 refine hKp _ ?_;clear hKp;refine loud (by rfl) (by kernel_rfl) (fun K3 hK3=>?_);replace hB:=(g2.block _ lV).trans hB;have z0:=(Lib.cell_of_heap hB 0).trans rfl;have z1:=(Lib.cell_of_heap hB 1).trans rfl;have z2:=(Lib.cell_of_heap hB 2).trans rfl;have z3:=(Lib.cell_of_heap hB 3).trans rfl;have zf0:=Lib.frozen_of_heap hB 0;have zf1:=Lib.frozen_of_heap hB 1;have zf2:=Lib.frozen_of_heap hB 2;have zf3:=Lib.frozen_of_heap hB 3;go_simp;refine hK3 _ _ (GW.set (GW.set (GW.set (GW.set (GW.bl g2) _) _) _) _) ?_;clear hK3;refine mix_nil (os:=[]) (by rfl) (fun Kp hKp=>?_);refine wpQuiet_nil ?_;refine hKp _ ?_;clear hKp;have n2:=n.trans (g2.mono n.size);have nF:=(((n2.setCell (p:=⟨w.heap.size+1,0,none⟩) (Nat.le_succ _) (.string x.1.1)).setCell (p:=⟨w.heap.size+1,1,none⟩) (Nat.le_succ _) (.int .i64 0)).setCell (p:=⟨w.heap.size+1,2,none⟩) (Nat.le_succ _) (.string x.2.1)).setCell (p:=⟨w.heap.size+1,3,none⟩) (Nat.le_succ _) (.int .i64 0);have fin:=Lib.hid (hR.out _ nF);clear hR nF n2;go_wp2_with fail
 refine bodyPost_ret ?_ rfl fin.out;simp [results,Tryz.results68,go_sem,z0,z1,z2,z3]
theorem stN_calls(x:Nd)(gx:GoodN x)(lx:LimT x.2.1 x.2.2)(nv pv:Value)(w:World)(hy:RdY w x.2.1 x.2.2 nv pv)(R:Ending→World→Prop)
  (hR:Hid (∀nv' pv' w',RdY (empW (lowS w.heap.size) w') (stripH x.2.1) (stripF x.2.2) nv' pv'→Below w.heap.size w w'→R (.returned (.agg #[.string x.1.1,.int .i64 0,.int .i64 (stripH x.2.1).kind,.int .i64 (stripH x.2.1).at_,.int .i64 (stripH x.2.1).lo,.int .i64 (stripH x.2.1).hi,.int .i64 (stripH x.2.1).most,nv',pv',.string (stripH x.2.1).name,.int .i64 (stripH x.2.1).nat])) w')):Calls Tryz.prog 70 #[.agg #[.string x.1.1,.int .i64 x.1.2,.int .i64 x.2.1.kind,.int .i64 x.2.1.at_,.int .i64 x.2.1.lo,.int .i64 x.2.1.hi,.int .i64 x.2.1.most,nv,pv,.string x.2.1.name,.int .i64 x.2.1.nat]] w R:=by
 obtain⟨N1,N3,rfl,-,-⟩:=hy.n.op;obtain⟨M1,M3,rfl,-⟩:=hy.p.sl;have hA:=heap_alloc_new w (.cells #[.string x.1.1,.int .i64 x.1.2,.int .i64 x.2.1.kind,.int .i64 x.2.1.at_,.int .i64 x.2.1.lo,.int .i64 x.2.1.hi,.int .i64 x.2.1.most,.slice N1 x.2.1.names.length N3,.slice M1 x.2.2.len M3,.string x.2.1.name,.int .i64 x.2.1.nat] 100);have zA:(w.alloc (.cells #[.string x.1.1,.int .i64 x.1.2,.int .i64 x.2.1.kind,.int .i64 x.2.1.at_,.int .i64 x.2.1.lo,.int .i64 x.2.1.hi,.int .i64 x.2.1.most,.slice N1 x.2.1.names.length N3,.slice M1 x.2.2.len M3,.string x.2.1.name,.int .i64 x.2.1.nat] 100)).heap.size=w.heap.size+1:=by simp
 have hB:=heap_alloc_new (w.alloc (.cells #[.string x.1.1,.int .i64 x.1.2,.int .i64 x.2.1.kind,.int .i64 x.2.1.at_,.int .i64 x.2.1.lo,.int .i64 x.2.1.hi,.int .i64 x.2.1.most,.slice N1 x.2.1.names.length N3,.slice M1 x.2.2.len M3,.string x.2.1.name,.int .i64 x.2.1.nat] 100)) (.cells #[.string ⟨#[]⟩,.int .i64 0,.int .i64 0,.int .i64 0,.int .i64 0,.int .i64 0,.int .i64 0,.slice none 0 0,.slice none 0 0,.string ⟨#[]⟩,.int .i64 0] 100);rw [zA]at hB;replace hA:=((alB (w.alloc (.cells #[.string x.1.1,.int .i64 x.1.2,.int .i64 x.2.1.kind,.int .i64 x.2.1.at_,.int .i64 x.2.1.lo,.int .i64 x.2.1.hi,.int .i64 x.2.1.most,.slice N1 x.2.1.names.length N3,.slice M1 x.2.2.len M3,.string x.2.1.name,.int .i64 x.2.1.nat] 100)) (.cells #[.string ⟨#[]⟩,.int .i64 0,.int .i64 0,.int .i64 0,.int .i64 0,.int .i64 0,.int .i64 0,.slice none 0 0,.slice none 0 0,.string ⟨#[]⟩,.int .i64 0] 100)).block _ (blt hA)).trans hA;have n:=((Below.refl w.heap.size w).alloc (Nat.le_refl _) (.cells #[.string x.1.1,.int .i64 x.1.2,.int .i64 x.2.1.kind,.int .i64 x.2.1.at_,.int .i64 x.2.1.lo,.int .i64 x.2.1.hi,.int .i64 x.2.1.most,.slice N1 x.2.1.names.length N3,.slice M1 x.2.2.len M3,.string x.2.1.name,.int .i64 x.2.1.nat] 100)).alloc (by rw [zA];omega) (.cells #[.string ⟨#[]⟩,.int .i64 0,.int .i64 0,.int .i64 0,.int .i64 0,.int .i64 0,.int .i64 0,.slice none 0 0,.slice none 0 0,.string ⟨#[]⟩,.int .i64 0] 100)
 clear zA;replace hy:=hy.below n;go_enter Tryz.func70,Tryz.ntmps70
 go_upto_region 1 with fail
 generalize(w.alloc (.cells #[.string x.1.1,.int .i64 x.1.2,.int .i64 x.2.1.kind,.int .i64 x.2.1.at_,.int .i64 x.2.1.lo,.int .i64 x.2.1.hi,.int .i64 x.2.1.most,.slice N1 x.2.1.names.length N3,.slice M1 x.2.2.len M3,.string x.2.1.name,.int .i64 x.2.1.nat] 100)).alloc (.cells #[.string ⟨#[]⟩,.int .i64 0,.int .i64 0,.int .i64 0,.int .i64 0,.int .i64 0,.int .i64 0,.slice none 0 0,.slice none 0 0,.string ⟨#[]⟩,.int .i64 0] 100)=V at *;have lV:w.heap.size+1<V.heap.size:=blt hB;have c1:=Lib.hid fun(W:World) R hR=>stw_calls x.1 W R hR
 have c2:=Lib.hid fun(W:World) (m:Below V.heap.size V W) R hR=>strip_calls x.2.2 x.2.1 (.slice N1 x.2.1.names.length N3) (.slice M1 x.2.2.len M3) W lx.1 lx.2.2.1.1 lx.2.2.1.2 lx.2.1 lx.2.2.2 (hy.below m) R hR
 have a0:=fun y:GW V (w.heap.size+1) (w.heap.size+1)=>y.cell (blt hA) (by omega) (by omega) ((Lib.cell_of_heap hA 0).trans rfl)
 have a1:=fun y:GW V (w.heap.size+1) (w.heap.size+1)=>y.cell (blt hA) (by omega) (by omega) ((Lib.cell_of_heap hA 1).trans rfl)
 have jT:∀y:GW V (w.heap.size+1) (w.heap.size+1),y.w.rangeAt (w.heap.size) 2 [.int .i64 x.2.1.kind,.int .i64 x.2.1.at_,.int .i64 x.2.1.lo,.int .i64 x.2.1.hi,.int .i64 x.2.1.most,.slice N1 x.2.1.names.length N3,.slice M1 x.2.2.len M3,.string x.2.1.name,.int .i64 x.2.1.nat]:=fun y j v h=>by rw [Lib.cell_of_heap ((y.b _ (blt hA) (by omega) (by omega)).trans hA),List.getElem?_toArray,←List.getElem?_drop];exact h
 refine wp_region_mixG (w.heap.size+1) (w.heap.size+1) [([0,1,3,4],2),([],5),([6],7)] [] (by kernel_rfl) (by kernel_rfl) (by kernel_rfl) (by kernel_rfl) (fun _ _ d _ _ h=>by cases d<;>exact h) ?_
 have gW:Below V.heap.size V (V.drewN 1):=⟨rfl,rfl,rfl,Nat.le_refl _,fun _ _=>rfl⟩;refine mix_cons (os:=[_,_,_,_]) (by simp only[pickO,List.filterMap_cons,List.filterMap_nil,List.getElem?_toArray,List.getElem?_cons_succ,List.getElem?_cons_zero];rfl) (fun Kp hKp=>?_)
 iterate 3 (go_big_quiet_step (exact rfl))
 refine wpQuiet_load rfl 36 _ rfl (w.heap.size) 2 rfl [.int .i64 x.2.1.kind,.int .i64 x.2.1.at_,.int .i64 x.2.1.lo,.int .i64 x.2.1.hi,.int .i64 x.2.1.most,.slice N1 x.2.1.names.length N3,.slice M1 x.2.2.len M3,.string x.2.1.name,.int .i64 x.2.1.nat] _ (by rintro V ⟨y,rfl⟩;exact jT y) Tryz.underlying36 rfl (by kernel_rfl) ?_
 go_simp;refine wpQuiet_nil ?_;refine hKp _ ?_;clear hKp;refine loud (by rfl) (by kernel_rfl) (fun K1 hK1=>?_);go_simp;refine c1.out _ _ (Lib.hid fun w1 m1=>?_);have g1:=gW.trans (m1.mono gW.size);refine hK1 _ _ (GW.bl g1) ?_;clear hK1 c1;refine mix_cons (os:=[]) (by rfl) (fun Kp hKp=>?_);refine wpQuiet_nil ?_;refine hKp _ ?_;clear hKp;refine loud (by rfl) (by kernel_rfl) (fun K2 hK2=>?_);go_simp;refine c2.out _ g1 _ (Lib.hid fun nv2 pv2 w2 r2 m2=>?_);obtain⟨B1,B3,rfl,-,-⟩:=r2.n.op;obtain⟨C1,C3,rfl,-⟩:=r2.p.sl;have g2:=g1.trans (m2.mono g1.size);refine hK2 _ _ (GW.bl g2) ?_;clear hK2 c2;refine mix_cons (os:=[_]) (by simp only[pickO,List.filterMap_cons,List.filterMap_nil,List.getElem?_toArray,List.getElem?_cons_succ,List.getElem?_cons_zero];rfl) (fun Kp hKp=>?_)
 go_big_quiet_step (exact rfl);refine wpQuiet_nil ?_
 refine hKp _ ?_;clear hKp;refine loud (by rfl) (by kernel_rfl) (fun K3 hK3=>?_);replace hB:=(g2.block _ lV).trans hB;have ht_:w2.there (w.heap.size+1) 0 11:=there_of hB rfl;have gp_:∃gg:GW _ (w.heap.size+1) (w.heap.size+1),w2.setCells (w.heap.size+1) 0 [.string x.1.1,.int .i64 0,.int .i64 (stripH x.2.1).kind,.int .i64 (stripH x.2.1).at_,.int .i64 (stripH x.2.1).lo,.int .i64 (stripH x.2.1).hi,.int .i64 (stripH x.2.1).most,.slice B1 (stripH x.2.1).names.length B3,.slice C1 (stripF x.2.2).len C3,.string (stripH x.2.1).name,.int .i64 (stripH x.2.1).nat]=gg.w:=sc_gw (GW.bl g2) _ _;have n2:=n.trans (g2.mono n.size);have n_:=sc_below (B:=w.heap.size+1) (by omega) [.string x.1.1,.int .i64 0,.int .i64 (stripH x.2.1).kind,.int .i64 (stripH x.2.1).at_,.int .i64 (stripH x.2.1).lo,.int .i64 (stripH x.2.1).hi,.int .i64 (stripH x.2.1).most,.slice B1 (stripH x.2.1).names.length B3,.slice C1 (stripF x.2.2).len C3,.string (stripH x.2.1).name,.int .i64 (stripH x.2.1).nat] 0 _ _ n2;have xx0:=sc_cell (vs:=[.string x.1.1,.int .i64 0,.int .i64 (stripH x.2.1).kind,.int .i64 (stripH x.2.1).at_,.int .i64 (stripH x.2.1).lo,.int .i64 (stripH x.2.1).hi,.int .i64 (stripH x.2.1).most,.slice B1 (stripH x.2.1).names.length B3,.slice C1 (stripF x.2.2).len C3,.string (stripH x.2.1).name,.int .i64 (stripH x.2.1).nat]) ht_ 0 rfl;have xx1:=sc_cell (vs:=[.string x.1.1,.int .i64 0,.int .i64 (stripH x.2.1).kind,.int .i64 (stripH x.2.1).at_,.int .i64 (stripH x.2.1).lo,.int .i64 (stripH x.2.1).hi,.int .i64 (stripH x.2.1).most,.slice B1 (stripH x.2.1).names.length B3,.slice C1 (stripF x.2.2).len C3,.string (stripH x.2.1).name,.int .i64 (stripH x.2.1).nat]) ht_ 1 rfl;have xx2:=sc_cell (vs:=[.string x.1.1,.int .i64 0,.int .i64 (stripH x.2.1).kind,.int .i64 (stripH x.2.1).at_,.int .i64 (stripH x.2.1).lo,.int .i64 (stripH x.2.1).hi,.int .i64 (stripH x.2.1).most,.slice B1 (stripH x.2.1).names.length B3,.slice C1 (stripF x.2.2).len C3,.string (stripH x.2.1).name,.int .i64 (stripH x.2.1).nat]) ht_ 2 rfl;have xx3:=sc_cell (vs:=[.string x.1.1,.int .i64 0,.int .i64 (stripH x.2.1).kind,.int .i64 (stripH x.2.1).at_,.int .i64 (stripH x.2.1).lo,.int .i64 (stripH x.2.1).hi,.int .i64 (stripH x.2.1).most,.slice B1 (stripH x.2.1).names.length B3,.slice C1 (stripF x.2.2).len C3,.string (stripH x.2.1).name,.int .i64 (stripH x.2.1).nat]) ht_ 3 rfl;have xx4:=sc_cell (vs:=[.string x.1.1,.int .i64 0,.int .i64 (stripH x.2.1).kind,.int .i64 (stripH x.2.1).at_,.int .i64 (stripH x.2.1).lo,.int .i64 (stripH x.2.1).hi,.int .i64 (stripH x.2.1).most,.slice B1 (stripH x.2.1).names.length B3,.slice C1 (stripF x.2.2).len C3,.string (stripH x.2.1).name,.int .i64 (stripH x.2.1).nat]) ht_ 4 rfl;have xx5:=sc_cell (vs:=[.string x.1.1,.int .i64 0,.int .i64 (stripH x.2.1).kind,.int .i64 (stripH x.2.1).at_,.int .i64 (stripH x.2.1).lo,.int .i64 (stripH x.2.1).hi,.int .i64 (stripH x.2.1).most,.slice B1 (stripH x.2.1).names.length B3,.slice C1 (stripF x.2.2).len C3,.string (stripH x.2.1).name,.int .i64 (stripH x.2.1).nat]) ht_ 5 rfl;have xx6:=sc_cell (vs:=[.string x.1.1,.int .i64 0,.int .i64 (stripH x.2.1).kind,.int .i64 (stripH x.2.1).at_,.int .i64 (stripH x.2.1).lo,.int .i64 (stripH x.2.1).hi,.int .i64 (stripH x.2.1).most,.slice B1 (stripH x.2.1).names.length B3,.slice C1 (stripF x.2.2).len C3,.string (stripH x.2.1).name,.int .i64 (stripH x.2.1).nat]) ht_ 6 rfl;have xx7:=sc_cell (vs:=[.string x.1.1,.int .i64 0,.int .i64 (stripH x.2.1).kind,.int .i64 (stripH x.2.1).at_,.int .i64 (stripH x.2.1).lo,.int .i64 (stripH x.2.1).hi,.int .i64 (stripH x.2.1).most,.slice B1 (stripH x.2.1).names.length B3,.slice C1 (stripF x.2.2).len C3,.string (stripH x.2.1).name,.int .i64 (stripH x.2.1).nat]) ht_ 7 rfl;have xx8:=sc_cell (vs:=[.string x.1.1,.int .i64 0,.int .i64 (stripH x.2.1).kind,.int .i64 (stripH x.2.1).at_,.int .i64 (stripH x.2.1).lo,.int .i64 (stripH x.2.1).hi,.int .i64 (stripH x.2.1).most,.slice B1 (stripH x.2.1).names.length B3,.slice C1 (stripF x.2.2).len C3,.string (stripH x.2.1).name,.int .i64 (stripH x.2.1).nat]) ht_ 8 rfl;have xx9:=sc_cell (vs:=[.string x.1.1,.int .i64 0,.int .i64 (stripH x.2.1).kind,.int .i64 (stripH x.2.1).at_,.int .i64 (stripH x.2.1).lo,.int .i64 (stripH x.2.1).hi,.int .i64 (stripH x.2.1).most,.slice B1 (stripH x.2.1).names.length B3,.slice C1 (stripF x.2.2).len C3,.string (stripH x.2.1).name,.int .i64 (stripH x.2.1).nat]) ht_ 9 rfl;have xx10:=sc_cell (vs:=[.string x.1.1,.int .i64 0,.int .i64 (stripH x.2.1).kind,.int .i64 (stripH x.2.1).at_,.int .i64 (stripH x.2.1).lo,.int .i64 (stripH x.2.1).hi,.int .i64 (stripH x.2.1).most,.slice B1 (stripH x.2.1).names.length B3,.slice C1 (stripF x.2.2).len C3,.string (stripH x.2.1).name,.int .i64 (stripH x.2.1).nat]) ht_ 10 rfl;refine wp_store_mid 100 _ _ (by rfl) (w.heap.size+1) 0 #[.string x.1.1,.int .i64 0,.int .i64 (stripH x.2.1).kind,.int .i64 (stripH x.2.1).at_,.int .i64 (stripH x.2.1).lo,.int .i64 (stripH x.2.1).hi,.int .i64 (stripH x.2.1).most,.slice B1 (stripH x.2.1).names.length B3,.slice C1 (stripF x.2.2).len C3,.string (stripH x.2.1).name,.int .i64 (stripH x.2.1).nat] (by rfl) (by rfl) ht_ (by kernel_rfl) (by simp [Value.oneCell']) ?_;refine hK3 _ _ gp_ ?_;clear hK3;have e_:w2.setCells (w.heap.size+1) 0 (#[.string x.1.1,.int .i64 0,.int .i64 (stripH x.2.1).kind,.int .i64 (stripH x.2.1).at_,.int .i64 (stripH x.2.1).lo,.int .i64 (stripH x.2.1).hi,.int .i64 (stripH x.2.1).most,.slice B1 (stripH x.2.1).names.length B3,.slice C1 (stripF x.2.2).len C3,.string (stripH x.2.1).name,.int .i64 (stripH x.2.1).nat]:Array Value).toList=w2.setCells (w.heap.size+1) 0 [.string x.1.1,.int .i64 0,.int .i64 (stripH x.2.1).kind,.int .i64 (stripH x.2.1).at_,.int .i64 (stripH x.2.1).lo,.int .i64 (stripH x.2.1).hi,.int .i64 (stripH x.2.1).most,.slice B1 (stripH x.2.1).names.length B3,.slice C1 (stripF x.2.2).len C3,.string (stripH x.2.1).name,.int .i64 (stripH x.2.1).nat]:=rfl;rw [e_];clear e_;have rF:=RdY.kp (emp_sc (W:=w2) (B:=w.heap.size+1) (b:=w1.heap.size) (b0:=w.heap.size) (by have:=g1.size;omega) (by have:=g1.size;omega) [.string x.1.1,.int .i64 0,.int .i64 (stripH x.2.1).kind,.int .i64 (stripH x.2.1).at_,.int .i64 (stripH x.2.1).lo,.int .i64 (stripH x.2.1).hi,.int .i64 (stripH x.2.1).most,.slice B1 (stripH x.2.1).names.length B3,.slice C1 (stripF x.2.2).len C3,.string (stripH x.2.1).name,.int .i64 (stripH x.2.1).nat] 0) r2
 have fin:=Lib.hid (hR.out _ _ _ rF n_);generalize w2.setCells (w.heap.size+1) 0 [.string x.1.1,.int .i64 0,.int .i64 (stripH x.2.1).kind,.int .i64 (stripH x.2.1).at_,.int .i64 (stripH x.2.1).lo,.int .i64 (stripH x.2.1).hi,.int .i64 (stripH x.2.1).most,.slice B1 (stripH x.2.1).names.length B3,.slice C1 (stripF x.2.2).len C3,.string (stripH x.2.1).name,.int .i64 (stripH x.2.1).nat]=W8 at *;refine mix_nil (os:=[]) (by rfl) (fun Kp hKp=>?_);refine wpQuiet_nil ?_;refine hKp _ ?_;clear hKp;clear hR rF r2 gp_ ht_;go_wp2_with fail
 refine bodyPost_ret ?_ rfl fin.out;simp [results,Tryz.results70,go_sem,xx0,xx1,xx2,xx3,xx4,xx5,xx6,xx7,xx8,xx9,xx10]
end Unp
end Go.Proofs.YtabhkakomececaaGreat
