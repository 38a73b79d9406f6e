import Derived.Test.YtabhkakomececaaGreatQX
import Derived.Test.YtabhkakomececaaGreatQ53
import Derived.Test.YtabhkakomececaaGreatQ56
set_option linter.all false
set_option maxRecDepth 100000
set_option maxHeartbeats 4000000
namespace Go.Proofs.YtabhkakomececaaGreat.Res
open Go.RowKit Go.Lib Utf Nam Lat Kin Unp Rel Lab
theorem hq_gf{w V W:World}{l:List (Nat×Obj)}(n:Hq F0 () () w V l){k:Nat}(g:V.grownBy W (some k))(h1:w.heap.size≤k)(h2:∀x∈l,x.1≠k):Hq F0 () () w W l:=n.grow g fun q e=>by
 obtain rfl:=Option.some.inj e;exact⟨h1,fun q=>q.elim,h2⟩
theorem edg_alloc18(ρ:Operand→Value)(W:World)(o:Oper)(h:o.op=.alloc 67):(execOp ρ o).run Tryz.prog W=.ok (.value (ptA W.heap.size)) (W.alloc (.cells #[.string ⟨#[]⟩,.bool false,.int .i64 0,.int .i64 0,.int .i64 0,.int .i64 0,.int .i64 0,.int .i64 0,.int .i64 0,.int .i64 0] 67)):=by
 simp [execOp,h,go_sem,ptA]
theorem flat_e0:∀(l:List EdR)(i:Nat)(h:i<l.length),((flatG encE l).set (i*10+2) (.int .i64 0)).set (i*10+9) (.int .i64 0)=flatG encE (l.set i (e0 (l[i]'h)))
| x::l,0,h=>rfl
| x::l,i+1,h=>by
 have h':i<l.length:=by simpa using h
 have ih:=flat_e0 l i h';rw [List.set_cons_succ,flatG_cons,flatG_cons];show _=encE x++flatG encE (l.set i (e0 (l[i]'h')));rw [←ih,List.set_append_right _ _ (by rw [encE_len];omega),List.set_append_right _ _ (by rw [encE_len];omega),encE_len,show(i+1)*10+2-10=i*10+2 from by omega,show(i+1)*10+9-10=i*10+9 from by omega]
def Rws(w:World)(B B2:Nat)(nv ev nv2 ev2:Value)(ns:List ByteArray)(D E2:List EdR):Prop :=
w.ownsRow B 9 1 nv ns.length (sv ns)∧w.ownsRow B 67 10 ev D.length (flatG encE D)∧w.ownsRow B2 9 1 nv2 ns.length (sv ns)∧w.ownsRow B2 67 10 ev2 E2.length (flatG encE E2)
theorem Rws.below{w w':World}{B B2:Nat}{nv ev nv2 ev2:Value}{ns:List ByteArray}{D E2:List EdR}(h:Rws w B B2 nv ev nv2 ev2 ns D E2)(m:Below w.heap.size w w'):Rws w' B B2 nv ev nv2 ev2 ns D E2 :=
⟨own_below h.1 m,own_below h.2.1 m,own_below h.2.2.1 m,own_below h.2.2.2 m⟩
theorem own_blk{w:World}{B:Nat}{e:TypeId}{k n g:Nat}{v:Value}{xs:List Value}(h:w.ownsRow B e k v n xs)(hb:v.ownBlock=some g):∃cur,w.heap[g]?=some (.cells cur e (0,0)):=by
 obtain⟨-,⟨rfl,-⟩|⟨g',cap,cur,rfl,-,hg,-⟩⟩:=h
 ·cases hb
 ·obtain rfl:=Option.some.inj hb
  exact⟨cur,hg⟩
theorem Rws.box{w w':World}{B B2:Nat}{nv ev nv2 ev2:Value}{ns:List ByteArray}{D E2:List EdR}(h:Rws w B B2 nv ev nv2 ev2 ns D E2){a:Nat}(h1:∀k,nv.ownBlock=some k→k<a)(h2:∀k,ev.ownBlock=some k→k<a)(h3:a<B2)(hk:∀k,k≠a→w'.heap[k]?=w.heap[k]?):Rws w' B B2 nv ev nv2 ev2 ns D E2 :=
⟨ownKp h.1 fun g q _=>hk g (by have:=h1 g q;omega),ownKp h.2.1 fun g q _=>hk g (by have:=h2 g q;omega),ownKp h.2.2.1 fun g _ q=>hk g (by omega),ownKp h.2.2.2 fun g _ q=>hk g (by omega)⟩
theorem Rws.read{w:World}{B B2:Nat}{nv nv2 ev2:Value}{A:Option Addr}{n c:Nat}{ns:List ByteArray}{D E2:List EdR}(h:Rws w B B2 nv (.slice A n c) nv2 ev2 ns D E2)(hn:n=D.length){J:Nat}(hJ:J<D.length) :
  ∃g,A=some ⟨g,0,none⟩∧B≤g∧g<w.heap.size∧w.rangeAt g (J*10) (encE (D[J]'hJ))∧∀j,w.frozen? ⟨g,j,none⟩=false:=by
 have o:=h.2.1;have r:=RdAt.of_own o;obtain⟨A',c',e,-,hr⟩:=RdG.open encE_len (by decide) (show RdG encE 10 w (.slice A n c) D from r);obtain⟨g,o',rfl,hg,hi⟩:=hr (by omega);simp only[Value.slice.injEq]at e;obtain⟨rfl,-,-⟩:=e;obtain⟨-,⟨e2,-⟩|⟨g',cap,cur,e2,hb,hg',-⟩⟩:=o
 ·simp at e2
 ·simp only[Value.slice.injEq,Option.some.injEq,Addr.mk.injEq,and_true]at e2
  obtain⟨⟨rfl,rfl⟩,-⟩:=e2;refine⟨g,rfl,hb,hg,fun j v e=>?_,fun j=>Lib.frozen_of_heap hg' j⟩;have:=hi J hJ j (by have:=(List.getElem?_eq_some_iff.1 e).1;exact this)
  rw [Nat.zero_add]at this;exact this.trans e
theorem Rws.put{w:World}{B B2 g n c:Nat}{nv nv2 ev2:Value}{ns:List ByteArray}{D E2:List EdR}(h:Rws w B B2 nv (.slice (some ⟨g,0,none⟩) n c) nv2 ev2 ns D E2)(hn:n=D.length)(hg:g<B2){J:Nat}(hJ:J<D.length) :
  Rws ((w.setCell ⟨g,J*10+2,none⟩ (.int .i64 0)).setCell ⟨g,J*10+9,none⟩ (.int .i64 0)) B B2 nv (.slice (some ⟨g,0,none⟩) n c) nv2 ev2 ns (D.set J (e0 (D[J]'hJ))) E2∧w.grownBy ((w.setCell ⟨g,J*10+2,none⟩ (.int .i64 0)).setCell ⟨g,J*10+9,none⟩ (.int .i64 0)) (some g) ∧
  w.grownBy (w.setCell ⟨g,J*10+2,none⟩ (.int .i64 0)) (some g)∧(w.setCell ⟨g,J*10+2,none⟩ (.int .i64 0)).cell? ⟨g,J*10+9,none⟩=some (.int .i64 (D[J]'hJ).cat)∧(w.setCell ⟨g,J*10+2,none⟩ (.int .i64 0)).frozen? ⟨g,J*10+9,none⟩=false:=by
 subst hn;obtain⟨o1,o2,o3,o4⟩:=h;obtain⟨p1,q1⟩:=World.ownsRow.stored o2 (J*10+2) (.int .i64 0);obtain⟨p2,q2⟩:=World.ownsRow.stored p1 (J*10+9) (.int .i64 0);rw [flat_e0 D J hJ]at p2;have hk:∀k,k≠g→((w.setCell ⟨g,J*10+2,none⟩ (.int .i64 0)).setCell ⟨g,J*10+9,none⟩ (.int .i64 0)).heap[k]?=w.heap[k]?:=fun k hk=>(hp_sne hk).trans (hp_sne hk)
 obtain⟨cur,hc⟩:=own_blk o2 (g:=g) rfl;obtain⟨cur1,hc1⟩:=own_blk p1 (g:=g) rfl;refine⟨⟨ownKp o1 fun k q _=>hk k fun e=>?_,by rw [List.length_set];exact p2,ownKp o3 fun k _ q=>hk k (by omega),ownKp o4 fun k _ q=>hk k (by omega)⟩,⟨q2.os.trans q1.os,q2.tape.trans q1.tape,q2.output.trans q1.output,Nat.le_trans q1.size q2.size,fun k hl hn=>hk k fun e=>hn (by rw [e])⟩,q1,?_,Lib.frozen_of_heap hc1 _⟩
 ·subst e
  obtain⟨cur',hc'⟩:=own_blk o1 q;rw [hc]at hc';simp at hc'
 ·have r:=RdAt.of_own p1
  obtain⟨A,m,c',e,hl,hm,hr⟩:=r;rw [List.length_set,flatG_len encE_len]at hl;obtain⟨g',o',e2,hg',hcc⟩:=hr (by rw [List.length_set,flatG_len encE_len];omega)
  simp only[Value.slice.injEq]at e;rw [←e.1]at e2;simp only[Option.some.injEq,Addr.mk.injEq,and_true]at e2;obtain⟨rfl,rfl⟩:=e2;have:=hcc (J*10+9) (.int .i64 (D[J]'hJ).cat) (by rw [List.getElem?_set_ne (by omega),flatG_get encE_len D J 9 hJ (by decide)];rfl)
  rw [Nat.zero_add]at this;exact this
def Zs(E D:List EdR)(J:Nat):Prop:=D.length=E.length∧∀i,D[i]?=if i<J then E[i]?.map e0 else E[i]?
theorem Zs.at_{E D:List EdR}{J:Nat}(h:Zs E D J)(hJ:J<E.length):D[J]'(by rw [h.1];exact hJ)=E[J]:=by
 have:=h.2 J;rw [if_neg (Nat.lt_irrefl J),List.getElem?_eq_getElem hJ,List.getElem?_eq_getElem (by rw [h.1];exact hJ)]at this
 exact Option.some.inj this
theorem Zs.step{E D:List EdR}{J:Nat}(h:Zs E D J)(hJ:J<E.length):Zs E (D.set J (e0 E[J])) (J+1):=by
 refine⟨by rw [List.length_set];exact h.1,fun i=>?_⟩
 rw [List.getElem?_set]
 by_cases e:J=i
 ·subst e
  rw [if_pos rfl,if_pos (by rw [h.1];exact hJ),if_pos (Nat.lt_succ_self J),List.getElem?_eq_getElem hJ]
  rfl
 ·rw [if_neg e,h.2 i]
  by_cases q:i<J
  ·rw [if_pos q,if_pos (by omega)]
  ·rw [if_neg q,if_neg (by omega)]
theorem Zs.done{E D:List EdR}(h:Zs E D E.length):D=E.map e0:=List.ext_getElem? fun i=>by
 rw [h.2 i,List.getElem?_map]
 by_cases q:i<E.length
 ·rw [if_pos q]
 ·rw [if_neg q,List.getElem?_eq_none (by omega)]
  rfl
theorem links18_walk(s:Sc)(gs:GoodS s)(ls:LimS s)(lv ov tv nv pv:Value)(w:World)(rd:RdSc w s lv ov tv nv pv)(R:Ending→World→Prop)
  (hR:Hid (∀w',Below w.heap.size w w'→R (.returned (.bool true)) w')):Calls Tryz.prog 7 #[scV s lv ov tv nv pv] w R:=by
 have rd0:=rd;obtain⟨A1,c1,rfl,-,-⟩:=rd.l.op;obtain⟨A2,c2,rfl,-,-⟩:=Unp.RdPr.op rd.o;obtain⟨A3,c3,rfl,-,-⟩:=Unp.RdNs.op rd.t;obtain⟨N1,N3,rfl,-,-⟩:=rd.r.n.op;obtain⟨M1,M3,rfl,-⟩:=rd.r.p.sl;have n:=F0.z w;obtain⟨V,e1,n,z1⟩:=n.new (.cells [.slice A1 s.1.length c1,.slice A2 s.2.1.length c2,.slice A3 s.2.2.1.length c3,.int .i64 s.2.2.2.1.kind,.int .i64 s.2.2.2.1.at_,.int .i64 s.2.2.2.1.lo,.int .i64 s.2.2.2.1.hi,.int .i64 s.2.2.2.1.most,.slice N1 s.2.2.2.1.names.length N3,.slice M1 s.2.2.2.2.len M3,.string s.2.2.2.1.name,.int .i64 s.2.2.2.1.nat].toArray 38);replace rd0:=Lib.hid rd0;clear z1 rd;have rS:=n.rg 0 rfl;have cG:=Lib.hid fun R hR=>refgreat_calls s gs _ _ _ _ _ V (rd0.out.below (F0.bel n)) R hR
 go_enter Tryz.func7,Tryz.ntmps7
 go_upto_region 1 with fail
 clear e1;go_wp2_with (refine wpList_load_g (by rfl) 38 _ rfl w.heap.size 0 rfl _ _ rS Tryz.underlying38 rfl (by kernel_rfl) ?_;go_simp)
 refine cG.out _ (Lib.hid fun W1 y m1 hy=>?_);clear cG rS;replace n:=n.bl m1;clear m1;cases y with
 | true =>
  have bw:=Lib.hid (F0.bel n);clear n hy;go_wp2_with fail
  refine lives18_calls W1 _ (Lib.hid fun W2 m2=>?_);have fin:=Lib.hid (hR.out W2 (bw.out.trans (m2.mono bw.out.size)));clear hR m2 bw;go_wp2_with fail
  exact fin.out
 | false =>
  obtain⟨b1,b2,b3⟩:=hy rfl;have rS:=n.rg 0 rfl;have cB:=Lib.hid fun R h1 h2=>build18_calls s gs (by omega) _ _ _ _ _ W1 (rd0.out.below (F0.bel n)) R h1 h2
  have hs:=Lib.hid (bld_strip s);clear hy
  by_cases hz:(bldS s).1=0
  case neg =>
   go_wp2_with (refine wpList_load_g (by rfl) 38 _ rfl w.heap.size 0 rfl _ _ rS Tryz.underlying38 rfl (by kernel_rfl) ?_;go_simp)
   refine cB.out _ (Lib.hid fun W v hz2 pl m=>absurd hz2 hz) (Lib.hid fun W _ m=>?_);clear cB rS;replace n:=n.bl m;clear m;generalize hqq:bldS s=qq at *;obtain⟨q0,q1⟩:=qq;simp only at hz;obtain⟨W2,e2,n,z2⟩:=n.new (.cells #[.int .i64 q0,.int .i64 q1] 26);clear z2;have hqq:=Lib.hid hqq;go_upto_region 4 with fail
   clear e2;have rS:=n.rg 1 rfl;have cS:=Lib.hid fun R hR=>cstrip2_calls s gs ls b1 b2 b3 _ _ _ _ _ W2 (rd0.out.below (F0.bel n)) R hR
   go_wp2_with (refine wpList_load_g (by rfl) 38 _ rfl w.heap.size 0 rfl _ _ rS Tryz.underlying38 rfl (by kernel_rfl) ?_;go_simp)
   refine cS.out _ (Lib.hid fun lv' ov' tv' nv' pv' W3 rd3 m3=>?_);clear cS rS;replace n:=n.bl m3;have cB2:=Lib.hid fun R h1 h2=>build18_calls (stS s) (good_stS gs ls) (by show(s.2.2.1.map stN).length≤_;rw [List.length_map];omega) _ _ _ _ _ W3 rd3 R h1 h2
   go_wp2_with fail
   refine cB2.out _ (Lib.hid fun W v hz2 pl m=>absurd (hs.out.symm.trans hz2) hz) (Lib.hid fun W _ m=>?_);clear cB2 rd3 m3;replace n:=n.bl m;clear m;have hs2:=hs.out;generalize bldS (stS s)=pp at *;obtain⟨p0,p1⟩:=pp;simp only at hs2;subst hs2;obtain⟨W5,e5,n,z5⟩:=n.new (.cells #[.int .i64 p0,.int .i64 p1] 26);clear z5;go_upto_region 5 with fail
   clear e5;have a0:=n.c 1 0 rfl rfl;have b0:=n.c 0 0 rfl rfl;have t0:(p0==0)=false:=by simpa using hz
   have bw:=Lib.hid (F0.bel n);clear n;go_wp2_with fail
   refine lives18_calls _ _ (Lib.hid fun W6 m6=>?_);have fin:=Lib.hid (hR.out W6 (bw.out.trans (m6.mono bw.out.size)));clear hR m6 bw;go_wp2_with fail
   exact fin.out
  case pos =>
   go_wp2_with (refine wpList_load_g (by rfl) 38 _ rfl w.heap.size 0 rfl _ _ rS Tryz.underlying38 rfl (by kernel_rfl) ?_;go_simp)
   refine cB.out _ (Lib.hid fun W v _ pl m=>?_) (Lib.hid fun W hz2 m=>absurd hz hz2);clear cB rS;replace n:=n.bl m;clear m
   change PlanP W v _ _ _ (plS s)at pl
   obtain⟨qq,hq⟩:∃q:Int×Int,q=(0,0):=⟨_,rfl⟩;rw [←hq];obtain⟨q0,q1⟩:=qq;obtain⟨hq0,-⟩:=Prod.mk.inj hq;replace hq0:=Lib.hid hq0;clear hq;obtain⟨W2,e2,n,z2⟩:=n.new (.cells #[.int .i64 q0,.int .i64 q1] 26);have m2:Below W.heap.size W W2:=e2▸(Below.refl _ _).alloc (Nat.le_refl _) _;replace pl:=Lib.hid (pl.below m2);clear z2 m2;go_upto_region 4 with fail
   clear e2;have rS:=n.rg 1 rfl;have cS:=Lib.hid fun R hR=>cstrip2_calls s gs ls b1 b2 b3 _ _ _ _ _ W2 (rd0.out.below (F0.bel n)) R hR
   go_wp2_with (refine wpList_load_g (by rfl) 38 _ rfl w.heap.size 0 rfl _ _ rS Tryz.underlying38 rfl (by kernel_rfl) ?_;go_simp)
   refine cS.out _ (Lib.hid fun lv' ov' tv' nv' pv' W3 rd3 m3=>?_);clear cS rS;replace n:=n.bl m3;replace pl:=Lib.hid (pl.out.below m3);have cB2:=Lib.hid fun R h1 h2=>build18_calls (stS s) (good_stS gs ls) (by show(s.2.2.1.map stN).length≤_;rw [List.length_map];omega) _ _ _ _ _ W3 rd3 R h1 h2
   go_wp2_with fail
   refine cB2.out _ (Lib.hid fun W4 v' _ pl' m4=>?_) (Lib.hid fun W hz2 m=>absurd (hs.out.trans hz) hz2);clear cB2 rd3 m3
   change PlanP W4 v' _ _ _ (plS (stS s))at pl'
   rw [plan_strip]at pl';replace n:=n.bl m4;replace pl:=Lib.hid (pl.out.below m4);clear m4 hs;obtain⟨pp,hp⟩:∃q:Int×Int,q=(0,0):=⟨_,rfl⟩;rw [←hp];obtain⟨p0,p1⟩:=pp;obtain⟨hp0,-⟩:=Prod.mk.inj hp;replace hp0:=Lib.hid hp0;clear hp;obtain⟨W5,e5,n,z5⟩:=n.new (.cells #[.int .i64 p0,.int .i64 p1] 26);have m5:Below W4.heap.size W4 W5:=e5▸(Below.refl _ _).alloc (Nat.le_refl _) _;replace pl:=Lib.hid (pl.out.below m5);replace pl':=Lib.hid (pl'.below m5);have os:=OkS.of hz;have gx:=Lib.hid os.good;have ix:=Lib.hid os.inn.1;have rx:=os.inn.2;have lx:=os.num
   have hLt:Latt (nms s.1).length (leqF s.1 s.2.1):=by
    obtain⟨P,L,cs,-,-,hL⟩:=pl.out.lv;exact hL.latt.1
   have ed:=Lib.hid (os.ed hLt);have nme:=Lib.hid os.nm;clear z5 m5 hz os hLt;go_upto_region 5 with fail
   clear e5;have a0:=n.c 1 0 rfl rfl;have b0:=n.c 0 0 rfl rfl;rw [hq0.out]at a0;rw [hp0.out]at b0;have bw:=Lib.hid (F0.bel n);clear n rd0;generalize hX:plS s=x at *;clear hX;have hb1:=Lib.hid (show ∀y∈x.1,y.names.length≤1000000∧y.edges.length≤1000000 from fun y hy=>⟨Nat.le_trans (gx.out y hy).ln (by decide),Nat.le_trans (gx.out y hy).le (by decide)⟩)
   have hb2:=Lib.hid (show ∀y∈x.1.map n0,y.names.length≤1000000∧y.edges.length≤1000000 from fun y hy=>by
    obtain⟨z,hz,rfl⟩:=List.mem_map.1 hy;have:=hb1.out z hz;refine⟨this.1,?_⟩;show(z.edges.map e0).length≤_;rw [List.length_map];exact this.2)
   obtain⟨P,hvP⟩:∃P,v=.pointer (some ⟨P,0,none⟩):=by
    obtain⟨P,_,_,_,_,_,e,-⟩:=pl.out;exact⟨P,e⟩
   obtain⟨P',hvP'⟩:∃P,v'=.pointer (some ⟨P,0,none⟩):=by
    obtain⟨P,_,_,_,_,_,e,-⟩:=pl'.out;exact⟨P,e⟩
   subst hvP hvP';obtain⟨len,hl⟩:∃len,x.1.length=len:=⟨_,rfl⟩;have cRp:=Lib.hid fun(V:World) (m:Below W5.heap.size W5 V) R hR=>proot_calls (pl.out.below m) R hR
   have cRq:=Lib.hid fun(V:World) (m:Below W5.heap.size W5 V) R hR=>proot_calls (pl'.out.below m) R hR
   have cLp:=Lib.hid fun(V:World) (m:Below W5.heap.size W5 V) R hR=>plen_calls (pl.out.below m) R hR
   have cLq:=Lib.hid fun(V:World) (m:Below W5.heap.size W5 V) R hR=>plen_calls (pl'.out.below m) R hR
   have cNp:=Lib.hid fun(V:World) (m:Below W5.heap.size W5 V) i R hR=>pnodeany_calls (pl.out.below m) hb1.out i R hR
   rw [List.length_map]at cLq;simp only[hl]at cLp cLq cNp;rw [hl]at rx lx;have len1:(0:Int)≤(len:Int):=by omega
   obtain⟨P2,L,cs,eP,hbP,hL⟩:=pl.out.lv;simp only[Value.pointer.injEq,Option.some.injEq,Addr.mk.injEq,and_true]at eP;subst eP;replace hbP:=Lib.hid hbP;replace hL:=Lib.hid hL;have hroot:decide (0≤x.2.1∧x.2.1<(len:Int))=true:=decide_eq_true rx;have hbeyond:decide (0≤(len:Int)∧(len:Int)<(len:Int))=false:=decide_eq_false (by omega);replace hl:=Lib.hid hl;replace hroot:=Lib.hid hroot;replace hbeyond:=Lib.hid hbeyond;go_upto_region 9 with fail
   clear a0 b0;have n:=F0.z W5;have m0:=F0.bel n;go_wp2_with fail
   refine cRp.out _ m0 _ (Lib.hid ?_);go_wp2_with fail
   refine cNp.out _ m0 _ _ (Lib.hid fun W6 k0 k1 k2 k3 k4 A5 n5 c5 A6 n6 c6 m6=>?_);rw [hroot.out];replace n:=n.bl m6;clear m6 m0;obtain⟨W7,e7,n,z7⟩:=n.new (.cells #[.int .i64 k0,.int .i64 k1,.int .i64 k2,.int .i64 k3,.int .i64 k4,.slice A5 n5 c5,.slice A6 n6 c6] 63);go_upto_region 10 with(refine wpList_copy #[.int .i64 k0,.int .i64 k1,.int .i64 k2,.int .i64 k3,.int .i64 k4,.slice A5 n5 c5,.slice A6 n6 c6] ⟨rfl,rfl,rfl⟩ ⟨rfl,rfl,rfl⟩ node_alloc19 (by kernel_rfl) ⟨rfl,by simp [Value.oneCell']⟩ (fun _=>⟨rfl,rfl⟩) ?_;go_simp)
   clear e7 z7;have m0:=F0.bel n;go_wp2_with fail
   refine cLp.out _ m0 _ (Lib.hid ?_);go_wp2_with fail
   refine cNp.out _ m0 _ _ (Lib.hid fun W8 j0 j1 j2 j3 j4 B5 r5 d5 B6 r6 d6 m8=>?_);rw [hbeyond.out];replace n:=n.bl m8;clear m8 m0;obtain⟨W9,e9,n,z9⟩:=n.new (.cells #[.int .i64 j0,.int .i64 j1,.int .i64 j2,.int .i64 j3,.int .i64 j4,.slice B5 r5 d5,.slice B6 r6 d6] 63);go_upto_region 11 with(refine wpList_copy #[.int .i64 j0,.int .i64 j1,.int .i64 j2,.int .i64 j3,.int .i64 j4,.slice B5 r5 d5,.slice B6 r6 d6] ⟨rfl,rfl,rfl⟩ ⟨rfl,rfl,rfl⟩ node_alloc19 (by kernel_rfl) ⟨rfl,by simp [Value.oneCell']⟩ (fun _=>⟨rfl,rfl⟩) ?_;go_simp)
   clear e9 z9;have m0:=F0.bel n;go_wp2_with fail
   refine cRp.out _ m0 _ (Lib.hid ?_);go_wp2_with fail
   refine cRq.out _ m0 _ (Lib.hid ?_);go_wp2_with fail
   refine cLp.out _ m0 _ (Lib.hid ?_);go_wp2_with fail
   refine cLq.out _ m0 _ (Lib.hid ?_);go_upto_region 14 with fail
   replace m0:=Lib.hid m0;clear n cRp cRq cLq;go_loopg [11] len (fun g k wr=>∃K:Nat,k=.int .i64 K∧K+g=len∧Hid (Below W5.heap.size W5 wr))
   case atStart=>exact⟨0,rfl,by omega,m0⟩
   case round =>
    clear m0;obtain⟨K,rfl,f1,m0⟩:=hrel;replace m0:=m0.out
    by_cases hK:K<len
    case neg =>
     obtain rfl:K=len:=by omega
     go_wp2_with fail
     refine cLp.out _ m0 _ (Lib.hid ?_);go_wp2_with fail
     refine lives18_calls _ _ (Lib.hid fun W6 m6=>?_);have fin:=Lib.hid (hR.out W6 (bw.out.trans ((m0.trans (m6.mono m0.size)).mono bw.out.size)));clear hR m6 bw;go_wp2_with fail
     exact fin.out
    have hKx:K<x.1.length:=by rw [hl.out];exact hK
    have i1:(K:Int)<(len:Int):=by omega
    obtain⟨gq,rfl⟩:∃g,g=gk:=⟨_,rfl⟩;obtain⟨WO,hWO⟩:∃V,V=wr:=⟨_,rfl⟩;subst hWO;have cA:=Lib.hid fun R hR=>pnodeo_calls (pl.out.below m0) hb1.out K hKx R hR
    go_wp2_with fail
    refine cLp.out _ m0 _ (Lib.hid ?_);go_upto_region 16 with fail
    go_wp2_with fail
    refine cA.out _ (Lib.hid fun V1 nv1 ev1 y hy oS oE m1=>?_);clear cA;have hym:=List.mem_of_getElem? hy;have gy:=Lib.hid (gx.out y hym);have iy:=Lib.hid (ix.out y hym);have ey:=Lib.hid (ed.out y hym);have bY:=hb1.out y hym;have n:=(F0.z WO).bl m1;obtain⟨A5,c5,rfl⟩:=own_sl2 oS;obtain⟨A6,c6,rfl⟩:=own_sl2 oE;have lE:=World.ownsRow.lt oE;have lS:=World.ownsRow.lt oS;obtain⟨V2,q2,n,z2⟩:=n.new (.cells #[.int .i64 y.kind,.int .i64 y.at_,.int .i64 y.lo,.int .i64 y.hi,.int .i64 y.most,.slice A5 y.names.length c5,.slice A6 y.edges.length c6] 63);have m2:Below V1.heap.size V1 V2:=q2▸(Below.refl _ _).alloc (Nat.le_refl _) _;have hV12:V1.heap.size<V2.heap.size:=by omega
    have m12:=m0.trans ((m1.trans (m2.mono m1.size)).mono m0.size);replace oE:=own_below oE m2;replace oS:=own_below oS m2;go_upto_region 17 with(refine wpList_copy #[.int .i64 y.kind,.int .i64 y.at_,.int .i64 y.lo,.int .i64 y.hi,.int .i64 y.most,.slice A5 y.names.length c5,.slice A6 y.edges.length c6] ⟨rfl,rfl,rfl⟩ ⟨rfl,rfl,rfl⟩ node_alloc19 (by kernel_rfl) ⟨rfl,by simp [Value.oneCell']⟩ (fun _=>⟨rfl,rfl⟩) ?_;go_simp)
    clear q2 m1 m2;have hKx2:K<(x.1.map n0).length:=by rw [List.length_map];exact hKx
    have cB:=Lib.hid fun R hR=>pnodeo_calls (pl'.out.below m12) hb2.out K hKx2 R hR
    go_wp2_with fail
    refine cB.out _ (Lib.hid fun V3 nv2 ev2 y2 hy2 oS2 oE2 m3=>?_);clear cB
    have e2_:y2=n0 y:=by
     rw [List.getElem?_map,hy]at hy2;exact(Option.some.inj hy2).symm
    subst e2_;replace n:=n.bl m3;replace oE:=own_below oE m3;replace oS:=own_below oS m3;have m13:=m12.trans (m3.mono m12.size);obtain⟨B5,d5,rfl⟩:=own_sl2 oS2;obtain⟨B6,d6,rfl⟩:=own_sl2 oE2;have hV13:V1.heap.size<V3.heap.size:=Nat.lt_of_lt_of_le hV12 m3.size;obtain⟨V4,q4,n,z4⟩:=n.new (.cells #[.int .i64 (n0 y).kind,.int .i64 (n0 y).at_,.int .i64 (n0 y).lo,.int .i64 (n0 y).hi,.int .i64 (n0 y).most,.slice B5 (n0 y).names.length d5,.slice B6 (n0 y).edges.length d6] 63);have m4:Below V3.heap.size V3 V4:=q4▸(Below.refl _ _).alloc (Nat.le_refl _) _;have rw:=Lib.hid (show Rws V4 WO.heap.size V2.heap.size (.slice A5 y.names.length c5) (.slice A6 y.edges.length c6) (.slice B5 (n0 y).names.length d5) (.slice B6 (n0 y).edges.length d6) y.names y.edges (n0 y).edges from⟨own_below oS m4,own_below oE m4,own_below oS2 m4,own_below oE2 m4⟩);have m14:=m13.trans (m4.mono m13.size);clear z4 hy hy2 m12 m3 m13 m4 oS oE oS2 oE2;go_upto_region 18 with(refine wpList_copy #[.int .i64 (n0 y).kind,.int .i64 (n0 y).at_,.int .i64 (n0 y).lo,.int .i64 (n0 y).hi,.int .i64 (n0 y).most,.slice B5 (n0 y).names.length d5,.slice B6 (n0 y).edges.length d6] ⟨rfl,rfl,rfl⟩ ⟨rfl,rfl,rfl⟩ node_alloc19 (by kernel_rfl) ⟨rfl,by simp [Value.oneCell']⟩ (fun _=>⟨rfl,rfl⟩) ?_;go_simp)
    clear q4;have at0:=n.c 1 1 rfl rfl;have af0:=n.f 1 1 rfl;obtain⟨V5,q5,n5,z5⟩:=n.put (j:=1) rfl [(1,.int .i64 0)];simp only[stL]at q5;simp only[stA,List.setIfInBounds_toArray,List.set_cons_succ,List.set_cons_zero]at n5;have lV:V1.heap.size<V2.heap.size:=by omega
    replace rw:=Lib.hid (rw.out.box (a:=V1.heap.size) (fun k q=>(lS k q).2) (fun k q=>(lE k q).2) lV (fun k hk=>by rw [←q5];exact hp_sne hk):Rws V5 _ _ _ _ _ _ _ _ _)
    have lE2:=Lib.hid fun k q=>(lE k q).2
    have lE1:=Lib.hid fun k q=>(lE k q).1
    replace n:=Lib.hid n5;have zs:Hid (Zs y.edges y.edges 0):=Lib.hid ⟨rfl,fun i=>by rw [if_neg (Nat.not_lt_zero i)]⟩;clear n5 lE lS z5 m14;go_upto_region 20 with fail
    clear at0 af0 q5;go_loopg [16] y.edges.length (fun g k w2=>∃(J:Nat) (D:List EdR),k=.int .i64 J∧J+g=y.edges.length∧Hid (Zs y.edges D J)∧Hid (Rws w2 WO.heap.size V2.heap.size (.slice A5 y.names.length c5) (.slice A6 y.edges.length c6) (.slice B5 (n0 y).names.length d5) (.slice B6 (n0 y).edges.length d6) y.names D (n0 y).edges)∧Hid (Hq F0 () () WO w2 [(V3.heap.size,.cells #[.int .i64 (n0 y).kind,.int .i64 (n0 y).at_,.int .i64 (n0 y).lo,.int .i64 (n0 y).hi,.int .i64 (n0 y).most,.slice B5 (n0 y).names.length d5,.slice B6 (n0 y).edges.length d6] 63),(V1.heap.size,.cells #[.int .i64 y.kind,.int .i64 0,.int .i64 y.lo,.int .i64 y.hi,.int .i64 y.most,.slice A5 y.names.length c5,.slice A6 y.edges.length c6] 63)]))
    case atStart=>exact⟨0,y.edges,rfl,by omega,zs,rw,n⟩
    case round =>
     clear n rw zs;obtain⟨J,D,rfl,f2,zs,rw,n⟩:=hrel;replace n:=n.out;have a6:=n.c 1 6 rfl rfl
     by_cases hJ:J<y.edges.length
     case neg =>
      obtain rfl:J=y.edges.length:=by omega
      obtain rfl:=zs.out.done;have bW:=F0.bel n
      have rA:∀W,(∃q:BW wr,W=q.w)→W.rangeAt V1.heap.size 0 [.int .i64 y.kind,.int .i64 0,.int .i64 y.lo,.int .i64 y.hi,.int .i64 y.most,.slice A5 y.names.length c5,.slice A6 y.edges.length c6]:=fun W hW=>by
       obtain⟨q,rfl⟩:=hW;exact(n.bl q.b).rg 1 rfl
      have rB:∀W,(∃q:BW wr,W=q.w)→W.rangeAt V3.heap.size 0 [.int .i64 (n0 y).kind,.int .i64 (n0 y).at_,.int .i64 (n0 y).lo,.int .i64 (n0 y).hi,.int .i64 (n0 y).most,.slice B5 (n0 y).names.length d5,.slice B6 (n0 y).edges.length d6]:=fun W hW=>by
       obtain⟨q,rfl⟩:=hW;exact(n.bl q.b).rg 0 rfl
      have gW:Below wr.heap.size wr (wr.drewN 1):=below_drewN (Below.refl _ _) 1
      have hnl:(n0 y).edges.length≤1000000:=by
       show(y.edges.map e0).length≤_;rw [List.length_map];exact bY.2
      have cA:=Lib.hid fun(q:BW wr) R hR=>node18_calls (n0 y) (.slice A5 y.names.length c5) (.slice A6 y.edges.length c6) q.w (RdAt.of_own (rw.out.below q.b).1) (RdAt.of_own (rw.out.below q.b).2.1) hnl R hR
      have cB:=Lib.hid fun(q:BW wr) R hR=>node18_calls (n0 y) (.slice B5 (n0 y).names.length d5) (.slice B6 (n0 y).edges.length d6) q.w (RdAt.of_own (rw.out.below q.b).2.2.1) (RdAt.of_own (rw.out.below q.b).2.2.2) hnl R hR
      have cS:=Lib.hid fun(q:BW wr) ea eb rEa rEb R hR=>refsame18_calls (n0 y) (.slice A5 y.names.length c5) (.slice B5 (n0 y).names.length d5) ea eb q.w (RdAt.of_own (rw.out.below q.b).1) (RdAt.of_own (rw.out.below q.b).2.2.1) rEa rEb hnl bY.1 R hR
      have mN:=Lib.hid (m0.trans (bW.mono m0.size));clear n zs;go_upto_region 28 with fail
      clear a6;refine wp_region_mix [([0,2],1),([],3),([],4)] [5] (by kernel_rfl) (by kernel_rfl) (by kernel_rfl) (by kernel_rfl) (fun _ _ d _ _ h=>by cases d<;>exact h) ?_
      refine mix_cons (os:=[_,_]) (by simp only[pickO,List.filterMap_cons,List.filterMap_nil,List.getElem?_toArray,List.getElem?_cons_succ,List.getElem?_cons_zero];rfl) (fun Kp hKp=>?_)
      refine wpQuiet_load rfl 63 _ rfl V1.heap.size 0 rfl _ _ rA Tryz.underlying63 rfl (by kernel_rfl) ?_
      try go_simp
      refine wpQuiet_load rfl 63 _ rfl V3.heap.size 0 rfl _ _ rB Tryz.underlying63 rfl (by kernel_rfl) ?_
      try go_simp
      refine wpQuiet_nil ?_;refine hKp _ ?_;clear hKp;refine loud (by rfl) (by kernel_rfl) (fun Kl hKl=>?_);go_simp;refine cA.out ⟨wr.drewN 1,gW⟩ _ (Lib.hid fun U1 ea oa u1=>?_);have g1:=gW.trans (u1.mono gW.size);obtain⟨Aa,ca,rfl⟩:=own_sl2 oa;refine hKl _ _ (BW.of g1) ?_;clear hKl cA;refine mix_cons (os:=[]) (by rfl) (fun Kp hKp=>?_);refine wpQuiet_nil ?_;refine hKp _ ?_;clear hKp;refine loud (by rfl) (by kernel_rfl) (fun Kl hKl=>?_);go_simp;refine cB.out ⟨U1,g1⟩ _ (Lib.hid fun U2 eb ob u2=>?_);have g2:=g1.trans (u2.mono g1.size);obtain⟨Ab,cb,rfl⟩:=own_sl2 ob;refine hKl _ _ (BW.of g2) ?_;clear hKl cB;refine mix_cons (os:=[]) (by rfl) (fun Kp hKp=>?_);refine wpQuiet_nil ?_;refine hKp _ ?_;clear hKp;refine loud (by rfl) (by kernel_rfl) (fun Kl hKl=>?_);go_simp;refine cS.out ⟨U2,g2⟩ _ _ (RdAt.below (RdAt.of_own oa) u2) (RdAt.of_own ob) _ (Lib.hid fun U3 u3=>?_);have g3:=g2.trans (u3.mono g2.size);refine hKl _ _ (BW.of g3) ?_;clear hKl cS;refine mix_nil (os:=[_]) (by simp only[pickO,List.filterMap_cons,List.filterMap_nil,List.getElem?_toArray,List.getElem?_cons_succ,List.getElem?_cons_zero];rfl) (fun Kp hKp=>?_)
      repeat (go_big_quiet_step (exact rfl))
      refine wpQuiet_nil ?_;refine hKp _ ?_;replace mN:=Lib.hid (mN.out.trans (g3.mono mN.out.size));clear hKp g1 g2 g3 u1 u2 u3 gW oa ob rA rB rw bW;go_wp2_with fail
      go_roundg (gq-1)
      case measure=>omega
      case rel=>exact⟨K+1,by go_num,by omega,mN⟩
     case pos =>
      have hD:y.edges.length=D.length:=zs.out.1.symm;have hJD:J<D.length:=by omega
      obtain⟨g,rfl,hBg,hgw,rg,fz⟩:=rw.out.read hD hJD;have lg:g<V1.heap.size:=lE2.out g rfl;have eD:D[J]'hJD=y.edges[J]'hJ:=zs.out.at_ hJ;have zn:=zs.out.step hJ;have ein:=iy.out _ (List.getElem_mem hJ);have eok:=ey.out _ (List.getElem_mem hJ);rw [←eD]at ein eok zn;replace zn:=Lib.hid zn;have i0:(0:Int)≤(J:Int):=by omega
      have j1:(J:Int)<(y.edges.length:Int):=by omega
      obtain⟨e,he⟩:∃e,D[J]'hJD=e:=⟨_,rfl⟩;rw [he]at ein eok rg;replace he:=Lib.hid he;obtain⟨x0,x1,x2,x3,x4,x5,x6,x7,x8,x9⟩:=e;unfold encE at rg;obtain⟨hlb,hsn,hwd⟩:(0≤x4∧x4<((nms s.1).length:Int))∧(0≤x8∧x8<((nms s.1).length:Int))∧(1≤x5∧x5≤64):=⟨eok.lb,eok.sn,eok.wd⟩
      have hbb:decide (0≤x3∧x3<(len:Int))=!x1:=by
       have e1:x1=true→x3=-1:=ein.1;have e2:x1=false→0≤x3∧x3<(x.1.length:Int):=ein.2;rw [hl.out]at e2;cases x1 with
       | true=>exact decide_eq_false (by have:=e1 rfl;omega)
       | false=>exact decide_eq_true (e2 rfl)
      replace hbb:=Lib.hid hbb;replace hD:=Lib.hid hD;dsimp only at rg;clear ein eok eD zs;have rg0:=Lib.hid rg;obtain⟨V6,q6,n,z6⟩:=n.new (.cells #[.string x0,.bool x1,.int .i64 x2,.int .i64 x3,.int .i64 x4,.int .i64 x5,.int .i64 x6,.int .i64 x7,.int .i64 x8,.int .i64 x9] 67);have w6:Below wr.heap.size wr V6:=q6▸(Below.refl _ _).alloc (Nat.le_refl _) _;clear z6;go_upto_region 23 with(first|(refine wpList_load_g (by rfl) 67 _ rfl g (J*10) rfl _ _ rg Tryz.underlying67 rfl (by kernel_rfl) ?_;go_simp)|(refine wpList_copy #[.string x0,.bool x1,.int .i64 x2,.int .i64 x3,.int .i64 x4,.int .i64 x5,.int .i64 x6,.int .i64 x7,.int .i64 x8,.int .i64 x9] ⟨rfl,rfl,rfl⟩ ⟨rfl,rfl,rfl⟩ edg_alloc18 (by kernel_rfl) ⟨rfl,by simp [Value.oneCell']⟩ (fun _=>⟨rfl,rfl⟩) ?_;go_simp))
      clear q6 rg a6;have c3:=n.c 0 3 rfl rfl;have mm:=m0.trans ((F0.bel n).mono m0.size);go_wp2_with fail
      refine cNp.out _ mm _ _ (Lib.hid fun V7 k0 k1 k2 k3 k4 C5 r5 s5 C6 r6 s6 m7=>?_);rw [hbb.out];have w7:=w6.trans (m7.mono w6.size);replace n:=n.bl m7;clear m7 w6 mm c3;obtain⟨V8,q8,n,z8⟩:=n.new (.cells #[.int .i64 k0,.int .i64 k1,.int .i64 k2,.int .i64 k3,.int .i64 k4,.slice C5 r5 s5,.slice C6 r6 s6] 63);have w8:=w7.trans ((q8▸(Below.refl V7.heap.size V7).alloc (Nat.le_refl _) _:Below V7.heap.size V7 V8).mono w7.size);clear z8 w7;go_upto_region 24 with(refine wpList_copy #[.int .i64 k0,.int .i64 k1,.int .i64 k2,.int .i64 k3,.int .i64 k4,.slice C5 r5 s5,.slice C6 r6 s6] ⟨rfl,rfl,rfl⟩ ⟨rfl,rfl,rfl⟩ node_alloc19 (by kernel_rfl) ⟨rfl,by simp [Value.oneCell']⟩ (fun _=>⟨rfl,rfl⟩) ?_;go_simp)
      clear q8;have mm8:=m0.trans ((F0.bel n).mono m0.size);have l1:=n.lt 1 rfl;have z1:=fun q:BW V8=>q.cell l1 (n.c 1 1 rfl rfl)
      have z4:=fun q:BW V8=>q.cell l1 (n.c 1 4 rfl rfl)
      have z5:=fun q:BW V8=>q.cell l1 (n.c 1 5 rfl rfl)
      have z8:=fun q:BW V8=>q.cell l1 (n.c 1 8 rfl rfl)
      have cC:=Lib.hid fun q:BW V8=>(show Calls Tryz.prog 30 #[.pointer (some ⟨P,0,none⟩)] q.w fun e w'=>e=.returned (.pointer (some ⟨L,0,none⟩))∧Below q.w.heap.size q.w w' from platv_calls (((mm8.trans (q.b.mono mm8.size)).block P (hp_lt hbP.out)).trans hbP.out) _ (Lib.hid ⟨rfl,Below.refl _ _⟩))
      have cD:=Lib.hid fun q:BW V8=>(show Calls Tryz.prog 31 #[.pointer (some ⟨L,0,none⟩),.int .i64 x4] q.w fun e w'=>e=.returned (.string ((nms s.1).getD x4.toNat ByteArray.empty))∧Below q.w.heap.size q.w w' from plname_calls (hL.out.below (mm8.trans (q.b.mono mm8.size))) x4 hlb _ (Lib.hid ⟨rfl,Below.refl _ _⟩))
      have cE:=Lib.hid fun q:BW V8=>(show Calls Tryz.prog 31 #[.pointer (some ⟨L,0,none⟩),.int .i64 x8] q.w fun e w'=>e=.returned (.string ((nms s.1).getD x8.toNat ByteArray.empty))∧Below q.w.heap.size q.w w' from plname_calls (hL.out.below (mm8.trans (q.b.mono mm8.size))) x8 hsn _ (Lib.hid ⟨rfl,Below.refl _ _⟩))
      have nl:=nme.out x4.toNat (by omega);have ns_:=nme.out x8.toNat (by omega);generalize(nms s.1).getD x4.toNat ByteArray.empty=sl at *;generalize(nms s.1).getD x8.toNat ByteArray.empty=sn at *;have tl:(sl.toList==(⟨#[]⟩:ByteArray).toList)=false:=by rw [bl_inj];exact decide_eq_false fun q=>nl (bl_ext q)
      have tn:(sn.toList==(⟨#[]⟩:ByteArray).toList)=false:=by rw [bl_inj];exact decide_eq_false fun q=>ns_ (bl_ext q)
      have tl2:¬sl.toList=[]:=by simpa using tl
      have tn2:¬sn.toList=[]:=by simpa using tn
      have tl3:(sl.toList==[])=false:=by simpa using tl2
      have tn3:(sn.toList==[])=false:=by simpa using tn2
      have tl4:sl.toList.isEmpty=false:=by simpa using tl2
      have tn4:sn.toList.isEmpty=false:=by simpa using tn2
      have tb:((!x1)==x1)=false:=by cases x1<;>rfl
      have tw1:¬x5<1:=by omega
      have tw2:¬64<x5:=by omega
      clear nl ns_ hlb hsn hwd;refine wp_region_below_lit (by kernel_rfl) (by kernel_rfl) ?_
      repeat (go_big_quiet_step ((first|(with_reducible exact calls_below (cC.out _))|(with_reducible exact calls_below (cD.out _))|(with_reducible exact calls_below (cE.out _)))))
      refine wpQuiet_nil ?_
      rintro _ ⟨q,rfl⟩
      have w9:=w8.trans (q.b.mono w8.size);replace n:=n.bl q.b;generalize q.w=V9 at *;clear cC cD cE z1 z4 z5 z8 l1 w8 mm8 tl tn tb tw1 tw2 tl2 tn2 tl3 tn3 tl4 tn4;obtain⟨rp,gp,gp1,c9,f9⟩:=(rw.out.below w9).put hD.out (by omega:g<V2.heap.size) hJD;have hc2:V9.cell? ⟨g,J*10+2,none⟩=some (.int .i64 x2):=(w9.cell (p:=⟨g,J*10+2,none⟩) hgw).trans (rg0.out 2 _ rfl)
      have hf2:V9.frozen? ⟨g,J*10+2,none⟩=false:=by
       obtain⟨g',e,-,-,-,hf⟩:=(rw.out.below w9).read hD.out hJD;simp only[Option.some.injEq,Addr.mk.injEq,and_true]at e;obtain rfl:=e;exact hf _
      rw [he.out]at c9;have rel1:=Lib.hid rp;obtain⟨U1,hU1⟩:∃U,V9.setCell ⟨g,J*10+2,none⟩ (.int .i64 0)=U:=⟨_,rfl⟩;rw [hU1]at rel1 gp gp1 c9 f9;obtain⟨U2,hU2⟩:∃U,U1.setCell ⟨g,J*10+9,none⟩ (.int .i64 0)=U:=⟨_,rfl⟩;rw [hU2]at rel1 gp;have a6:=n.c 3 6 rfl rfl
      have hne:∀z∈[(V3.heap.size,Obj.cells #[.int .i64 (n0 y).kind,.int .i64 (n0 y).at_,.int .i64 (n0 y).lo,.int .i64 (n0 y).hi,.int .i64 (n0 y).most,.slice B5 (n0 y).names.length d5,.slice B6 (n0 y).edges.length d6] 63),(V1.heap.size,Obj.cells #[.int .i64 y.kind,.int .i64 0,.int .i64 y.lo,.int .i64 y.hi,.int .i64 y.most,.slice A5 y.names.length c5,.slice (some ⟨g,0,none⟩) y.edges.length c6] 63)],z.1≠g:=fun z hz=>by
       have v3:V1.heap.size<V3.heap.size:=hV13;rcases List.mem_cons.1 hz with rfl|hz
       ·show V3.heap.size≠g
        omega
       ·obtain rfl:=List.mem_singleton.1 hz
        show V1.heap.size≠g;omega
      have n1:=hq_gf n.tail.tail gp1 hBg hne;have a61:=n1.c 1 6 rfl rfl;have n2:=Lib.hid (hq_gf n.tail.tail gp hBg hne);clear n n1 gp gp1 rp rw w9 hne rg0 hgw fz;go_upto_region 26 with fail
      go_upto_region 27 with fail
      clear hU1 hc2 hf2 a6;go_wp2_with fail
      go_roundg (gk-1)
      case measure=>omega
      case rel=>exact⟨J+1,_,by go_num,by omega,zn,rel1,n2⟩
end Go.Proofs.YtabhkakomececaaGreat.Res
