import Derived.Test.YtncckdaflellnaaGreatQ30
import Derived.Test.YtncckdaflellnaaGreatQ12
import Derived.Test.YtncckdaflellnaaGreatQ42
import Derived.Laws.CopyOwn
set_option linter.all false
set_option maxRecDepth 100000
set_option maxHeartbeats 4000000
namespace Go.Proofs.YtncckdaflellnaaGreat.Unp
open Go.RowKit Go.Lib
theorem sc_block:∀(vs:List Value)(o:Nat)(w:World)(B k:Nat),k≠B→(w.setCells B o vs).heap[k]?=w.heap[k]?
| [],_,_,_,_,_=>rfl
| v::vs,o,w,B,k,h=>(sc_block vs (o+1) (w.setCell ⟨B,o,none⟩ v) B k h).trans (Below.heap_setCell _ ⟨B,o,none⟩ v k h)
theorem sc_size:∀(vs:List Value)(o:Nat)(w:World)(B:Nat),(w.setCells B o vs).heap.size=w.heap.size
| [],_,_,_=>rfl
| v::vs,o,w,B=>(sc_size vs (o+1) (w.setCell ⟨B,o,none⟩ v) B).trans (by simp [World.setCell])
end Go.Proofs.YtncckdaflellnaaGreat.Unp
namespace Go.Proofs.YtncckdaflellnaaGreat
open Go.RowKit Go.Lib Unp
def segA(c:Array Value)(o:Nat):List Value→Array Value
| []=>c
| v::l=>segA (c.setIfInBounds o v) (o+1) l
theorem segA_size:∀(l:List Value)(c:Array Value)(o:Nat),(segA c o l).size=c.size
| [],_,_=>rfl
| v::l,c,o=>(segA_size l _ _).trans (by simp)
theorem segA_out:∀(l:List Value)(c:Array Value)(o j:Nat),(j<o∨o+l.length≤j)→(segA c o l)[j]?=c[j]?
| [],_,_,_,_=>rfl
| v::l,c,o,j,h=>(segA_out l _ (o+1) j (by simp only[List.length_cons]at h;omega)).trans (by
 rw [Array.getElem?_setIfInBounds,if_neg (by simp only[List.length_cons]at h;omega)])
theorem segA_in:∀(l:List Value)(c:Array Value)(o i:Nat)(v:Value),o+l.length≤c.size→l[i]?=some v→(segA c o l)[o+i]?=some v
| [],_,_,_,_,_,h=>by simp at h
| u::l,c,o,0,v,hs,h=>by
 obtain rfl:u=v:=by simpa using h
 show(segA (c.setIfInBounds o u) (o+1) l)[o+0]?=_;rw [segA_out l _ (o+1) (o+0) (.inl (by omega)),Nat.add_zero,Array.getElem?_setIfInBounds,if_pos rfl,if_pos (by simp only[List.length_cons]at hs;omega)]
| u::l,c,o,i+1,v,hs,h=>by
 have:=segA_in l (c.setIfInBounds o u) (o+1) i v (by simp only[List.length_cons,Array.size_setIfInBounds]at hs ⊢;omega) (by simpa using h)
 rw [show o+(i+1)=o+1+i by omega];exact this
theorem sc_at{B:Nat}{t:TypeId}:∀(l:List Value)(o:Nat)(w:World)(c:Array Value),w.heap[B]?=some (.cells c t)→(w.setCells B o l).heap[B]?=some (.cells (segA c o l) t)
| [],_,_,_,h=>h
| v::l,o,w,c,h=>sc_at l (o+1) (w.setCell ⟨B,o,none⟩ v) _ (hp_sat h o v)
theorem there_seg{w:World}{B o m:Nat}{cs:Array Value}{t:TypeId}(h:w.heap[B]?=some (.cells cs t))(hs:o+m≤cs.size):w.there B o m:=fun j hj=>by
 rw [Lib.cell_of_heap h,Lib.frozen_of_heap h];exact⟨by rw [Array.getElem?_eq_getElem (by omega)];rfl,rfl⟩
theorem Hq.seg{S:Type}{F:Fm S}{s0 s:S}{w V:World}{l:List (Nat×Obj)}{j a:Nat}{c:Array Value}{t:TypeId}(h:Hq F s0 s w V l)(hj:l[j]?=some (a,.cells c t))(o:Nat)(vs:List Value):∃V',V.setCells a o vs=V'∧Hq F s0 s w V' (l.set j (a,.cells (segA c o vs) t))∧V'.heap.size=V.heap.size:=by
 have hm:=List.mem_of_getElem? hj;have lo:=h.lo _ hm;have hz:(V.setCells a o vs).heap.size=V.heap.size:=sc_size vs o V a;have hn:∀k,k≠a→(V.setCells a o vs).heap[k]?=V.heap[k]?:=fun k hk=>sc_block vs o V a k hk
 have hos:∀(vs:List Value) (o:Nat) (V:World),(V.setCells a o vs).os=V.os∧(V.setCells a o vs).tape=V.tape∧(V.setCells a o vs).output=V.output:=by
  intro vs
  induction vs with
  | nil=>intro o V;exact⟨rfl,rfl,rfl⟩
  | cons v vs ih=>intro o V;exact ih (o+1) (V.setCell ⟨a,o,none⟩ v)
 refine⟨_,rfl,⟨F.keep h.inv (Nat.le_of_eq hz.symm) fun k hk=>hn k (by rintro rfl;exact lo.2 hk),?_,h.sub,hq_turn hj h.dj h.at_ (sc_at vs o V c (h.at_ _ hm)) hn,fun x hx=>?_,hp_setl (R:=fun x y=>x.1≠y.1) (x:=(a,.cells c t)) (y:=(a,.cells (segA c o vs) t)) (fun z=>⟨Iff.rfl,Iff.rfl⟩) hj h.dj⟩,hz⟩
 ·exact h.gr.trans (T:=fun k=>k=a) ⟨(hos vs o V).1,(hos vs o V).2.1,(hos vs o V).2.2,Nat.le_of_eq hz.symm,fun k _ q=>hn k q⟩ fun k e=>.inr (by subst e;exact lo.1)
 ·rcases List.mem_or_eq_of_mem_set hx with hx|rfl
  ·exact h.lo x hx
  ·exact lo
end Go.Proofs.YtncckdaflellnaaGreat
namespace Go.Proofs.YtncckdaflellnaaGreat.Inh
open Go.RowKit Go.Lib Res Nam Kin Unp
theorem mk_node(n:Nat)(hn:n≤1000000):∃M:Array Value,M.size=n*7 ∧
  ∀w,(Instr.makeSlice 98 (.int .i64 n) (.int .i64 n)).run Tryz.prog w=.ok (.slice (some ⟨w.heap.size,0,none⟩) n n) (w.alloc (.cells M 74)):=by
 obtain⟨i0,hi,hZ⟩:=node_info;simp only[Prod.mk.injEq]at hZ;obtain⟨hz0,hz1,hz2⟩:=hZ;refine⟨madeCells (#[.int .i64 0,.int .i64 0,.int .i64 0,.int .i64 0,.int .i64 0,.slice none 0 0,.slice none 0 0]) (n*7),size_madeCells _ _,fun w=>?_⟩;have:=run_make (P:=Tryz.prog) w 98 74 i0 _ Tryz.underlying98 hi hz0 .i64 .i64 n n (by omega) (Int.le_refl _) (by rw [hz2];omega) (by omega)
 rw [hz1]at this;exact this
theorem cast_w{P:Program}{ops:Array Oper}{Q:Exit→Act→World→Prop}{l:List Oper}{a:Act}{w w':World}(e:w=w')(h:wpList P ops Q l a w'):wpList P ops Q l a w:=e▸h
def NodesP(w:World)(nv:Value)(xs:List Nv):Prop:=∃G,nv=.slice (some ⟨G,0,none⟩) xs.length xs.length∧G<w.heap.size∧(∀j u,(flatG encN xs)[j]?=some u→w.cell? ⟨G,j,none⟩=some u)∧∀y∈xs,RdS w y.2.1 y.1.names∧RdEd w y.2.2 y.1.edges
theorem encN_at{xs:List Nv}{K:Nat}(hK:K<xs.length){j:Nat}{u:Value}(h:(encN xs[K])[j]?=some u):(flatG encN xs)[K*7+j]?=some u:=by
 rw [flatG_get encN_len xs K j hK (by have:=(List.getElem?_eq_some_iff.1 h).1;exact this)]
 exact h
theorem nodes_calls{w:World}{v:Value}{nm:List ByteArray}{F:Nat→Nat→Bool}{ns:List ByteArray}{x:List NdR×Int×List Int}(h:PlanP w v nm F ns x)(hb1:∀y∈x.1,y.names.length≤1000000∧y.edges.length≤1000000)(hlen:x.1.length≤1000000)(R:Ending→World→Prop)
  (hR:Hid (∀w' nv xs,xs.map (·.1)=x.1→NodesP w' nv xs→Below w.heap.size w w'→R (.returned nv) w')):Calls Tryz.prog 71 #[v] w R:=by
 obtain⟨P,hv⟩:∃P,v=.pointer (some ⟨P,0,none⟩):=by
  obtain⟨P,_,_,_,_,_,e,-⟩:=h;exact⟨P,e⟩
 obtain⟨M,hM,hmk⟩:=mk_node x.1.length hlen;obtain⟨nN_,hnN⟩:∃nN_:Nat,x.1.length=nN_:=⟨_,rfl⟩;rw [hnN]at hM hmk;have cL:=Lib.hid fun W (pl:PlanP W v nm F ns x) R hR=>plen_calls pl R hR
 rw [hnN]at cL;have h0:=Lib.hid h;have n:=F0.z w;obtain⟨V,e1,n,z1⟩:=n.new (.cells M 74);subst hv;replace hmk:=hmk w;rw [e1]at hmk;replace hb1:=Lib.hid hb1;have hn63:(nN_:Int)≤1000000:=by omega
 go_enter Tryz.func71,Tryz.ntmps71
 go_wp2_with fail
 refine cL.out w h _ (Lib.hid ?_);clear h;replace hM:=Lib.hid hM;replace hnN:=Lib.hid hnN;go_wp2_with fail
 clear hmk e1 z1;go_loopg [10] nN_ (fun g i wr=>∃(K:Nat) (done:List Nv) (cs:Array Value),i=.int .i64 K∧K+g=nN_∧Hid (Hq F0 () () w wr [(w.heap.size,.cells cs 74)])∧Hid (cs.size=nN_*7∧(∀(j:Nat) (u:Value),(flatG encN done)[j]?=some u→cs[j]?=some u)∧done.map (·.1)=x.1.take K)∧Hid (∀y∈done,RdS (empW (fun k=>k≤w.heap.size) wr) y.2.1 y.1.names∧RdEd (empW (fun k=>k≤w.heap.size) wr) y.2.2 y.1.edges))
 case atStart=>exact⟨0,[],M,rfl,by omega,Lib.hid n,Lib.hid ⟨hM.out,by simp [flatG],rfl⟩,Lib.hid (by simp)⟩
 case round =>
  clear n;obtain⟨K,done,cs,rfl,e1,n,hh,hr⟩:=hrel;replace n:=n.out;have hnN:=hnN.out
  by_cases hK:K<nN_
  ·have i0:(0:Int)≤(K:Int):=by omega
   have i1:(K:Int)<(nN_:Int):=by omega
   have pl:=Lib.hid (h0.out.below (F0.bel n));have gl:=n.lt 0 rfl;obtain⟨hh1,hh2,hh3⟩:=hh.out
   have dl:done.length=K:=by
    have:=congrArg List.length hh3;simp at this;omega
   clear hh;replace hh1:=Lib.hid hh1;replace hh2:=Lib.hid hh2;replace hh3:=Lib.hid hh3;replace hnN:=Lib.hid hnN;go_wp2_with fail
   refine pnodeo_calls pl.out hb1.out K (by rw [hnN.out];exact hK) _ (Lib.hid fun w2 nv ev y hy oS oE m2=>?_)
   obtain⟨⟨k0,k1,k2,k3,k4,ns_,es_⟩,hyy⟩:∃z,z=y:=⟨y,rfl⟩;have aS:=own_empS (S:=fun k=>k≤w.heap.size) oS fun g q=>by have:=(oS.lt g q).1;omega
   have aE:=own_empS (S:=fun k=>k≤w.heap.size) oE fun g q=>by have:=(oE.lt g q).1;omega
   obtain⟨A5,c5,rfl⟩:=own_sl2 oS;obtain⟨A6,c6,rfl⟩:=own_sl2 oE;have n2:=n.bl m2;have hb2:=n2.b 0 rfl;have th:w2.there w.heap.size (K*7) 7:=there_seg hb2 (by rw [hh1.out];omega)
   obtain⟨w3,e3,n3,z3⟩:=n2.seg (j:=0) rfl (K*7) (encN (y,.slice A5 y.names.length c5,.slice A6 y.edges.length c6))
   have r3:Hid (∀z∈done++[(y,Value.slice A5 y.names.length c5,Value.slice A6 y.edges.length c6)],RdS (empW (fun k=>k≤w.heap.size) w3) z.2.1 z.1.names∧RdEd (empW (fun k=>k≤w.heap.size) w3) z.2.2 z.1.edges):=Lib.hid fun z hz=>by
    have k1:Kp (empW (fun k=>k≤w.heap.size) wr) (empW (fun k=>k≤w.heap.size) w3):=emp_kp (by rw [z3];exact m2.size) fun k hk hn=>⟨hn,by
     rw [←e3,sc_block _ _ _ _ _ (by omega)];exact m2.block k hk⟩
    have k2:Kp (empW (fun k=>k≤w.heap.size) w2) (empW (fun k=>k≤w.heap.size) w3):=emp_kp (by rw [z3];exact Nat.le_refl _) fun k hk hn=>⟨hn,by
     rw [←e3,sc_block _ _ _ _ _ (by omega)]⟩
    rcases List.mem_append.1 hz with hz|hz
    ·exact⟨RdAt.kp k1 (hr.out z hz).1,RdAt.kp k1 (hr.out z hz).2⟩
    ·obtain rfl:=List.mem_singleton.1 hz
     exact⟨RdAt.kp k2 aS,RdAt.kp k2 aE⟩
   have hh4:Hid ((segA cs (K*7) (encN (y,.slice A5 y.names.length c5,.slice A6 y.edges.length c6))).size=nN_*7∧(∀(j:Nat) (u:Value),(flatG encN (done++[(y,Value.slice A5 y.names.length c5,Value.slice A6 y.edges.length c6)]))[j]?=some u→(segA cs (K*7) (encN (y,.slice A5 y.names.length c5,.slice A6 y.edges.length c6)))[j]?=some u)∧(done++[(y,Value.slice A5 y.names.length c5,Value.slice A6 y.edges.length c6)]).map (·.1)=x.1.take (K+1)):=Lib.hid ⟨by rw [segA_size];exact hh1.out,fun j u hj=>by
     rw [flatG_append]at hj;have fl:(flatG encN done).length=K*7:=by rw [flatG_len encN_len,dl]
     by_cases q:j<K*7
     ·rw [List.getElem?_append_left (by omega)]at hj
      rw [segA_out _ _ _ _ (.inl q)];exact hh2.out j u hj
     ·rw [List.getElem?_append_right (by omega),fl]at hj
      have e7:flatG encN [(y,Value.slice A5 y.names.length c5,Value.slice A6 y.edges.length c6)]=encN (y,.slice A5 y.names.length c5,.slice A6 y.edges.length c6):=by simp [flatG]
      rw [e7]at hj;have:=segA_in (encN (y,.slice A5 y.names.length c5,.slice A6 y.edges.length c6)) cs (K*7) (j-K*7) u (by rw [hh1.out,encN_len];omega) hj
      rw [show K*7+(j-K*7)=j by omega]at this;exact this,by
     rw [List.map_append,hh3.out,List.take_add_one,hy];rfl⟩
   have n4:=Lib.hid n3;clear hh1 hh2 hh3 hr n3 n2 n aS aE oS oE z3 hb2 pl hyy hy;obtain⟨y0,y1,y2,y3,y4,yn,ye⟩:=y;simp only at *;go_wp2_with (refine wpList_store_mid (by rfl) 74 _ _ (by rfl) w.heap.size (K*7) #[.int .i64 y0,.int .i64 y1,.int .i64 y2,.int .i64 y3,.int .i64 y4,.slice A5 yn.length c5,.slice A6 ye.length c6] (by rfl) (by rfl) th (by kernel_rfl) (by simp [Value.oneCell']) ?_;refine cast_w e3 ?_;go_simp)
   go_roundg (gk-1)
   case measure=>omega
   case rel=>exact⟨K+1,_,_,by go_num,by omega,n4,hh4,r3⟩
  ·obtain rfl:K=nN_:=by omega
   obtain⟨hh1,hh2,hh3⟩:=hh.out;have e:done.map (·.1)=x.1:=by rw [hh3,←hnN,List.take_length]
   have dl:done.length=K:=by
    have:=congrArg List.length e;simp at this;omega
   have gl:=n.lt 0 rfl;have hb:=n.b 0 rfl
   have hn:NodesP wr (.slice (some ⟨w.heap.size,0,none⟩) K K) done:=⟨w.heap.size,by rw [dl],gl,fun j u hj=>by
    rw [Lib.cell_of_heap hb];exact hh2 j u hj,fun z hz=>⟨rd_unemp (hr.out z hz).1,rd_unemp (hr.out z hz).2⟩⟩
   have fin:=Lib.hid (hR.out wr _ done e hn (F0.bel n));clear hR hn hb gl dl e hh1 hh2 hh3 hh hr n;go_wp2_with fail
   exact fin.out
end Go.Proofs.YtncckdaflellnaaGreat.Inh
namespace Go.Proofs.YtncckdaflellnaaGreat.Inh
open Go.RowKit Go.Lib Res Nam Kin
theorem mk_int(n:Nat)(hn:n≤1000000):∃M:Array Value,M=(ints (List.replicate n 0)).toArray ∧
  ∀w,(Instr.makeSlice 51 (.int .i64 n) (.int .i64 n)).run Tryz.prog w=.ok (.slice (some ⟨w.heap.size,0,none⟩) n n) (w.alloc (.cells M 3)):=by
 obtain⟨i0,hi,hZ⟩:=int_info;simp only[Prod.mk.injEq]at hZ;obtain⟨hz0,hz1,hz2⟩:=hZ;refine⟨madeCells (#[.int .i64 0]) (n*1),?_,fun w=>?_⟩
 ·apply Array.ext'
  rw [toList_madeCells_one,Nat.mul_one];simp [ints]
 ·have:=run_make (P:=Tryz.prog) w 51 3 i0 _ Tryz.underlying51 hi hz0 .i64 .i64 n n (by omega) (Int.le_refl _) (by rw [hz2];omega) (by omega)
  rw [hz1]at this;exact this
theorem eq_take{a b:List Int}(hl:a.length=b.length){K:Nat}(h:a.take K=b.take K)(hK:K<a.length)(e:atD a (K:Int)=atD b (K:Int)):a.take (K+1)=b.take (K+1):=by
 rw [List.take_succ_eq_append_getElem hK,List.take_succ_eq_append_getElem (by omega),h];unfold atD at e;rw [Int.toNat_natCast,List.getD_eq_getElem?_getD,List.getD_eq_getElem?_getD,List.getElem?_eq_getElem hK,List.getElem?_eq_getElem (by omega)]at e;simp only[Option.getD_some]at e;rw [e]
theorem equal_calls(a b:List Int)(va vb:Value)(w:World)(ha:RdAt w va 1 (ints a))(hb:RdAt w vb 1 (ints b))(hl:a.length=b.length)(hm:a.length≤1000000)(R:Ending→World→Prop)
  (hR:Hid (∀w',Below w.heap.size w w'→R (.returned (.bool (decide (a=b)))) w')):Calls Tryz.prog 123 #[va,vb] w R:=by
 obtain⟨A,ca,rfl,-,hA⟩:=ints_open ha;obtain⟨B,cb,rfl,-,hB⟩:=ints_open hb;replace hA:=Lib.hid hA;replace hB:=Lib.hid hB;clear ha hb;obtain⟨n,hn⟩:∃n,a.length=n:=⟨_,rfl⟩;rw [hn]at hm ⊢;rw [←hl,hn];replace hn:=Lib.hid hn;replace hl:=Lib.hid hl;go_enter Tryz.func123,Tryz.ntmps123
 go_wp2_with fail
 go_loopg [13] n (fun g i wr=>∃(K:Nat),i=.int .i64 K∧K+g=n∧Hid (Below w.heap.size w wr)∧Hid (a.take K=b.take K))
 case atStart=>exact⟨0,rfl,by omega,Lib.hid (Below.refl _ _),Lib.hid rfl⟩
 case round =>
  obtain⟨K,rfl,e1,nb,e3⟩:=hrel
  by_cases hK:K<n
  ·obtain⟨ga,oa,rfl,hga,ka⟩:=hA.out (by rw [hn.out];omega)
   obtain⟨gb,ob,rfl,hgb,kb⟩:=hB.out (by rw [←hl.out,hn.out];omega)
   have i0:(0:Int)≤(K:Int):=by omega
   have i1:(K:Int)<(n:Int):=by omega
   have x1:=(nb.out.cell (p:=⟨ga,oa+K,none⟩) hga).trans (ka K (by rw [hn.out];exact hK))
   have x2:=(nb.out.cell (p:=⟨gb,ob+K,none⟩) hgb).trans (kb K (by rw [←hl.out,hn.out];exact hK))
   have ne:=Lib.hid fun(q:a=b)=>congrArg (fun z=>atD z (K:Int)) q
   have eqt:=Lib.hid fun(e:atD a (K:Int)=atD b (K:Int))=>eq_take hl.out e3.out (by rw [hn.out];exact hK) e
   clear e3 ka kb;generalize atD a (K:Int)=p at *;generalize atD b (K:Int)=q at *
   by_cases pq:p=q
   ·have t1:(p != q)=false:=by simpa using pq
    have e3:=Lib.hid (eqt.out pq);clear pq eqt ne;go_wp2_with fail
    go_quiet (fail);have b2:=Lib.hid (below_drewN nb.out nq)
    go_wp2_with fail
    go_roundg (gk-1)
    case measure=>omega
    case rel=>exact⟨K+1,by go_num,by omega,b2,e3⟩
   ·have t1:(p != q)=true:=by simpa using pq
    have hf:decide (a=b)=false:=decide_eq_false fun h=>pq (ne.out h)
    have fin:=fun w' (hb:Below w.heap.size w w')=>hR.out w' hb
    rw [hf]at fin;replace fin:=Lib.hid fin;clear pq eqt ne hf hR;go_wp2_with fail
    go_quiet (fail);have b2:=Lib.hid (below_drewN nb.out nq)
    go_wp2_with fail
    exact fin.out _ b2.out
  ·obtain rfl:K=n:=by omega
   have hf:decide (a=b)=true:=decide_eq_true (by
    have h:=e3.out;rw [←hn.out,List.take_length]at h;rw [h,hl.out,List.take_length])
   have fin:=Lib.hid (hR.out wr nb.out);rw [hf]at fin;clear hR hf e3;go_wp2_with fail
   exact fin.out
theorem node_alloc19(ρ:Operand→Value)(W:World)(o:Oper)(h:o.op=.alloc 74):(execOp ρ o).run Tryz.prog W=.ok (.value (ptA W.heap.size)) (W.alloc (.cells #[.int .i64 0,.int .i64 0,.int .i64 0,.int .i64 0,.int .i64 0,.slice none 0 0,.slice none 0 0] 74)):=by
 simp [execOp,h,go_sem,ptA]
def FN(g:Nat):Fm (List Int):=⟨fun V D=>V.heap[g]?=some (.cells (ints D).toArray 3),fun _ k=>k=g,fun h _ e=>(e g rfl).trans h,fun h e=>by subst e;exact hp_lt h⟩
theorem FN.row{g:Nat}{D0 D:List Int}{w V:World}{l:List (Nat×Obj)}(n:Hq (FN g) D0 D w V l)(E:List Int):Hq (FN g) D0 E w (V.setRow g (ints E).toArray) l :=
n.call ⟨setRow_heap V g _ _ _ (0,0) n.inv,⟨rfl,rfl,rfl,by simp,fun k _ q=>setRow_other V g k _ q⟩,fun k e=>.inl e,by simp,by simp,.nil⟩
theorem rd_ints{w:World}{g:Nat}{D:List Int}(h:w.heap[g]?=some (.cells (ints D).toArray 3)):RdAt w (.slice (some ⟨g,0,none⟩) D.length D.length) 1 (ints D) :=
⟨_,_,_,rfl,by simp [ints],Nat.le_refl _,fun _=>⟨g,0,rfl,hp_lt h,fun j u hj=>by
 rw [Nat.zero_add,Lib.cell_of_heap h,List.getElem?_toArray];exact hj⟩⟩
theorem nd_el{w:World}{nv:Value}{xs:List Nv}(h:NodesP w nv xs):∃G,nv=.slice (some ⟨G,0,none⟩) xs.length xs.length∧∀K (hK:K<xs.length),∃A5 c5 A6 c6,xs[K].2.1=.slice A5 xs[K].1.names.length c5∧xs[K].2.2=.slice A6 xs[K].1.edges.length c6∧RdS w xs[K].2.1 xs[K].1.names∧RdEd w xs[K].2.2 xs[K].1.edges∧∀W,Below w.heap.size w W→W.rangeAt G (K*7) (encN xs[K]):=by
 obtain⟨G,e,hG,hc,hr⟩:=h;refine⟨G,e,fun K hK=>?_⟩;obtain⟨h1,h2⟩:=hr _ (List.getElem_mem hK);obtain⟨A5,c5,e5,-⟩:=h1.open;obtain⟨A6,c6,e6,-⟩:=ed_el h2;exact⟨A5,c5,A6,c6,e5,e6,h1,h2,fun W m j u hj=>(m.cell (p:=⟨G,K*7+j,none⟩) hG).trans (hc _ u (encN_at hK hj))⟩
theorem ints_set(E:List Int)(K:Nat)(a:Int):(ints E).toArray.setIfInBounds K (.int .i64 a)=(ints (E.set K a)).toArray:=by
 simp [ints,List.map_set]
theorem set_take{E S:List Int}{K:Nat}{a:Int}(h:E.take K=S.take K)(hK:K<E.length)(hS:S[K]?=some a):(E.set K a).take (K+1)=S.take (K+1):=by
 rw [List.take_succ_eq_append_getElem (by rw [List.length_set];exact hK),List.getElem_set_self,List.take_set_of_le (Nat.le_refl _),h]
 have hl:=(List.getElem?_eq_some_iff.1 hS).1;rw [List.take_succ_eq_append_getElem hl];rw [List.getElem?_eq_getElem hl,Option.some.injEq]at hS;rw [hS]
section
variable {fn:FuncId} {f:List Int→NdR→Int} {xs:List Nv} {gN q:Nat}
def StepC(fn:FuncId)(f:List Int→NdR→Int)(xs:List Nv)(gN q:Nat)(I:List Int→Prop):Prop:=∀(D:List Int)(y:Nv)(V:World),y∈xs→I D→V.heap[gN]?=some (.cells (ints D).toArray 3)→V.heap[q]?=some (.cells #[.slice (some ⟨gN,0,none⟩) xs.length xs.length] 51)→RdS V y.2.1 y.1.names→RdEd V y.2.2 y.1.edges→∀R:Ending→World→Prop,
Hid (∀W,Below V.heap.size V W→R (.returned (.int .i64 (f D y.1))) W)→Calls Tryz.prog fn #[ndV y.1 y.2.1 y.2.2,.pointer (some ⟨q,0,none⟩)] V R
theorem grow_calls{I:List Int→Prop}{μ:List Int→Nat}{w0 w:World}{nv:Value}{D0:List Int}(hfn:IsF fn)(hst:StepC fn f xs gN q I)(hN:NodesP w0 nv xs)(hb:Below w0.heap.size w0 w)(hg:w0.heap.size≤gN)(hq:q≠gN)(hgN:w.heap[gN]?=some (.cells (ints D0).toArray 3))(hqb:w.heap[q]?=some (.cells #[.slice (some ⟨gN,0,none⟩) xs.length xs.length] 51))(hx:xs.length≤1000000)
  (hI0:I D0) (hI:∀D,I D→D.length=xs.length∧I (stp f (xs.map (·.1)) D)∧(D≠stp f (xs.map (·.1)) D→μ (stp f (xs.map (·.1)) D)<μ D)) (R:Ending→World→Prop)
  (hR:Hid (∀W D,I D→stp f (xs.map (·.1)) D=D→Hq (FN gN) D0 D w W []→R (.returned (.tuple #[])) W)):Calls Tryz.prog 72 #[.slice (some ⟨gN,0,none⟩) xs.length xs.length,nv,.func (.func fn) #[] #[.pointer (some ⟨q,0,none⟩)]] w R:=by
 obtain⟨G,rfl,hel⟩:=nd_el hN;obtain⟨len,hlen⟩:∃len,xs.length=len:=⟨_,rfl⟩;rw [hlen]at hx hqb ⊢;obtain⟨M,hM,hmk⟩:=mk_int len hx;have n:Hq (FN gN) D0 D0 w w []:=Hq.nil hgN;obtain⟨V,e1,n,z1⟩:=n.new (.cells M 3);obtain⟨E0,hE0⟩:∃E0,E0=List.replicate len (0:Int):=⟨_,rfl⟩;rw [←hE0]at hM;have hE1:E0.length=len:=by rw [hE0,List.length_replicate]
 subst hM;clear hE0;replace hmk:=hmk w;rw [e1]at hmk;replace hlen:=Lib.hid hlen;replace hst:=Lib.hid hst;replace hI:=Lib.hid hI;replace hel:=Lib.hid hel;unfold IsF at hfn;have qlt:=hp_lt hqb;replace hqb:=Lib.hid hqb;go_enter Tryz.func72,Tryz.ntmps72
 go_wp2_with fail
 clear hmk e1 z1;go_loopg [14] (μ D0) (fun g s wr=>∃(D E:List Int),μ D≤g∧Hid (I D)∧Hid (E.length=len)∧Hid (Hq (FN gN) D0 D w wr [(w.heap.size,.cells (ints E).toArray 3)]))
 case atStart=>exact⟨D0,E0,Nat.le_refl _,Lib.hid hI0,Lib.hid hE1,Lib.hid n⟩
 case round =>
  clear n;obtain⟨gk0,hgk0⟩:∃z,z=gk:=⟨gk,rfl⟩;subst hgk0;obtain⟨D,E,hm,hID,hE,n⟩:=hrel;replace n:=n.out;obtain⟨hDl,hIS,hμ⟩:=hI.out D hID.out;obtain⟨S,hS⟩:∃S,S=stp f (xs.map (·.1)) D:=⟨_,rfl⟩;have hSl:S.length=len:=by rw [hS,stp_len,List.length_map,hlen.out]
  rw [←hS]at hIS hμ;replace hS:=Lib.hid hS;replace hSl:=Lib.hid hSl;replace hDl:=Lib.hid (hDl.trans hlen.out);replace hIS:=Lib.hid hIS;replace hμ:=Lib.hid hμ;replace hm:=Lib.hid hm;go_wp2_with fail
  go_loopg [14] len (fun g i wr=>∃(K:Nat) (E:List Int),i=.int .i64 K∧K+g=len∧Hid (E.length=len∧E.take K=S.take K)∧Hid (Hq (FN gN) D0 D w wr [(w.heap.size,.cells (ints E).toArray 3)]))
  case atStart=>exact⟨0,E,rfl,by omega,Lib.hid ⟨hE.out,rfl⟩,Lib.hid n⟩
  case round =>
   clear n;obtain⟨K,E,rfl,e1,hE,n⟩:=hrel;replace n:=n.out
   by_cases hK:K<len
   ·obtain⟨A5,c5,A6,c6,e5,e6,rS,rE,hrg⟩:=hel.out K (by rw [hlen.out];exact hK)
    have hy:=List.getElem_mem (show K<xs.length by rw [hlen.out];exact hK)
    have hSK:S[K]?=some (f D (xs[K]'(by rw [hlen.out];exact hK)).1):=by
     rw [hS.out];unfold stp;rw [List.getElem?_map,List.getElem?_map,List.getElem?_eq_getElem (by rw [hlen.out];exact hK)]
     rfl
    obtain⟨⟨y0,y1,y2,y3,y4,yn,ye⟩,hyy⟩:∃z,z=(xs[K]'(by rw [hlen.out];exact hK)).1:=⟨_,rfl⟩
    have hbV:Below w0.heap.size w0 wr:=hb.trans ((n.below (b:=w0.heap.size) hb.size fun k e=>by subst e;exact hg))
    have rg:=hrg wr hbV;have i0:(0:Int)≤(K:Int):=by omega
    have i1:(K:Int)<(len:Int):=by omega
    obtain⟨hE1,hE2⟩:=hE.out;have cC:=Lib.hid fun V h1 h2 (m:Below w0.heap.size w0 V) R hR=>hst.out D _ V hy hID.out h1 h2 (rS.below m) (RdAt.below rE m) R hR
    clear hrg rS rE hy;rw [e5,e6]at cC;generalize(xs[K]'(by rw [hlen.out];exact hK))=y at *
    obtain⟨y,v5,v6⟩:=y;simp only at e5 e6 hyy hSK cC;subst e5 e6 hyy;obtain⟨V2,e2,n,z2⟩:=n.new (.cells #[.int .i64 0,.int .i64 0,.int .i64 0,.int .i64 0,.int .i64 0,.slice none 0 0,.slice none 0 0] 74);have hG:=n.b 0 rfl;obtain⟨V3,e3,n⟩:=n.row (j:=0) rfl (encN (⟨y0,y1,y2,y3,y4,yn,ye⟩,.slice A5 yn.length c5,.slice A6 ye.length c6)).toArray;have hE5:=Lib.hid hE2;replace hSK:=Lib.hid hSK;clear hE2 hE z2;go_upto_region 4 with(first|(refine wpList_load_g (by rfl) 74 _ rfl G (K*7) rfl _ _ rg Tryz.underlying74 rfl (by kernel_rfl) ?_;go_simp)|(refine wpList_store_row (by rfl) 74 _ _ (by rfl) wr.heap.size (encN (⟨y0,y1,y2,y3,y4,yn,ye⟩,.slice A5 yn.length c5,.slice A6 ye.length c6)).toArray (by rfl) (by rfl) 74 _ hG (by kernel_rfl) rfl (by simp [Value.oneCell',encN]) ?_;refine cast_w e3 ?_;go_simp))
    clear e2 e3 rg hG;have r2:V3.rangeAt wr.heap.size 0 (encN (⟨y0,y1,y2,y3,y4,yn,ye⟩,.slice A5 yn.length c5,.slice A6 ye.length c6)):=n.rg 0 rfl;have hbV3:Below w0.heap.size w0 V3:=hb.trans (n.below (b:=w0.heap.size) hb.size fun k e=>by subst e;exact hg)
    have hq3:=(n.gr.block q qlt hq).trans hqb.out;have hi3:V3.heap[gN]?=some (.cells (ints D).toArray 3):=n.inv;rw [←hlen.out]at hq3;have cD:=Lib.hid fun R hR=>cC.out V3 hi3 hq3 hbV3 R hR
    clear cC hbV3 hq3 hi3;go_wp2_with (refine wpList_load_g (by rfl) 74 _ rfl wr.heap.size 0 rfl _ _ r2 Tryz.underlying74 rfl (by kernel_rfl) ?_;go_simp)
    refine cD.out _ (Lib.hid fun W4 m4=>?_);clear cD r2;replace n:=(n.bl m4).tail;obtain⟨ov,x1⟩:∃ov,W4.cell? ⟨w.heap.size,K,none⟩=some (.int .i64 ov):=⟨E[K]'(by omega),(Lib.cell_of_heap (n.b 0 rfl) K).trans (show(ints E).toArray[K]?=some (.int .i64 (E[K]'(by omega)))by simp [ints])⟩;have x2:=n.f 0 K rfl;obtain⟨W5,e5,n5,z5⟩:=n.put (j:=0) rfl [(K,.int .i64 (f D ⟨y0,y1,y2,y3,y4,yn,ye⟩))];simp only[stL]at e5;simp only[stA,List.set_cons_zero,ints_set]at n5;have hE6:=Lib.hid (show(E.set K (f D ⟨y0,y1,y2,y3,y4,yn,ye⟩)).length=len∧(E.set K (f D ⟨y0,y1,y2,y3,y4,yn,ye⟩)).take (K+1)=S.take (K+1)from⟨by rw [List.length_set];exact hE1,set_take hE5.out (by omega) hSK.out⟩)
    have n6:=Lib.hid n5;clear n n5 hE1 hE5 hSK;generalize f D ⟨y0,y1,y2,y3,y4,yn,ye⟩=fv at *;go_wp2_with fail
    go_roundg (gk-1)
    case measure=>omega
    case rel=>exact⟨K+1,_,by go_num,by omega,hE6,n6⟩
   ·obtain rfl:K=len:=by omega
    obtain⟨hE1,hE2⟩:=hE.out
    have eE:E=S:=by
     have h1:E.take E.length=E:=List.take_length;have h2:S.take S.length=S:=List.take_length;rw [hE1]at h1;rw [hSl.out]at h2;rw [←h1,←h2,hE2]
    subst eE;clear hE hE2;have rE:=rd_ints (n.b 0 rfl);have rD:=rd_ints (show wr.heap[gN]?=some (.cells (ints D).toArray 3)from n.inv);rw [hE1]at rE;rw [hDl.out]at rD;have cE:=Lib.hid fun R hR=>equal_calls E D _ _ wr rE rD (by rw [hE1,hDl.out]) (by omega) R hR
    clear rE rD;go_wp2_with fail
    refine cE.out _ (Lib.hid fun W4 m4=>?_);clear cE;replace n:=n.bl m4
    by_cases ed:E=D
    ·have hf:decide (E=D)=true:=decide_eq_true ed
     have fin:=Lib.hid (hR.out W4 D hID.out (by rw [←hS.out];exact ed) n.fin)
     rw [hf];clear hf ed hR n hS hSl;go_wp2_with fail
     first|refine bodyPost_ret ?_ rfl fin.out|refine bodyPost_end ?_ rfl fin.out
     simp [results,Tryz.results72,go_sem]
    ·have hf:decide (E=D)=false:=decide_eq_false ed
     have hm2:=hμ.out (fun q=>ed q.symm);rw [hf];have bG:=n.b 0 rfl;have bN:W4.heap[gN]?=some (.cells (ints D).toArray 3):=n.inv
     have hsrc:∀j v,(ints E)[j]?=some v→W4.cell? ((⟨w.heap.size,0,none⟩:Addr).add j)=some v:=fun j v hj=>by
      rw [Addr.add_lit,Lib.cell_of_heap bG,Nat.zero_add,List.getElem?_toArray];exact hj
     have lE:(ints E).length=K:=by simp [ints,hE1]
     have lD:(ints D).toArray.size=K:=by simp [ints,hDl.out]
     have eA:((ints D).toArray.toList.take 0++(ints E++(ints D).toArray.toList.drop (0+(ints E).length))).toArray=(ints E).toArray:=by
      rw [List.take_zero,List.nil_append,List.drop_eq_nil_of_le (by simp [ints,hE1,hDl.out]),List.append_nil]
     have n7:=Lib.hid (FN.row n E);have hm3:μ E≤gk0-1:=by have:=hm.out;omega
     have hm4:1≤gk0:=by have:=hm.out;omega
     clear hf ed hm2 hm hS hSl n;go_upto_region 7 with fail
     go_wp2_with (refine wpList_copy_own (by rfl) (.tmp 29) (.tmp 30) 51 51 (by rfl) 3 Tryz.underlying51 (by kernel_rfl) gN 0 K K ⟨w.heap.size,0,none⟩ K K (by rfl) (by rfl) (ints D).toArray 3 bN (ints E) (by rw [lE];exact(Nat.min_self K).symm) hsrc (by rw [lE,lD];omega) (by simp [ints,Value.oneCell']) ?_;refine cast_w (congrArg (W4.setRow gN) eA) ?_;go_simp)
     go_roundg (gk0-1)
     case measure=>omega
     case rel=>exact⟨E,E,hm3,hIS,Lib.hid hE1,n7⟩
end
theorem dep_bd(ns:List NdR)(k:Nat)(j:Int):0≤atD (itr depN ns k) j∧atD (itr depN ns k) j≤ns.length:=by
 by_cases h:k≤ns.length
 ·have:=dep_rel ns k j
  exact⟨this.1,by have:=this.2.1;omega⟩
 ·have e:=itr_fix (dep_done ns) (k-ns.length)
  rw [show ns.length+(k-ns.length)=k by omega]at e;rw [e];have:=dep_rel ns ns.length j;exact⟨this.1,this.2.1⟩
theorem cnt_bd(ns:List NdR)(k:Nat):BdC (itr cntN ns k):=fun j=>⟨(cnt_rel ns k j).1,Int.le_trans (cnt_rel ns k j).2.1 (cnt_rel ns k j).2.2⟩
theorem inU_of{M:Nat}{l:List NdR}(h:NdIn M l){y:NdR}(hy:y∈l){D:List Int}(hD:D.length=M):InU D y.edges:=fun e he hb=>by
 rw [hD];exact(h y hy e he).2 hb
theorem isF_dep:IsF 73:=by
 intro args w;unfold callFunc;simp [go_sem,Tryz.func73];rfl
theorem isF_sev:IsF 76:=by
 intro args w;unfold callFunc;simp [go_sem,Tryz.func76];rfl
def NdQ(xs:List Nv)(D:List Int):Prop:=∀y∈xs,GoodY y.1∧InU D y.1.edges
theorem step_dep{xs:List Nv}{gN q:Nat}{I:List Int→Prop}(hI:∀D,I D→D.length=xs.length∧BdD D∧NdQ xs D):StepC 73 depN xs gN q I:=by
 intro D y V hy hD hg hq rS rE R hR;obtain⟨hl,hb,hQ⟩:=hI D hD;obtain⟨gy,hu⟩:=hQ y hy;obtain⟨y,v5,v6⟩:=y;obtain⟨A5,c5,e5,-⟩:=rS.open;obtain⟨A6,c6,e6,-⟩:=ed_el rE;simp only at e5 e6 hR gy hu rS rE ⊢;subst e5 e6;have n:=F0.z V;obtain⟨V2,e2,n,z2⟩:=n.new (.cells #[.int .i64 y.kind,.int .i64 y.at_,.int .i64 y.lo,.int .i64 y.hi,.int .i64 y.most,.slice A5 y.names.length c5,.slice A6 y.edges.length c6] 74);have m2:=F0.bel n;have r2:V2.rangeAt V.heap.size 0 [.int .i64 y.kind,.int .i64 y.at_,.int .i64 y.lo,.int .i64 y.hi,.int .i64 y.most,.slice A5 y.names.length c5,.slice A6 y.edges.length c6]:=n.rg 0 rfl;have cq:=(Lib.cell_of_heap ((m2.block q (hp_lt hq)).trans hq) 0).trans rfl;have rD:=rd_ints ((m2.block gN (hp_lt hg)).trans hg);rw [hl]at rD;have cL:=Lib.hid fun R hR=>least_calls y D _ _ _ V2 (rS.below m2) (RdAt.below rE m2) rD gy hu hb R hR
 have fin:=Lib.hid fun W (m:Below V2.heap.size V2 W)=>hR.out W (m2.trans (m.mono m2.size))
 clear hR n hg hq rS rE rD gy hu hb hQ hI hl z2;go_enter Tryz.func73,Tryz.ntmps73
 go_upto_region 1 with fail
 clear e2;go_wp2_with (refine wpList_load_g (by rfl) 74 _ rfl V.heap.size 0 rfl _ _ r2 Tryz.underlying74 rfl (by kernel_rfl) ?_;go_simp)
 refine cL.out _ (Lib.hid fun W m=>?_);replace fin:=Lib.hid (fin.out W m);clear r2 cq cL;go_wp2_with fail
 exact fin.out
theorem step_sev{xs:List Nv}{gN q:Nat}{I:List Int→Prop}(hI:∀D,I D→D.length=xs.length∧BdC D∧NdQ xs D):StepC 76 cntN xs gN q I:=by
 intro D y V hy hD hg hq rS rE R hR;obtain⟨hl,hb,hQ⟩:=hI D hD;obtain⟨gy,hu⟩:=hQ y hy;obtain⟨y,v5,v6⟩:=y;obtain⟨A5,c5,e5,-⟩:=rS.open;obtain⟨A6,c6,e6,-⟩:=ed_el rE;simp only at e5 e6 hR gy hu rS rE ⊢;subst e5 e6;have n:=F0.z V;obtain⟨V2,e2,n,z2⟩:=n.new (.cells #[.int .i64 y.kind,.int .i64 y.at_,.int .i64 y.lo,.int .i64 y.hi,.int .i64 y.most,.slice A5 y.names.length c5,.slice A6 y.edges.length c6] 74);have m2:=F0.bel n;have r2:V2.rangeAt V.heap.size 0 [.int .i64 y.kind,.int .i64 y.at_,.int .i64 y.lo,.int .i64 y.hi,.int .i64 y.most,.slice A5 y.names.length c5,.slice A6 y.edges.length c6]:=n.rg 0 rfl;have cq:=(Lib.cell_of_heap ((m2.block q (hp_lt hq)).trans hq) 0).trans rfl;have rD:=rd_ints ((m2.block gN (hp_lt hg)).trans hg);rw [hl]at rD;have cL:=Lib.hid fun R hR=>count_calls y D _ _ _ V2 (rS.below m2) (RdAt.below rE m2) rD gy hu hb R hR
 have fin:=Lib.hid fun W (m:Below V2.heap.size V2 W)=>hR.out W (m2.trans (m.mono m2.size))
 clear hR n hg hq rS rE rD gy hu hb hQ hI hl z2;go_enter Tryz.func76,Tryz.ntmps76
 go_upto_region 1 with fail
 clear e2;go_wp2_with (refine wpList_load_g (by rfl) 74 _ rfl V.heap.size 0 rfl _ _ r2 Tryz.underlying74 rfl (by kernel_rfl) ?_;go_simp)
 refine cL.out _ (Lib.hid fun W m=>?_);replace fin:=Lib.hid (fin.out W m);clear r2 cq cL;go_wp2_with fail
 exact fin.out
theorem grow2_calls{fn:FuncId}{f:List Int→NdR→Int}{xs:List Nv}{gN q len:Nat}{I:List Int→Prop}{μ:List Int→Nat}{w0 w:World}{nv:Value}{D0:List Int}(hlen:xs.length=len)(hfn:IsF fn)(hst:StepC fn f xs gN q I)(hN:NodesP w0 nv xs)(hb:Below w0.heap.size w0 w)(hg:w0.heap.size≤gN)(hq:q≠gN)(hgN:w.heap[gN]?=some (.cells (ints D0).toArray 3))(hqb:w.heap[q]?=some (.cells #[.slice (some ⟨gN,0,none⟩) len len] 51))(hx:len≤1000000)
  (hI0:I D0) (hI:∀D,I D→D.length=len∧I (stp f (xs.map (·.1)) D)∧(D≠stp f (xs.map (·.1)) D→μ (stp f (xs.map (·.1)) D)<μ D)) (R:Ending→World→Prop)
  (hR:Hid (∀W D,I D→stp f (xs.map (·.1)) D=D→Hq (FN gN) D0 D w W []→R (.returned (.tuple #[])) W)):Calls Tryz.prog 72 #[.slice (some ⟨gN,0,none⟩) len len,nv,.func (.func fn) #[] #[.pointer (some ⟨q,0,none⟩)]] w R:=by
 subst hlen;exact grow_calls hfn hst hN hb hg hq hgN hqb hx hI0 hI R hR
abbrev depL(ns:List NdR):List Int:=itr depN ns ns.length
theorem depthsx_calls{w:World}{P:Option Addr}{ns:List NdR}(hnodes:∀R:Ending→World→Prop,Hid (∀w' nv xs,xs.map (·.1)=ns→NodesP w' nv xs→Below w.heap.size w w'→R (.returned nv) w')→Calls Tryz.prog 71 #[.pointer P] w R)(hg:GoodL ns)(hin:NdIn ns.length ns)(hlen:ns.length≤40000)(R:Ending→World→Prop)
  (hR:Hid (∀W v',RdAt W v' 1 (ints (depL ns))→Below w.heap.size w W→R (.returned v') W)):Calls Tryz.prog 31 #[.pointer P] w R:=by
 replace hnodes:=Lib.hid hnodes;go_enter Tryz.func31,Tryz.ntmps31
 go_wp2_with fail
 refine hnodes.out _ (Lib.hid fun w1 nv xs hx hN m1=>?_);have hxl:xs.length=ns.length:=by rw [←hx,List.length_map]
 have hN0:=hN;obtain⟨G,rfl,-⟩:=hN0;obtain⟨len,hlen1⟩:∃len,ns.length=len:=⟨_,rfl⟩;rw [hlen1]at hlen hxl;obtain⟨M,hM,hmk⟩:=mk_int len (by omega);have n:=(F0.z w).bl m1;have n1:Hq F0 () () w1 w1 []:=F0.z w1;obtain⟨V2,e2,n,z2⟩:=n.new (.cells M 3);obtain⟨V2',e2',n1,-⟩:=n1.new (.cells M 3);obtain rfl:V2=V2':=e2.symm.trans e2';obtain⟨V3,e3,n,z3⟩:=n.new (.cells #[.slice (some ⟨w1.heap.size,0,none⟩) len len] 51);obtain⟨V3',e3',n1,-⟩:=n1.new (.cells #[.slice (some ⟨w1.heap.size,0,none⟩) len len] 51);obtain rfl:V3=V3':=e3.symm.trans e3';rw [z2]at n n1;replace hmk:=hmk w1;rw [e2]at hmk;have hn1:(len:Int)≤40000:=by omega
 rw [hxl]at hN ⊢;replace hx:=Lib.hid hx;replace hxl:=Lib.hid hxl;replace hlen1:=Lib.hid hlen1;replace hN:=Lib.hid hN;replace hg:=Lib.hid hg;replace hin:=Lib.hid hin;have bq:=n.c 0 0 rfl rfl;have ib:=Lib.hid (And.intro (n1.b 1 rfl) (n1.b 0 rfl));have bN:=Lib.hid (F0.bel n1);replace hM:=Lib.hid hM;have z23:w1.heap.size+1≠w1.heap.size:=by omega
 have lG1:=m1.size;have bW:=Lib.hid (F0.bel n);have hmf:∀(fn:Fn) (first cap:Array Value) (w:World),(Instr.makeFunc fn first cap).run Tryz.prog w=.ok (.func fn first cap) w:=fun _ _ _ _=>rfl
 clear e2' e3' n1;go_upto_region 3 with fail
 clear hmk e2 e3 z2 z3;go_wp2_with fail
 rw [hM.out]at ib
 have hz:(List.replicate len (0:Int))=itr depN ns 0:=by
  show _=ns.map fun _=>0
  rw [List.map_const',hlen1.out]
 rw [hz]at ib;refine grow2_calls (fn:=73) (f:=depN) (xs:=xs) (gN:=w1.heap.size) (q:=w1.heap.size+1) (I:=fun D=>∃k,D=itr depN ns k) (μ:=zer) (w0:=w1) (nv:=.slice (some ⟨G,0,none⟩) len len) (D0:=itr depN ns 0) hxl.out isF_dep (step_dep fun D hD=>?_) hN.out bN.out (Nat.le_refl _) z23 ib.out.1 ib.out.2 (by omega) ⟨0,rfl⟩ (fun D hD=>?_) _ (Lib.hid fun W D hD hfix n2=>?_)
 ·obtain⟨k,rfl⟩:=hD
  refine⟨by rw [itr_len,hlen1.out,hxl.out],fun j=>⟨(dep_bd _ _ j).1,by have:=(dep_bd ns k j).2;have:=hlen1.out;omega⟩,fun y hy=>?_⟩
  have hy2:y.1∈ns:=by rw [←hx.out];exact List.mem_map_of_mem hy
  exact⟨hg.out _ hy2,inU_of hin.out hy2 (itr_len _ _ _)⟩
 ·obtain⟨k,rfl⟩:=hD
  rw [hx.out];exact⟨by rw [itr_len,hlen1.out],⟨k+1,rfl⟩,(dep_zer ns k).2⟩
 ·obtain⟨k,rfl⟩:=hD
  rw [hx.out]at hfix;have e:itr depN ns k=depL ns:=itr_one hfix (dep_done ns);have rD:=rd_ints (show W.heap[w1.heap.size]?=some (.cells (ints (itr depN ns k)).toArray 3)from n2.inv);rw [e]at rD;rw [show(depL ns).length=len by rw [itr_len,hlen1.out]]at rD;have fin:=Lib.hid (hR.out W _ rD (bW.out.trans (n2.below bW.out.size fun k e=>by subst e;exact lG1)))
  have cq:=(Lib.cell_of_heap ((n2.gr.block (w1.heap.size+1) (hp_lt ib.out.2) z23).trans ib.out.2) 0).trans rfl;clear hR n2 rD e hfix bq;go_wp2_with fail
  exact fin.out
theorem depths_calls{w:World}{v:Value}{nm:List ByteArray}{F:Nat→Nat→Bool}{ns:List ByteArray}{x:List NdR×Int×List Int}(h:PlanP w v nm F ns x)(hg:GoodL x.1)(hin:NdIn x.1.length x.1)(hlen:x.1.length≤40000)(R:Ending→World→Prop)
  (hR:Hid (∀W v',RdAt W v' 1 (ints (depL x.1))→Below w.heap.size w W→R (.returned v') W)):Calls Tryz.prog 31 #[v] w R:=by
 have hb1:∀y∈x.1,y.names.length≤1000000∧y.edges.length≤1000000:=fun y hy=>⟨Nat.le_trans (hg y hy).ln (by decide),Nat.le_trans (hg y hy).le (by decide)⟩
 obtain⟨P,rfl⟩:∃P,v=.pointer (some ⟨P,0,none⟩):=by
  obtain⟨P,_,_,_,_,_,e,-⟩:=h;exact⟨P,e⟩
 exact depthsx_calls (fun R hR=>nodes_calls h hb1 (by omega) R hR) hg hin hlen R hR
end Go.Proofs.YtncckdaflellnaaGreat.Inh
