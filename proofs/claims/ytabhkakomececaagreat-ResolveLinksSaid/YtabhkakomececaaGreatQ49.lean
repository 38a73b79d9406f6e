import Derived.Test.YtabhkakomececaaGreatQX
import Derived.SizedLaws
import Derived.Test.YtabhkakomececaaGreatQ18
import Derived.Test.YtabhkakomececaaGreatQ19
set_option linter.all false
set_option maxRecDepth 100000
set_option maxHeartbeats 4000000
namespace Go.Proofs.YtabhkakomececaaGreat
open Go.RowKit Go.Lib Go.ChangeShapes Go.WideShapes Go.Deep
namespace Fo
variable {H L:Type}
def AllB(B:Nat→Prop):Fo H L→Prop
| .nil=>True
| .cons _ _ k r=>B k.len∧AllB B k∧AllB B r
end Fo
def TrS{G:Type}(enc':TypeId×Value→G)(P:Program)(W:World)(bs f:Nat)(t:TypeId)(cs:List Value):Prop :=
∃x:DataW G×List MemPlace,DataW.trod enc' P W bs (fun _=>true) true f t cs=some x∧∀n∈x.1.weights P t,n≤reachBytes
theorem weights_all{G:Type}{P:Program}{e:TypeId}{d:DataW G}{n:Nat}(hn:n∈d.weights P e):∀{ds:List (DataW G)},d∈ds→n∈DataW.weightsAll P e ds
| x::r,h=>by
 simp only[DataW.weightsAll,List.mem_append];rcases List.mem_cons.1 h with rfl|h
 ·exact .inl hn
 ·exact .inr (weights_all hn h)
section
variable {G:Type} {enc':TypeId×Value→G} {P:Program} {W:World} {bs:Nat}
theorem TrS.slice{t e:TypeId}{f:Nat}{v:Value}(ht:P.underlying t=some (.slice e))(h:TrS enc' P W bs f t [v]):∃(A:Option Addr)(len cap:Nat),v=.slice A len cap∧len≤cap∧cap≤maxLen∧len*P.bytesOf e≤reachBytes ∧
   (0<len→∃a f',A=some a∧f'<f∧∀i,i<len→∃cs',W.cells? bs (a.add (i*P.cellsOf e)) (P.cellsOf e)=some cs'∧TrS enc' P W bs f' e cs'):=by
 obtain⟨x,hx,hw⟩:=h;rcases DataW.trod_slice ht hx with⟨h1,-⟩|⟨a,len,cap,elems,rest,n,rfl,h1,rfl,hb,hl,hm,hlen,hel,-,-⟩
 ·simp only[List.cons.injEq,and_true]at h1
  exact⟨none,0,0,h1,Nat.le_refl _,by unfold maxLen;omega,by simp,fun h=>absurd h (by omega)⟩
 ·simp only[List.cons.injEq,and_true]at h1
  have hw':∀n,n∈((elems.map (·.1)).length+(rest.map (·.1)).length)*P.bytesOf e::(DataW.weightsAll P e (elems.map (·.1))++DataW.weightsAll P e (rest.map (·.1)))→n≤reachBytes:=fun n hn=>hw n (by simp only[DataW.weights,ht];exact hn)
  refine⟨some a,len,cap,h1,hl,hm,?_,fun _=>⟨a,n,rfl,Nat.lt_succ_self n,fun i hi=>?_⟩⟩
  ·have:=hw' _ (List.mem_cons_self ..)
   rw [List.length_map,hlen]at this;exact Nat.le_trans (Nat.mul_le_mul_right _ (Nat.le_add_right _ _)) this
  ·have:=hel i hi
   have hie:i<elems.length:=by omega
   rw [List.getElem?_eq_getElem hie,Option.bind_eq_some_iff]at this;obtain⟨cs',q1,q2⟩:=this;exact⟨cs',q1,_,q2,fun n hn=>hw' n (List.mem_cons_of_mem _ (List.mem_append_left _ (weights_all hn (List.mem_map_of_mem (List.getElem_mem hie)))))⟩
theorem TrS.struct{t:TypeId}{fs:Array Field}{f:Nat}{cs:List Value}(ht:P.underlying t=some (.struct fs))(h:TrS enc' P W bs f t cs) :
  ∃n,f=n+1∧∀(i:Nat) (fd:Field),fs[i]?=some fd→TrS enc' P W bs n fd.type ((cs.drop fd.offset).take (P.cellsOf fd.type)):=by
 obtain⟨x,hx,hw⟩:=h;obtain⟨ys,n,rfl,rfl,-,hys,hf⟩:=DataW.trod_struct ht hx;refine⟨n,rfl,fun i fd hi=>?_⟩;have h1:=hf i fd hi
 have hlt:i<ys.length:=by
  rw [hys];exact(Array.getElem?_eq_some_iff.1 hi).1
 rw [List.getElem?_eq_getElem hlt]at h1;refine⟨_,h1,fun m hm=>hw m ?_⟩;simp only[DataW.weights,ht];exact DataW.weights_mem_each (j:=i) (t:=fd.type) (d:=ys[i].1) (by rw [List.getElem?_map,Array.getElem?_toList,hi];rfl) (by rw [List.getElem?_map,List.getElem?_eq_getElem hlt];rfl) m hm
end
section
variable {H L:Type} {k pre:Nat} {hd:World→List Value→H→Value→Prop} {pl:World→List Value→L→Prop}
theorem arg_treeT{P:Program}{W:World}{bs:Nat}(T:Nat→TypeId→List Value→Prop)(B:Nat→Prop){tT tE tS:TypeId}(ce:P.cellsOf tE=pre+k)(k0:0<k)(GH:H→Prop)(GL:L→Prop)
  (op:∀f v,T f tS [v]→∃(A:Option Addr) (len cap:Nat),v=.slice A len cap∧len≤cap∧cap≤maxLen∧B len∧(0<len→∃a f',A=some a∧f'<f∧∀i,i<len→∃cs',W.cells? bs (a.add (i*P.cellsOf tE)) (P.cellsOf tE)=some cs'∧T f' tE cs'))
  (node:∀f cs,T f tT cs→cs.length=k→∃h v f',hd W cs h v∧GH h∧f'<f∧T f' tS [v])
  (elem:∀f cs,T f tE cs→cs.length=pre+k→∃l ps ts f',cs=ps++ts∧ps.length=pre∧ts.length=k∧pl W ps l∧GL l∧f'≤f∧T f' tT ts) :
  ∀F f,f<F→∀cs,T f tT cs→cs.length=k→∃h,GH h∧∃fo:Fo H L,(fo.len≤maxLen∧B fo.len)∧RdNd k pre hd pl W cs h fo∧fo.All GH GL∧fo.AllB B:=by
 intro F
 induction F with
 | zero=>intro f hf;omega
 | succ F ih =>
  intro f hf cs hx hl;obtain⟨h,v,f1,hh,gh,hf1,hy⟩:=node f cs hx hl;obtain⟨A,len,cap,rfl,hlc,hcm,hBl,hel⟩:=op _ _ hy;refine⟨h,gh,?_⟩
  by_cases h0:0<len
  ·obtain⟨a,f2,rfl,hf2,hi⟩:=hel h0
   have key:∀i,i<len→∃(l:L) (h:H) (fo:Fo H L) (ps ts:List Value),GL l∧GH h∧(fo.len≤maxLen∧B fo.len)∧(fo.All GH GL∧fo.AllB B)∧ps.length=pre∧(∀j,j<pre+k→W.cell? (a.add (i*(pre+k)+j))=(ps++ts)[j]?)∧pl W ps l∧RdNd k pre hd pl W ts h fo:=by
    intro i hlt;obtain⟨cs',h1,h2⟩:=hi i hlt;rw [ce]at h1;obtain⟨-,hlen,hcell⟩:=World.cells?_some h1;obtain⟨l,ps,ts,f3,rfl,l1,l2,hp,gl,hf3,hu⟩:=elem _ _ h2 hlen;obtain⟨h',gh',fo,lf,hn,ga⟩:=ih f3 (by omega) ts hu l2;refine⟨l,h',fo,ps,ts,gl,gh',lf,ga,l1,fun j hj=>?_,hp,hn⟩;have:=hcell j hj;rw [add_add]at this;exact this
   obtain⟨b,off,spot⟩:=a
   have hspot:spot=none∧b<W.heap.size:=by
    obtain⟨l,h',fo,ps,ts,-,-,-,-,l1,hc,-,hn⟩:=key 0 h0;have l2:0<(ps++ts).length:=by rw [List.length_append,hn.1];omega
    have:=hc 0 (by omega);rw [List.getElem?_eq_getElem l2]at this;have hs:spot=none:=by simpa [Addr.add]using World.cell?_spot this
    subst hs;exact⟨rfl,by have:=World.block_lt_of_cell? W _ this;simpa [Addr.add]using this⟩
   obtain⟨rfl,hb⟩:=hspot;have ad:∀j,(⟨b,off,none⟩:Addr).add j=⟨b,off+j,none⟩:=fun j=>by unfold Addr.add;split<;>simp_all
   have build:∀m i,i+m=len→∃fo:Fo H L,fo.len=m∧RdFo k pre hd pl W fo b (off+i*(pre+k))∧fo.All GH GL∧fo.AllB B:=by
    intro m
    induction m with
    | zero=>intro i _;exact⟨.nil,rfl,trivial,trivial,trivial⟩
    | succ m im =>
     intro i e;obtain⟨fo,e1,e2,e3,e4⟩:=im (i+1) (by omega);obtain⟨l,h',kids,ps,ts,gl,gh',lf,ga,l1,hc,hp,hn⟩:=key i (by omega);refine⟨.cons l h' kids fo,by rw [Fo.len_cons,e1],RdFo.mk ps ts l1 (fun j v q=>?_) hp hn (by rw [Nat.add_mul,Nat.one_mul,←Nat.add_assoc]at e2;exact e2),⟨gl,gh',lf.1,ga.1,e3⟩,lf.2,ga.2,e4⟩
     have hj:j<pre+k:=by
      have:=(List.getElem?_eq_some_iff.1 q).1;rw [List.length_append,l1,hn.1]at this;exact this
     have:=hc j hj;rw [ad,q]at this;rw [Nat.add_assoc];exact this
   obtain⟨fo,e1,e2,e3,e4⟩:=build len 0 (Nat.zero_add _);rw [Nat.zero_mul,Nat.add_zero]at e2;subst e1;exact⟨fo,⟨Nat.le_trans hlc hcm,hBl⟩,⟨hl,_,hh,some ⟨b,off,none⟩,cap,rfl,hlc,fun _=>⟨b,off,rfl,hb,e2⟩⟩,e3,e4⟩
  ·obtain rfl:len=0:=by omega
   exact⟨.nil,⟨Nat.zero_le _,hBl⟩,⟨hl,_,hh,RdSl.nil _ _ _⟩,trivial,trivial⟩
end
end Go.Proofs.YtabhkakomececaaGreat
namespace Go.Proofs.YtabhkakomececaaGreat.Kin
open Go.RowKit Go.Lib Go.Deep Go.ChangeShapes Go.WideShapes Nam Lat
def LimH(h:TH):Prop:=GoodH h∧h.names.length*24≤140737488355328
def LimL(p:PH):Prop:=GoodL p∧p.label.length*24≤140737488355328∧p.cl.length*24≤140737488355328
def LimN(n:Nat):Prop:=n*224≤140737488355328
theorem all_good:∀{f:Ft},f.All LimH LimL→f.All GoodH GoodL
| .nil,_=>trivial
| .cons _ _ _ _,h=>⟨h.1.1,h.2.1.1,h.2.2.1,all_good h.2.2.2.1,all_good h.2.2.2.2⟩
theorem words_inS{G:Type}{enc':TypeId×Value→G}{W:World}{bs f:Nat}{v:Value}(h:TrS enc' Tryz.prog W bs f 29 [v]) :
  ∃xs:List Wr,RdW W v xs∧(∀x∈xs,GoodW x)∧xs.length≤maxLen∧xs.length*24≤140737488355328:=by
 obtain⟨A,len,cap,e,-,-,hb,-⟩:=TrS.slice Tryz.underlying29 h;obtain⟨x,hx,-⟩:=h;obtain⟨xs,rd,g,l⟩:=words_in hx;obtain⟨A',c',e',-,-⟩:=rd.op;rw [e']at e;simp only[Value.slice.injEq]at e;obtain⟨-,e2,-⟩:=e;have hbw:Tryz.prog.bytesOf 34=24:=by kernel_rfl
 rw [hbw,←e2]at hb;have:=reachBytes_lt;exact⟨xs,rd,g,l,by omega⟩
section
variable {G:Type} {enc':TypeId×Value→G} {W:World} {bs:Nat}
theorem node_typS(f:Nat)(cs:List Value)(hT:TrS enc' Tryz.prog W bs f 36 cs)(hl:cs.length=9) :
  ∃h v f',hdT W cs h v∧LimH h∧f'<f∧TrS enc' Tryz.prog W bs f' 32 [v]:=by
 obtain⟨n,rfl,hf⟩:=TrS.struct Tryz.underlying36 hT
 match cs,hl with
 | [v0,v1,v2,v3,v4,v5,v6,v7,v8],_ =>
  have g0:=hf 0 _ rfl;have g1:=hf 1 _ rfl;have g2:=hf 2 _ rfl;have g3:=hf 3 _ rfl;have g4:=hf 4 _ rfl;have g5:=hf 5 _ rfl;have g6:=hf 6 _ rfl;have g7:=hf 7 _ rfl;have c3:Tryz.prog.cellsOf 3=1:=by kernel_rfl
  have c5:Tryz.prog.cellsOf 29=1:=by kernel_rfl
  have c6:Tryz.prog.cellsOf 32=1:=by kernel_rfl
  have c7:Tryz.prog.cellsOf 34=2:=by kernel_rfl
  have c9:Tryz.prog.cellsOf 9=1:=by kernel_rfl
  simp [c3,c5,c6,c7]at g0 g1 g2 g3 g4 g5 g6 g7;obtain⟨y0,g0,-⟩:=g0;obtain⟨y1,g1,-⟩:=g1;obtain⟨y2,g2,-⟩:=g2;obtain⟨y3,g3,-⟩:=g3;obtain⟨y4,g4,-⟩:=g4;obtain⟨y7,g7,-⟩:=g7;obtain⟨n0,h0,-,w0⟩:=DataW.trod_int Tryz.underlying3 g0;obtain⟨n1,h1,-,w1⟩:=DataW.trod_int Tryz.underlying3 g1;obtain⟨n2,h2,-,w2⟩:=DataW.trod_int Tryz.underlying3 g2;obtain⟨n3,h3,-,w3⟩:=DataW.trod_int Tryz.underlying3 g3;obtain⟨n4,h4,-,w4⟩:=DataW.trod_int Tryz.underlying3 g4;obtain⟨ns,rn,qn,ln,bn⟩:=words_inS g5;obtain⟨zs,m',rfl,-,-,hzs,hk⟩:=DataW.trod_struct Tryz.underlying34 g7
  match zs,hzs with
  | [z0,z1],_ =>
   have k0:=hk 0 _ rfl;have k1:=hk 1 _ rfl;simp [c3,c9]at k0 k1;obtain⟨s7,h7,-,w7⟩:=DataW.trod_string Tryz.underlying9 k0;obtain⟨n8,h8,-,w8⟩:=DataW.trod_int Tryz.underlying3 k1;simp at h0 h1 h2 h3 h4 h7 h8;subst h0 h1 h2 h3 h4 h7 h8;exact⟨⟨n0,n1,n2,n3,n4,ns,s7,n8⟩,v6,_,⟨v5,rfl,rn⟩,⟨⟨wf64 w0,wf64 w1,wf64 w2,wf64 w3,wf64 w4,qn,w7,wf64 w8,ln⟩,bn⟩,Nat.lt_succ_self _,g6⟩
theorem elem_typS(f:Nat)(cs:List Value)(hT:TrS enc' Tryz.prog W bs f 127 cs)(hl:cs.length=9+9) :
  ∃l ps ts f',cs=ps++ts∧ps.length=9∧ts.length=9∧plT W ps l∧LimL l∧f'≤f∧TrS enc' Tryz.prog W bs f' 36 ts:=by
 obtain⟨n,rfl,hf⟩:=TrS.struct Tryz.underlying127 hT
 match cs,hl with
 | [v0,v1,v2,v3,v4,v5,v6,v7,v8,u0,u1,u2,u3,u4,u5,u6,u7,u8],_ =>
  have g0:=hf 0 _ rfl;have g1:=hf 1 _ rfl;have g2:=hf 2 _ rfl;have g3:=hf 3 _ rfl;have g4:=hf 4 _ rfl;have g5:=hf 5 _ rfl;have c3:Tryz.prog.cellsOf 3=1:=by kernel_rfl
  have cb:Tryz.prog.cellsOf 4=1:=by kernel_rfl
  have c5:Tryz.prog.cellsOf 29=1:=by kernel_rfl
  have c7:Tryz.prog.cellsOf 34=2:=by kernel_rfl
  have c9:Tryz.prog.cellsOf 9=1:=by kernel_rfl
  have cc:Tryz.prog.cellsOf 125=4:=by kernel_rfl
  have ct:Tryz.prog.cellsOf 36=9:=by kernel_rfl
  simp [c3,cb,c5,c7,cc,ct]at g0 g1 g2 g3 g4 g5;obtain⟨m4,-,hc⟩:=TrS.struct Tryz.underlying125 g4;obtain⟨y0,g0,-⟩:=g0;obtain⟨y1,g1,-⟩:=g1;obtain⟨y3,g3,-⟩:=g3;obtain⟨b1,h1,-⟩:=DataW.trod_bool Tryz.underlying4 g1;obtain⟨ls,rl,ql,ll,bl'⟩:=words_inS g2;obtain⟨n3,h3,-,w3⟩:=DataW.trod_int Tryz.underlying3 g3;obtain⟨zs,m',-,-,-,hzs,hk⟩:=DataW.trod_struct Tryz.underlying34 g0
  match zs,hzs with
  | [z0,z1],_ =>
   have k0:=hk 0 _ rfl;have k1:=hk 1 _ rfl;have j0:=hc 0 _ rfl;have j1:=hc 1 _ rfl;have j2:=hc 2 _ rfl;have j3:=hc 3 _ rfl;simp [c3,c5,c9]at k0 k1 j0 j1 j2 j3;obtain⟨q0,j0,-⟩:=j0;obtain⟨q1,j1,-⟩:=j1;obtain⟨q2,j2,-⟩:=j2;obtain⟨s0,e0,-,q0⟩:=DataW.trod_string Tryz.underlying9 k0;obtain⟨n1,e1,-,q1⟩:=DataW.trod_int Tryz.underlying3 k1;obtain⟨c0,d0,-,r0⟩:=DataW.trod_int Tryz.underlying3 j0;obtain⟨c1,d1,-,r1⟩:=DataW.trod_int Tryz.underlying3 j1;obtain⟨c2,d2,-,r2⟩:=DataW.trod_int Tryz.underlying3 j2;obtain⟨ms,rm,qm,lm,bm⟩:=words_inS j3;simp at h1 h3 e0 e1 d0 d1 d2;subst h1 h3 e0 e1 d0 d1 d2;exact⟨⟨s0,n1,b1,ls,n3,c0,c1,c2,ms⟩,[_,_,_,_,_,_,_,_,_],_,_,rfl,rfl,rfl,⟨v3,v8,rfl,rl,rm⟩,⟨⟨q0,wf64 q1,ql,wf64 w3,wf64 r0,wf64 r1,wf64 r2,qm,ll,lm⟩,bl',bm⟩,Nat.le_succ _,g5⟩
end
end Go.Proofs.YtabhkakomececaaGreat.Kin
namespace Go.Proofs.YtabhkakomececaaGreat.Kin
open Go.RowKit Go.Lib Utf Nam Lat
def greatB(f:Ft):Bool:=decide (2000<cW f 1)||decide (60<wrap64 (dW f 0+1))
end Go.Proofs.YtabhkakomececaaGreat.Kin
