import Derived.Test.YtabhkakomececaaGreatQ10
import Derived.Test.YtabhkakomececaaGreatQ12
set_option linter.all false
set_option maxRecDepth 100000
set_option maxHeartbeats 4000000
namespace Go.Proofs.YtabhkakomececaaGreat.Res
open Go.RowKit Go.Lib Utf Nam Lat Kin Unp Rel
def F0:Fm Unit:=⟨fun _ _=>True,fun _ _=>False,fun _ _ _=>trivial,fun _ h=>h.elim⟩
theorem F0.z(w:World):Hq F0 () () w w []:=Hq.nil trivial
theorem F0.bel{w V:World}{l:List (Nat×Obj)}(h:Hq F0 () () w V l):Below w.heap.size w V:=h.below (Nat.le_refl _) fun _ q=>q.elim
abbrev ndL(x:Nd)(nv pv:Value):List Value:=[.string x.1.1,.int .i64 x.1.2,.int .i64 x.2.1.kind,.int .i64 x.2.1.at_,.int .i64 x.2.1.lo,.int .i64 x.2.1.hi,.int .i64 x.2.1.most,nv,pv,.string x.2.1.name,.int .i64 x.2.1.nat]
theorem nds_el{w:World}{v:Value}{l:List Nd}(h:RdNs w v l):∃(A:Option Addr)(c:Nat),v=.slice A l.length c∧l.length≤c∧∀K,K<l.length→∃g o N1 N3 M1 M3,A=some ⟨g,o,none⟩∧RdY w (nN l K).2.1 (nN l K).2.2 (.slice N1 (nN l K).2.1.names.length N3) (.slice M1 (nN l K).2.2.len M3) ∧
  ∀W,Below w.heap.size w W→W.rangeAt g (o+K*11) (ndL (nN l K) (.slice N1 (nN l K).2.1.names.length N3) (.slice M1 (nN l K).2.2.len M3)):=by
 obtain⟨A,c,rfl,hc,hr⟩:=h;refine⟨A,c,rfl,hc,fun K hK=>?_⟩;obtain⟨g,o,rfl,hg,hi⟩:=hr (by omega);obtain⟨nv,pv,hx,hl⟩:=hi K hK;obtain⟨N1,N3,rfl,-,-⟩:=hx.n.op;obtain⟨M1,M3,rfl,-⟩:=hx.p.sl;exact⟨g,o,N1,N3,M1,M3,rfl,hx,fun W m j v e=>(m.cell (p:=⟨g,o+K*11+j,none⟩) hg).trans (hl j v e)⟩
theorem part_el{w:World}{h:TH}{f:Ft}{nv:Value}{A:Option Addr}{n c K:Nat}{p:PH}{x:TH}{kd r:Ft}(hy:RdY w h f nv (.slice A n c))(e:f.drop K=.cons p x kd r):∃g o A1 n1 A2 n2 A5 n5 A7 n7,A=some ⟨g,o,none⟩∧RdW w (.slice A1 p.label.length n1) p.label∧RdW w (.slice A2 p.cl.length n2) p.cl∧RdY w x kd (.slice A5 x.names.length n5) (.slice A7 kd.len n7) ∧
  ∀W,Below w.heap.size w W→W.rangeAt g (o+K*18) (ptL p x (.slice A1 p.label.length n1) (.slice A2 p.cl.length n2) (.slice A5 x.names.length n5) (.slice A7 kd.len n7)):=by
 obtain⟨g,o,lv,cv,nx,px,rfl,hg,hlv,hcv,hyx,hc⟩:=hy.p.part e;obtain⟨A1,n1,rfl,-,-⟩:=hlv.op;obtain⟨A2,n2,rfl,-,-⟩:=hcv.op;obtain⟨A5,n5,rfl,-,-⟩:=hyx.n.op;obtain⟨A7,n7,rfl,-⟩:=hyx.p.sl;exact⟨g,o,A1,n1,A2,n2,A5,n5,A7,n7,rfl,hlv,hcv,hyx,fun W m j v h=>(m.cell (p:=⟨g,o+K*18+j,none⟩) hg).trans (hc j v h)⟩
theorem named_alloc(ρ:Operand→Value)(W:World)(o:Oper)(h:o.op=.alloc 100):(execOp ρ o).run Tryz.prog W=.ok (.value (ptA W.heap.size)) (W.alloc (.cells #[.string ⟨#[]⟩,.int .i64 0,.int .i64 0,.int .i64 0,.int .i64 0,.int .i64 0,.int .i64 0,.slice none 0 0,.slice none 0 0,.string ⟨#[]⟩,.int .i64 0] 100)):=by
 simp [execOp,h,go_sem,ptA]
def tw(l:List Nd):List Wr:=l.map (·.1)
theorem tw_len(l:List Nd):(tw l).length=l.length:=by simp [tw]
theorem tw_get{l:List Nd}{i:Nat}(h:i<l.length):wN (tw l) i=(nN l i).1:=by
 rw [wN_get (by rw [tw_len];exact h),nN_get h]
 simp [tw]
theorem fault18_calls(s:ByteArray)(z e:Int)(w:World)(R:Ending→World→Prop)(hR:Hid (∀w',Below w.heap.size w w'→R (.returned (.agg #[.int .i64 e,.int .i64 z])) w')):Calls Tryz.prog 128 #[.agg #[.string s,.int .i64 z],.int .i64 e] w R:=by
 go_enter Tryz.func128,Tryz.ntmps128
 go_wp2_with fail
 refine bodyPost_ret (v:=.agg #[.int .i64 e,.int .i64 z]) ?_ rfl (hR.out _ ?_)
 ·simp [results,Tryz.results128,go_sem]
 ·exact((Below.refl _ _).alloc (Nat.le_refl _) _).alloc (by simp) _
theorem names18_calls(l:List Nd)(tv:Value)(w:World)(ht:RdNs w tv l)(hl:l.length≤1000000)(R:Ending→World→Prop)
  (hR:Hid (∀v' w',RdS w' v' (nms (tw l))→Below w.heap.size w w'→R (.returned v') w')):Calls Tryz.prog 60 #[tv] w R:=by
 obtain⟨A,c,rfl,hc,hel⟩:=nds_el ht;obtain⟨M,hM,hmk⟩:=mk_str l.length (by omega);have oA:=own_made (n:=l.length) (w:=w) (t:=9) hM (by simp [sv]) (by unfold maxLen;omega)
 have nb1:=(Below.refl w.heap.size w).alloc (Nat.le_refl _) (.cells M 9);replace hel:=Lib.hid hel;replace oA:=Lib.hid oA;replace nb1:=Lib.hid nb1;clear ht hM;go_enter Tryz.func60,Tryz.ntmps60
 go_wp2_with fail
 go_loopg [11] l.length (fun g i wr=>∃(K:Nat) (q:List ByteArray),i=.int .i64 K∧K+g=l.length∧Hid (Below w.heap.size w wr)∧Hid (OwnS wr w.heap.size w.heap.size l.length q)∧Hid (NmsW (tw l) K q))
 case atStart=>exact⟨0,_,rfl,by omega,nb1,oA,Lib.hid ⟨by simp [tw_len],fun j h=>by omega⟩⟩
 case round =>
  obtain⟨K,q,rfl,c1,nb,ow,hs⟩:=hrel;clear oA nb1;have hsz:=nb.out.size
  by_cases hK:K<l.length
  ·obtain⟨g,o,N1,N3,M1,M3,rfl,-,hrg⟩:=hel.out K hK
   have hs2:=Lib.hid (hs.out.put (show K<(tw l).length by rw [tw_len];exact hK))
   rw [tw_get hK]at hs2;have rg:=hrg wr nb.out;clear hrg hs;generalize nN l K=x at *;have hi0:(0:Int)≤(K:Int):=by omega
   have hi1:(K:Int)<(l.length:Int):=by omega
   have r2:=World.ownsRow.frozenAt ow.out K
   have r3:∃u,wr.cell? ⟨w.heap.size,K,none⟩=some u:=by
    have:=World.ownsRow.cellAt ow.out K (by omega);have hl2:=ow.out.1;exact⟨(sv q)[K]'(by omega),by rw [this,List.getElem?_eq_getElem]⟩
   obtain⟨u,r3⟩:=r3
   have hH:w.heap.size<wr.heap.size:=by
    obtain⟨g',c',e',-,hg',-⟩:=own_at ow.out (show 0<l.length by omega);simp only[Value.slice.injEq,Option.some.injEq,Addr.mk.injEq]at e';rw [e'.1.1];exact hg'
   have m:=F0.z wr;obtain⟨V,eV,m,zV⟩:=m.new (.cells (ndL x (.slice N1 x.2.1.names.length N3) (.slice M1 x.2.2.len M3)).toArray 100);have bV:=F0.bel m;have r4:=(bV.frozen (p:=⟨w.heap.size,K,none⟩) hH).trans r2;have r5:=(bV.cell (p:=⟨w.heap.size,K,none⟩) hH).trans r3;have o2:=own_below ow.out bV;obtain⟨o3,g3⟩:=OwnS.put o2 K x.1.1;have n3:=Lib.hid ((nb.out.trans (bV.mono hsz)).trans (below_of_grown g3 (Nat.le_refl _) (Nat.le_trans hsz bV.size)));replace o3:=Lib.hid o3;have e0:=m.c 0 0 rfl rfl;clear o2 g3 r2 r3 ow nb bV m hH zV;go_upto_region 5 with(first|(refine wpList_load_g (by rfl) 100 _ rfl g (o+K*11) rfl _ _ rg Tryz.underlying100 rfl (by kernel_rfl) ?_;go_simp)|(refine wpList_copy3 (ndL x (.slice N1 x.2.1.names.length N3) (.slice M1 x.2.2.len M3)).toArray _ ⟨rfl,rfl,rfl⟩ rfl (fun _ _=>rfl) ⟨rfl,rfl,rfl⟩ named_alloc (by kernel_rfl) ⟨rfl,by simp [Value.oneCell']⟩ (fun _=>⟨rfl,rfl⟩) ?_;go_simp))
   clear eV rg;go_wp2_with fail
   go_roundg (gk-1)
   case measure=>omega
   case rel=>exact⟨K+1,_,by go_num,by omega,n3,o3,hs2⟩
  ·obtain rfl:K=l.length:=by omega
   have hs2:=hs.out;rw [←tw_len l]at hs2;obtain rfl:=hs2.fin;have fin:=Lib.hid (hR.out _ _ (RdS.of_own ow.out) nb.out);clear ow nb hs;go_wp2_with fail
   exact fin.out
end Go.Proofs.YtabhkakomececaaGreat.Res
namespace Go.Proofs.YtabhkakomececaaGreat
open Go.RowKit Go.Lib
noncomputable def empW(S:Nat→Prop)(w:World):World:={ w with heap:=w.heap.mapIdx fun i o=>@ite _ (S i) (Classical.propDecidable _) (.cells #[] 0) o }
theorem emp_size(S:Nat→Prop)(w:World):(empW S w).heap.size=w.heap.size:=by simp [empW]
theorem emp_in{S:Nat→Prop}{w:World}{g:Nat}(h:S g)(hg:g<w.heap.size):(empW S w).heap[g]?=some (.cells #[] 0):=by
 unfold empW;simp only[Array.getElem?_mapIdx];rw [Array.getElem?_eq_getElem hg];simp [h]
theorem emp_out{S:Nat→Prop}{w:World}{g:Nat}(h:¬S g):(empW S w).heap[g]?=w.heap[g]?:=by
 unfold empW;simp only[Array.getElem?_mapIdx];cases hg:w.heap[g]? <;> simp [h]
theorem emp_cell{S:Nat→Prop}{w:World}{g o:Nat}{v:Value}:(empW S w).cell? ⟨g,o,none⟩=some v↔¬S g∧w.cell? ⟨g,o,none⟩=some v:=by
 by_cases h:S g
 ·refine⟨fun q=>?_,fun q=>absurd h q.1⟩
  have hg:=World.block_lt_of_cell? _ _ q;rw [emp_size]at hg;have:=emp_in h hg;rw [Lib.cell_of_heap this]at q;simp at q
 ·rw [World.cell?_of_block (a:=⟨g,o,none⟩) (emp_out h)]
  exact⟨fun q=>⟨h,q⟩,fun q=>q.2⟩
theorem emp_kp{S S':Nat→Prop}{w w':World}(hs:w.heap.size≤w'.heap.size)(h:∀g,g<w.heap.size→¬S g→¬S' g∧w'.heap[g]?=w.heap[g]?):Kp (empW S w) (empW S' w'):=by
 refine⟨by rw [emp_size,emp_size];exact hs,fun b o v q=>?_⟩
 obtain⟨n,q⟩:=emp_cell.1 q;obtain⟨n',e⟩:=h b (World.block_lt_of_cell? _ _ q) n;exact emp_cell.2 ⟨n',(World.cell?_of_block (a:=⟨b,o,none⟩) e).trans q⟩
theorem emp_un{S:Nat→Prop}{w w':World}(hs:w.heap.size≤w'.heap.size)(h:∀g,g<w.heap.size→¬S g→w'.heap[g]?=w.heap[g]?):Kp (empW S w) w':=by
 refine⟨by rw [emp_size];exact hs,fun b o v q=>?_⟩
 obtain⟨n,q⟩:=emp_cell.1 q;exact(World.cell?_of_block (a:=⟨b,o,none⟩) (h b (World.block_lt_of_cell? _ _ q) n)).trans q
def lowS(b:Nat):Nat→Prop:=fun g=>g<b
def rowS(b:Nat)(v:Value):Nat→Prop:=fun g=>g<b∨v.ownBlock=some g
section
variable {P:Program}
theorem run_append_fresh(w:World)(base:Nat)(t ty e:TypeId)(i:TypeInfo)(z:Value)(size bytes:Nat)(ht:P.underlying t=some (.slice e))(hi:P.info? e=some i)(hz:i.zero=some z)
  (hsize:i.size=size) (hby:i.bytes=bytes) (hzs:z.cells.size=size) (hsz:0<size)
  (v:Value) (n:Nat) (xs:List Value) (hown:w.ownsRow base e size v n xs)
  (a:Addr) (c:Nat) (news:List Value) (hl:news.length=1*size) (hnews:∀j u,news[j]?=some u→w.cell? (a.add j)=some u) (h1:∀u∈news,u.oneCell'=true)
  (h63:n+1≤maxLen) (hbytes:(n+1)*bytes≤140737488355328) (v':Value) (w':World) (hrun:(Builtin.append_ #[t,t] ty #[v,.slice (some a) 1 c]).run P w=.ok v' w'):v'.ownBlock=v.ownBlock∨v'.ownBlock=some w.heap.size:=by
 subst hsize;subst hby;have hsmall:n+1≤9223372036854775807:=by simp only[maxLen]at h63;omega
 rcases hown.2 with⟨rfl,rfl⟩|⟨g,cap,cur,rfl,hbg,hg,hnc,hcm,hcs,htake⟩
 ·have hx:xs=[]:=List.eq_nil_of_length_eq_zero (by simpa using hown.1)
  subst hx;have hr:=run_append_nil (P:=P) w t ty e i z ht hi hz a 1 c news hl hnews (by omega) (by omega) (by have hb:=hbytes;simp only[Nat.zero_add]at hb;omega)
  rw [hr]at hrun;simp only[Result.ok.injEq]at hrun;rw [←hrun.1];exact .inr rfl
 ·by_cases hroom:n+1≤cap
  ·have hfit:n*i.size+news.length≤cur.size:=by rw [hl,hcs,←Nat.add_mul];exact Nat.mul_le_mul_right _ hroom
   have hr:=run_append_room (P:=P) w t ty e i ht hi g n cap cur hg a 1 c news hl hnews h1 hroom hfit;rw [hr]at hrun;simp only[Result.ok.injEq]at hrun;rw [←hrun.1];exact .inl rfl
  ·have holds:∀j u,xs[j]?=some u→w.cell? ((⟨g,0,none⟩:Addr).add j)=some u:=hown.cells (g:=g) rfl
   have hr:=run_append_grow (P:=P) w t ty e i z ht hi hz ⟨g,0,none⟩ n cap xs hown.1 holds a 1 c news hl hnews (by omega) (by omega) (growslice_fits (by omega) hbytes);rw [hr]at hrun;simp only[Result.ok.injEq]at hrun;rw [←hrun.1];exact .inr rfl
theorem appKF{ops:Array Oper}{rest:List Oper}{o:Oper}{a:Act}{Q:Exit→Act→World→Prop}(W:World)(us:Array Value)(k:Nat)(e:TypeId)(hgd:o.guard=none)(s x:Operand)(t:TypeId)
  (ho:o.op=.call { callee:=.builtin .append,args:=#[s,x],argTypes:=#[t,t] })
  (base:Nat) (i:TypeInfo) (z:Value) (bytes:Nat) (ht:P.underlying t=some (.slice e)) (hi:P.info? e=some i) (hz:i.zero=some z) (hsize:i.size=k) (hby:i.bytes=bytes) (hzs:z.cells.size=k) (hk:0<k) (hus:us.size=k)
  (v:Value) (n:Nat) (xs:List Value) (hs:a.eval s=v) (hown:W.ownsRow base e k v n xs) (b:Nat) (hx:a.eval x=.slice (some ⟨b,0,none⟩) 1 1) (hbb:b=W.heap.size) (h1:∀u∈us.toList,u.oneCell'=true)
  (h63:n+1≤maxLen) (hbytes:(n+1)*bytes≤140737488355328) (hbase:base≤W.heap.size)
  (h:∀v' w',w'.ownsRow base e k v' (n+1) (xs++us.toList)→W.grownBy w' v.ownBlock→Below base W w'→(v'.ownBlock=v.ownBlock∨v'.ownBlock=some (W.heap.size+1))→wpList P ops Q rest (a.put o.dst v') w') :
  wpList P ops Q (o::rest) a (W.alloc (.cells us e)):=by
 subst hbb;have hown':=hown.alloc (.cells us e);have hnews:=cells_new W us e;have hbase':base≤(W.alloc (.cells us e)).heap.size:=by simp;omega
 have hz1:(W.alloc (.cells us e)).heap.size=W.heap.size+1:=by simp
 refine wpList_plain hgd fun K hK=>?_
 obtain⟨v',w',hr,h2,h3,h4⟩:=run_append_own (P:=P) (W.alloc (.cells us e)) base t o.type e i z k bytes ht hi hz hsize hby hzs hk v n xs hown' ⟨W.heap.size,0,none⟩ 1 1 us.toList (by simp [hus]) hnews h1 h63 hbytes hbase';have h5:=run_append_fresh (P:=P) (W.alloc (.cells us e)) base t o.type e i z k bytes ht hi hz hsize hby hzs hk v n xs hown' ⟨W.heap.size,0,none⟩ 1 us.toList (by simp [hus]) hnews h1 h63 hbytes v' w' hr;rw [hz1]at h5;have hg':=grown_step h3;unfold Oper.wp execOp;simp only[ho,resolve,invoke,builtin,Sem.run_bind,Sem.run_pure,Result.andThen_ok,List.map_toArray,List.map_cons,List.map_nil,hs,hx,hr];exact hK _ _ (h v' w' h2 hg' (grown_below hg' hbase (fun k hk=>(hown.lt k hk).1)) h5)
end
namespace Fo
variable {H L:Type}
def snoc:Fo H L→L→H→Fo H L→Fo H L
| .nil,l,h,k=>.cons l h k .nil
| .cons l' h' k' r,l,h,k=>.cons l' h' k' (snoc r l h k)
def take:Nat→Fo H L→Fo H L
| 0,_=>.nil
| _+1,.nil=>.nil
| n+1,.cons l h k r=>.cons l h k (take n r)
end Fo
section
variable {H L:Type} {k pre:Nat} {hd:World→List Value→H→Value→Prop} {pl:World→List Value→L→Prop}
def RdsF(k pre:Nat)(hd:World→List Value→H→Value→Prop)(pl:World→List Value→L→Prop)(w:World):List Value→Fo H L→Prop
| xs,.nil=>xs=[]
| xs,.cons l h kids r=>∃ps ts rest,xs=ps++ts++rest∧ps.length=pre∧pl w ps l∧RdNd k pre hd pl w ts h kids∧RdsF k pre hd pl w rest r
end
end Go.Proofs.YtabhkakomececaaGreat
namespace Go.Proofs.YtabhkakomececaaGreat.Res
open Go.RowKit Go.Lib Utf Nam Lat Kin Unp Rel
structure EdR where
name:ByteArray
bare:Bool
at_:Int
dst:Int
label:Int
wide:Int
coarse:Int
n:Int
seen:Int
cat:Int
structure NdR where
kind:Int
at_:Int
lo:Int
hi:Int
most:Int
names:List ByteArray
edges:List EdR
def encE(e:EdR):List Value:=[.string e.name,.bool e.bare,.int .i64 e.at_,.int .i64 e.dst,.int .i64 e.label,.int .i64 e.wide,.int .i64 e.coarse,.int .i64 e.n,.int .i64 e.seen,.int .i64 e.cat]
theorem encE_len(e:EdR):(encE e).length=10:=rfl
abbrev RdEd:=RdG encE 10
abbrev Nv:=NdR×Value×Value
def encN(x:Nv):List Value:=[.int .i64 x.1.kind,.int .i64 x.1.at_,.int .i64 x.1.lo,.int .i64 x.1.hi,.int .i64 x.1.most,x.2.1,x.2.2]
theorem encN_len(x:Nv):(encN x).length=7:=rfl
structure BS where
total:Int
count:Int
sv:Value
st:List Int
nv:Value
nd:List Nv
T:Nat→Prop
abbrev Shp(v:Value):Prop:=v=.slice none 0 0∨∃g o n c,v=.slice (some ⟨g,o,none⟩) n c
theorem own_shp{w:World}{base:Nat}{e:TypeId}{k n:Nat}{v:Value}{xs:List Value}(h:w.ownsRow base e k v n xs):Shp v:=by
 obtain⟨-,⟨rfl,rfl⟩|⟨g,cap,cur,rfl,-⟩⟩:=h
 ·exact .inl rfl
 ·exact .inr ⟨_,_,_,_,rfl⟩
abbrev ints(l:List Int):List Value:=l.map (Value.int .i64)
section
variable (base B:Nat) (lv tv tab:Value) (h:TH) (nv pv:Value)
abbrev buL(s:BS):List Value:=[lv,tv,.int .i64 h.kind,.int .i64 h.at_,.int .i64 h.lo,.int .i64 h.hi,.int .i64 h.most,nv,pv,.string h.name,.int .i64 h.nat,tab,.int .i64 s.total,.int .i64 s.count,s.sv,s.nv]
structure BInv(V:World)(s:BS):Prop where
hB:base≤B
box:V.heap[B]?=some (.cells (buL lv tv tab h nv pv s).toArray 135)
os:V.ownsRow base 3 1 s.sv s.st.length (ints s.st)
on:V.ownsRow base 63 7 s.nv s.nd.length (flatG encN s.nd)
t:∀k,s.T k→base≤k∧k<V.heap.size∧k≠B∧s.sv.ownBlock≠some k∧s.nv.ownBlock≠some k
rd:∀x∈s.nd,RdS (empW (fun k=>¬s.T k) V) x.2.1 x.1.names∧RdEd (empW (fun k=>¬s.T k) V) x.2.2 x.1.edges
d1:s.sv.ownBlock≠some B
d2:s.nv.ownBlock≠some B
d3:∀k,s.sv.ownBlock=some k→s.nv.ownBlock≠some k
sh:∀x∈s.nd,Shp x.2.1∧Shp x.2.2
def bFr(s:BS)(k:Nat):Prop:=base≤k∧(k=B∨s.sv.ownBlock=some k∨s.nv.ownBlock=some k∨s.T k)
theorem ownKp{w w':World}{base:Nat}{e:TypeId}{k n:Nat}{v:Value}{xs:List Value}(h:w.ownsRow base e k v n xs)(hk:∀g,v.ownBlock=some g→base≤g→w'.heap[g]?=w.heap[g]?):w'.ownsRow base e k v n xs:=by
 obtain⟨hl,⟨rfl,rfl⟩|⟨g,cap,cur,rfl,hb,hg,h3⟩⟩:=h
 ·exact⟨hl,.inl ⟨rfl,rfl⟩⟩
 ·exact⟨hl,.inr ⟨g,cap,cur,rfl,hb,(hk g rfl hb).trans hg,h3⟩⟩
theorem BInv.keep{V W:World}{s:BS}(i:BInv base B lv tv tab h nv pv V s)(hs:V.heap.size≤W.heap.size)(e:∀k,bFr base B s k→W.heap[k]?=V.heap[k]?):BInv base B lv tv tab h nv pv W s :=
⟨i.hB,(e B ⟨i.hB,.inl rfl⟩).trans i.box,ownKp i.os fun g q hb=>e g ⟨hb,.inr (.inl q)⟩,ownKp i.on fun g q hb=>e g ⟨hb,.inr (.inr (.inl q))⟩,
 fun k q=>⟨(i.t k q).1,Nat.lt_of_lt_of_le (i.t k q).2.1 hs,(i.t k q).2.2⟩,fun x hx=>by
  have kp:Kp (empW (fun k=>¬s.T k) V) (empW (fun k=>¬s.T k) W):=emp_kp hs fun g _ hn=>⟨hn,e g ⟨(i.t g (Classical.not_not.1 hn)).1,.inr (.inr (.inr (Classical.not_not.1 hn)))⟩⟩
  exact⟨RdAt.kp kp (i.rd x hx).1,RdAt.kp kp (i.rd x hx).2⟩,i.d1,i.d2,i.d3,i.sh⟩
def BF:Fm BS where
Inv:=BInv base B lv tv tab h nv pv
Fr:=bFr base B
keep:=fun i hs e=>i.keep _ _ _ _ _ _ _ _ hs e
lt:=fun {V s k} i q=>by
 rcases q.2 with rfl|q|q|q
 ·exact hp_lt i.box
 ·exact(i.os.lt k q).2
 ·exact(i.on.lt k q).2
 ·exact(i.t k q).2.1
theorem bF_low{w0:World}(hb:w0.heap.size≤base)(s:BS)(k:Nat)(q:(BF base B lv tv tab h nv pv).Fr s k):w0.heap.size≤k:=Nat.le_trans hb q.1
variable {base B lv tv tab h nv pv}
theorem BInv.cell{V:World}{s s':BS}(i:BInv base B lv tv tab h nv pv V s)(o:Nat)(v:Value)(hc:(buL lv tv tab h nv pv s).set o v=buL lv tv tab h nv pv s')(h1:s'.sv=s.sv)(h2:s'.st=s.st)(h3:s'.nv=s.nv)(h4:s'.nd=s.nd)(h5:s'.T=s.T) :
  BInv base B lv tv tab h nv pv (V.setCell ⟨B,o,none⟩ v) s':=by
 have hb:=hp_sat i.box o v;rw [List.setIfInBounds_toArray,hc]at hb;have hne:∀k,k≠B→(V.setCell ⟨B,o,none⟩ v).heap[k]?=V.heap[k]?:=fun k hk=>hp_sne hk
 have sz:(V.setCell ⟨B,o,none⟩ v).heap.size=V.heap.size:=by simp [World.setCell]
 have kp:Kp (empW (fun k=>¬s.T k) V) (empW (fun k=>¬s.T k) (V.setCell ⟨B,o,none⟩ v)):=emp_kp (by omega) fun g _ hn=>⟨hn,hne g (i.t g (Classical.not_not.1 hn)).2.2.1⟩
 refine⟨i.hB,hb,?_,?_,?_,?_,by rw [h1];exact i.d1,by rw [h3];exact i.d2,by rw [h1,h3];exact i.d3,by rw [h4];exact i.sh⟩
 ·rw [h1,h2];exact ownKp i.os fun g q _=>hne g fun e=>i.d1 (e▸q)
 ·rw [h3,h4];exact ownKp i.on fun g q _=>hne g fun e=>i.d2 (e▸q)
 ·rw [h5,h1,h3,sz];exact i.t
 ·rw [h4,h5];exact fun x hx=>⟨RdAt.kp kp (i.rd x hx).1,RdAt.kp kp (i.rd x hx).2⟩
end
end Go.Proofs.YtabhkakomececaaGreat.Res
namespace Go.Proofs.YtabhkakomececaaGreat
open Go.RowKit Go.Lib Nam Lat Kin Unp Res
section
variable {base B:Nat} {lv tv tab:Value} {h:TH} {nv pv:Value}
theorem Hq.cellB{s0 s s':BS}{w V:World}{l:List (Nat×Obj)}(n:Hq (BF base B lv tv tab h nv pv) s0 s w V l)(o:Nat)(v:Value)(hc:(buL lv tv tab h nv pv s).set o v=buL lv tv tab h nv pv s')(h1:s'.sv=s.sv)(h2:s'.st=s.st)(h3:s'.nv=s.nv)(h4:s'.nd=s.nd)(h5:s'.T=s.T) :
  Hq (BF base B lv tv tab h nv pv) s0 s' w (V.setCell ⟨B,o,none⟩ v) l:=by
 have i:BInv base B lv tv tab h nv pv V s:=n.inv;refine n.call ⟨i.cell o v hc h1 h2 h3 h4 h5,⟨rfl,rfl,rfl,by simp [World.setCell],fun k _ hn=>hp_sne fun e=>hn ⟨e▸i.hB,.inl e⟩⟩,fun k q=>.inl ?_,by simp,by simp,.nil⟩;have q2:=q.2;rw [h1,h3,h5]at q2;exact⟨q.1,q2⟩
theorem Hq.bc{s0 s:BS}{w V:World}{l:List (Nat×Obj)}(n:Hq (BF base B lv tv tab h nv pv) s0 s w V l)(o:Nat){v:Value}(hc:(buL lv tv tab h nv pv s)[o]?=some v):V.cell? ⟨B,o,none⟩=some v:=by
 have i:BInv base B lv tv tab h nv pv V s:=n.inv;rw [Lib.cell_of_heap i.box,List.getElem?_toArray,hc]
theorem Hq.bf{s0 s:BS}{w V:World}{l:List (Nat×Obj)}(n:Hq (BF base B lv tv tab h nv pv) s0 s w V l)(o:Nat):V.frozen? ⟨B,o,none⟩=false:=by
 have i:BInv base B lv tv tab h nv pv V s:=n.inv;exact Lib.frozen_of_heap i.box o
theorem Hq.bl_{s0 s:BS}{w V:World}{l:List (Nat×Obj)}(n:Hq (BF base B lv tv tab h nv pv) s0 s w V l):B<V.heap.size:=by
 have i:BInv base B lv tv tab h nv pv V s:=n.inv;exact hp_lt i.box
end
end Go.Proofs.YtabhkakomececaaGreat
