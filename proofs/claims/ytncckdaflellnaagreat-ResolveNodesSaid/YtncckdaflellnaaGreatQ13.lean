import Derived.Test.YtncckdaflellnaaGreatQ12
set_option linter.all false
set_option maxRecDepth 100000
set_option maxHeartbeats 4000000
namespace Go.Proofs.YtncckdaflellnaaGreat.Res
open Go.RowKit Go.Lib Utf Nam Lat Kin Unp Rel
structure EdR where
name:ByteArray
bare:Bool
at_:Int
dst:Int
label:Int
wide:Int
coarse:Int
n:Int
seen:Int
cat:Int
structure NdR where
kind:Int
at_:Int
lo:Int
hi:Int
most:Int
names:List ByteArray
edges:List EdR
def encE(e:EdR):List Value:=[.string e.name,.bool e.bare,.int .i64 e.at_,.int .i64 e.dst,.int .i64 e.label,.int .i64 e.wide,.int .i64 e.coarse,.int .i64 e.n,.int .i64 e.seen,.int .i64 e.cat]
theorem encE_len(e:EdR):(encE e).length=10:=rfl
abbrev RdEd:=RdG encE 10
abbrev Nv:=NdR×Value×Value
def encN(x:Nv):List Value:=[.int .i64 x.1.kind,.int .i64 x.1.at_,.int .i64 x.1.lo,.int .i64 x.1.hi,.int .i64 x.1.most,x.2.1,x.2.2]
theorem encN_len(x:Nv):(encN x).length=7:=rfl
structure BS where
total:Int
count:Int
sv:Value
st:List Int
nv:Value
nd:List Nv
T:Nat→Prop
abbrev Shp(v:Value):Prop:=v=.slice none 0 0∨∃g o n c,v=.slice (some ⟨g,o,none⟩) n c
theorem own_shp{w:World}{base:Nat}{e:TypeId}{k n:Nat}{v:Value}{xs:List Value}(h:w.ownsRow base e k v n xs):Shp v:=by
 obtain⟨-,⟨rfl,rfl⟩|⟨g,cap,cur,rfl,-⟩⟩:=h
 ·exact .inl rfl
 ·exact .inr ⟨_,_,_,_,rfl⟩
abbrev ints(l:List Int):List Value:=l.map (Value.int .i64)
section
variable (base B:Nat) (lv tv tab:Value) (h:TH) (nv pv:Value)
abbrev buL(s:BS):List Value:=[lv,tv,.int .i64 h.kind,.int .i64 h.at_,.int .i64 h.lo,.int .i64 h.hi,.int .i64 h.most,nv,pv,.string h.name,.int .i64 h.nat,tab,.int .i64 s.total,.int .i64 s.count,s.sv,s.nv]
structure BInv(V:World)(s:BS):Prop where
hB:base≤B
box:V.heap[B]?=some (.cells (buL lv tv tab h nv pv s).toArray 100)
os:V.ownsRow base 3 1 s.sv s.st.length (ints s.st)
on:V.ownsRow base 74 7 s.nv s.nd.length (flatG encN s.nd)
t:∀k,s.T k→base≤k∧k<V.heap.size∧k≠B∧s.sv.ownBlock≠some k∧s.nv.ownBlock≠some k
rd:∀x∈s.nd,RdS (empW (fun k=>¬s.T k) V) x.2.1 x.1.names∧RdEd (empW (fun k=>¬s.T k) V) x.2.2 x.1.edges
d1:s.sv.ownBlock≠some B
d2:s.nv.ownBlock≠some B
d3:∀k,s.sv.ownBlock=some k→s.nv.ownBlock≠some k
sh:∀x∈s.nd,Shp x.2.1∧Shp x.2.2
def bFr(s:BS)(k:Nat):Prop:=base≤k∧(k=B∨s.sv.ownBlock=some k∨s.nv.ownBlock=some k∨s.T k)
theorem ownKp{w w':World}{base:Nat}{e:TypeId}{k n:Nat}{v:Value}{xs:List Value}(h:w.ownsRow base e k v n xs)(hk:∀g,v.ownBlock=some g→base≤g→w'.heap[g]?=w.heap[g]?):w'.ownsRow base e k v n xs:=by
 obtain⟨hl,⟨rfl,rfl⟩|⟨g,cap,cur,rfl,hb,hg,h3⟩⟩:=h
 ·exact⟨hl,.inl ⟨rfl,rfl⟩⟩
 ·exact⟨hl,.inr ⟨g,cap,cur,rfl,hb,(hk g rfl hb).trans hg,h3⟩⟩
theorem BInv.keep{V W:World}{s:BS}(i:BInv base B lv tv tab h nv pv V s)(hs:V.heap.size≤W.heap.size)(e:∀k,bFr base B s k→W.heap[k]?=V.heap[k]?):BInv base B lv tv tab h nv pv W s :=
⟨i.hB,(e B ⟨i.hB,.inl rfl⟩).trans i.box,ownKp i.os fun g q hb=>e g ⟨hb,.inr (.inl q)⟩,ownKp i.on fun g q hb=>e g ⟨hb,.inr (.inr (.inl q))⟩,
 fun k q=>⟨(i.t k q).1,Nat.lt_of_lt_of_le (i.t k q).2.1 hs,(i.t k q).2.2⟩,fun x hx=>by
  have kp:Kp (empW (fun k=>¬s.T k) V) (empW (fun k=>¬s.T k) W):=emp_kp hs fun g _ hn=>⟨hn,e g ⟨(i.t g (Classical.not_not.1 hn)).1,.inr (.inr (.inr (Classical.not_not.1 hn)))⟩⟩
  exact⟨RdAt.kp kp (i.rd x hx).1,RdAt.kp kp (i.rd x hx).2⟩,i.d1,i.d2,i.d3,i.sh⟩
def BF:Fm BS where
Inv:=BInv base B lv tv tab h nv pv
Fr:=bFr base B
keep:=fun i hs e=>i.keep _ _ _ _ _ _ _ _ hs e
lt:=fun {V s k} i q=>by
 rcases q.2 with rfl|q|q|q
 ·exact hp_lt i.box
 ·exact(i.os.lt k q).2
 ·exact(i.on.lt k q).2
 ·exact(i.t k q).2.1
theorem bF_low{w0:World}(hb:w0.heap.size≤base)(s:BS)(k:Nat)(q:(BF base B lv tv tab h nv pv).Fr s k):w0.heap.size≤k:=Nat.le_trans hb q.1
variable {base B lv tv tab h nv pv}
theorem BInv.cell{V:World}{s s':BS}(i:BInv base B lv tv tab h nv pv V s)(o:Nat)(v:Value)(hc:(buL lv tv tab h nv pv s).set o v=buL lv tv tab h nv pv s')(h1:s'.sv=s.sv)(h2:s'.st=s.st)(h3:s'.nv=s.nv)(h4:s'.nd=s.nd)(h5:s'.T=s.T) :
  BInv base B lv tv tab h nv pv (V.setCell ⟨B,o,none⟩ v) s':=by
 have hb:=hp_sat i.box o v;rw [List.setIfInBounds_toArray,hc]at hb;have hne:∀k,k≠B→(V.setCell ⟨B,o,none⟩ v).heap[k]?=V.heap[k]?:=fun k hk=>hp_sne hk
 have sz:(V.setCell ⟨B,o,none⟩ v).heap.size=V.heap.size:=by simp [World.setCell]
 have kp:Kp (empW (fun k=>¬s.T k) V) (empW (fun k=>¬s.T k) (V.setCell ⟨B,o,none⟩ v)):=emp_kp (by omega) fun g _ hn=>⟨hn,hne g (i.t g (Classical.not_not.1 hn)).2.2.1⟩
 refine⟨i.hB,hb,?_,?_,?_,?_,by rw [h1];exact i.d1,by rw [h3];exact i.d2,by rw [h1,h3];exact i.d3,by rw [h4];exact i.sh⟩
 ·rw [h1,h2];exact ownKp i.os fun g q _=>hne g fun e=>i.d1 (e▸q)
 ·rw [h3,h4];exact ownKp i.on fun g q _=>hne g fun e=>i.d2 (e▸q)
 ·rw [h5,h1,h3,sz];exact i.t
 ·rw [h4,h5];exact fun x hx=>⟨RdAt.kp kp (i.rd x hx).1,RdAt.kp kp (i.rd x hx).2⟩
end
end Go.Proofs.YtncckdaflellnaaGreat.Res
namespace Go.Proofs.YtncckdaflellnaaGreat
open Go.RowKit Go.Lib Nam Lat Kin Unp Res
section
variable {base B:Nat} {lv tv tab:Value} {h:TH} {nv pv:Value}
theorem Hq.cellB{s0 s s':BS}{w V:World}{l:List (Nat×Obj)}(n:Hq (BF base B lv tv tab h nv pv) s0 s w V l)(o:Nat)(v:Value)(hc:(buL lv tv tab h nv pv s).set o v=buL lv tv tab h nv pv s')(h1:s'.sv=s.sv)(h2:s'.st=s.st)(h3:s'.nv=s.nv)(h4:s'.nd=s.nd)(h5:s'.T=s.T) :
  Hq (BF base B lv tv tab h nv pv) s0 s' w (V.setCell ⟨B,o,none⟩ v) l:=by
 have i:BInv base B lv tv tab h nv pv V s:=n.inv;refine n.call ⟨i.cell o v hc h1 h2 h3 h4 h5,⟨rfl,rfl,rfl,by simp [World.setCell],fun k _ hn=>hp_sne fun e=>hn ⟨e▸i.hB,.inl e⟩⟩,fun k q=>.inl ?_,by simp,by simp,.nil⟩;have q2:=q.2;rw [h1,h3,h5]at q2;exact⟨q.1,q2⟩
theorem Hq.bc{s0 s:BS}{w V:World}{l:List (Nat×Obj)}(n:Hq (BF base B lv tv tab h nv pv) s0 s w V l)(o:Nat){v:Value}(hc:(buL lv tv tab h nv pv s)[o]?=some v):V.cell? ⟨B,o,none⟩=some v:=by
 have i:BInv base B lv tv tab h nv pv V s:=n.inv;rw [Lib.cell_of_heap i.box,List.getElem?_toArray,hc]
theorem Hq.bf{s0 s:BS}{w V:World}{l:List (Nat×Obj)}(n:Hq (BF base B lv tv tab h nv pv) s0 s w V l)(o:Nat):V.frozen? ⟨B,o,none⟩=false:=by
 have i:BInv base B lv tv tab h nv pv V s:=n.inv;exact Lib.frozen_of_heap i.box o
theorem Hq.bl_{s0 s:BS}{w V:World}{l:List (Nat×Obj)}(n:Hq (BF base B lv tv tab h nv pv) s0 s w V l):B<V.heap.size:=by
 have i:BInv base B lv tv tab h nv pv V s:=n.inv;exact hp_lt i.box
end
end Go.Proofs.YtncckdaflellnaaGreat
namespace Go.Proofs.YtncckdaflellnaaGreat.Kin
open Go.RowKit Go.Lib Utf Nam Lat
theorem set2k'{b q:Nat}{w W:World}(hq:b≤q)(n:Below b w W)(a0 a1:Value):Below b w ((W.setCell ⟨q,0,none⟩ a0).setCell ⟨q,1,none⟩ a1):=(n.setCell (p:=⟨q,0,none⟩) hq a0).setCell (p:=⟨q,1,none⟩) hq a1
def labG:Nat→List Wr→Int×Int
| _,[]=>(0,0)
| i,x::r=>if i=32 then(8,x.2)else if rightS x.1=false then(9,x.2)else labG (i+1) r
def labelC(l:List Wr):Int×Int:=labG 0 l
theorem labG_drop{l:List Wr}{i:Nat}(hi:i<l.length):labG i (l.drop i)=if i=32 then(8,(wN l i).2)else if rightS (wN l i).1=false then(9,(wN l i).2)else labG (i+1) (l.drop (i+1)):=by
 rw [List.drop_eq_getElem_cons hi,wN_get hi];rfl
def coarC(p:PH):Int×Int :=
if p.ck=0 then(if p.cn≠0∨p.cl≠[]then(19,p.at_)else(0,0))
else if p.ck<0∨3<p.ck then(14,p.cat)
else if(p.ck=1∧p.cn<1)∨(p.ck=2∧(p.cn<0∨4096<p.cn))∨(p.ck=3∧p.cn≠0)then(20,p.cat)
else labelC p.cl
noncomputable def wcF:Ft→Mo→Nat→Nat→Res
| .nil,_,_,m=>(0,0,m)
| .cons _ h k _,.one,d,m=>wrB h k (wcF k) d m
| .cons p h k r,.parts K ns i,d,m =>
 if listedS ns i≠0 then(listedS ns i,p.at_,m)
 else if p.bare then(if K=7∨zeroB h k=false∨plainB p bPH=false then(19,p.at_,m)else wcF r (.parts K ns (i+1)) d m)
 else if p.wide<0∨64<p.wide then(20,p.at_,m)
 else if(labelC p.label).1≠0 then((labelC p.label).1,(labelC p.label).2,m)
 else if(coarC p).1≠0 then((coarC p).1,(coarC p).2,m)
 else if(wrB h k (wcF k) d m).1≠0 then wrB h k (wcF k) d m
 else wcF r (.parts K ns (i+1)) d (wrB h k (wcF k) d m).2.2
theorem wcF_cnt:∀(f:Ft)(mo:Mo)(d m:Nat),m≤512→(wcF f mo d m).1=0→(wcF f mo d m).2.2≤512
| .nil,_,_,m,hm=>fun _=>hm
| .cons p h k r,.one,d,m,hm=>wrB_cnt h k _ (wcF_cnt k) d m
| .cons p h k r,.parts K ns i,d,m,hm=>by
 have hB:=wrB_cnt h k _ (wcF_cnt k) d m;have hr:=fun m hm=>wcF_cnt r (.parts K ns (i+1)) d m hm
 unfold wcF;generalize wrB h k (wcF k) d m=A at *
 repeat' split
 all_goals first|exact hr _ hm|exact hB|(intro _;exact hm)|skip
 rename_i q
 exact hr _ (hB (by simpa using q))
theorem wcF_zero:∀(f:Ft)(mo:Mo)(d m:Nat),(wcF f mo d m).1=0→(wcF f mo d m).2.1=0
| .nil,_,_,m=>fun _=>rfl
| .cons p h k r,.one,d,m=>wrB_zero h k _ (wcF_zero k) d m
| .cons p h k r,.parts K ns i,d,m=>by
 have hB:=wrB_zero h k _ (wcF_zero k) d m;have hr:=fun m=>wcF_zero r (.parts K ns (i+1)) d m
 unfold wcF;generalize wrB h k (wcF k) d m=A at *
 repeat' split
 all_goals first|exact hr _|exact hB|(rename_i q;exact fun h=>absurd h q)|(intro q;simp at q)
def nfS(n:ByteArray)(z:Int)(b:Bool):Int×Int:=if rightS n=false then(9,z)else if b then(10,z)else(0,0)
theorem twi_here{ns:List ByteArray}{I:Nat}(hI:I<ns.length)(hb:∀j,j<I→ns.getD j ByteArray.empty ∉ ns.take j):(I:Int)=twiS ns↔ns.getD I ByteArray.empty∈ns.take I:=by
 rcases twi_cases ns with⟨e,h⟩|⟨m,hm,h1,h2,e⟩
 ·rw [e]
  exact⟨fun q=>by omega,fun q=>absurd q (h I hI)⟩
 ·rw [e]
  refine⟨fun q=>?_,fun q=>?_⟩
  ·obtain rfl:I=m:=by omega
   exact h1
  ·by_cases c:I<m
   ·exact absurd q (h2 I c)
   ·by_cases c':m<I
    ·exact absurd h1 (hb m c')
    ·omega
theorem listed_nf{ns:List ByteArray}{I:Nat}(hI:I<ns.length)(hb:∀j,j<I→listedS ns j=0)(z:Int):nfS (ns.getD I ByteArray.empty) z ((I:Int)==twiS ns)=if listedS ns I≠0 then(listedS ns I,z)else(0,0):=by
 have hb':∀j,j<I→ns.getD j ByteArray.empty ∉ ns.take j:=fun j hj q=>by
  have:=hb j hj;unfold listedS at this;rw [if_pos q]at this
  split at this<;>omega
 have h:=twi_here hI hb';unfold nfS listedS
 by_cases c:rightS (ns.getD I ByteArray.empty)=false
 ·rw [if_pos c,if_pos c];simp
 ·rw [if_neg c,if_neg c]
  by_cases q:ns.getD I ByteArray.empty∈ns.take I
  ·rw [if_pos q,if_pos (by simpa using h.2 q)];simp
  ·rw [if_neg q,if_neg (by simpa using fun e=>q (h.1 e))];simp
theorem nameFault_calls(n:ByteArray)(z:Int)(b:Bool)(w:World)(hn:n.size≤maxLen)(R:Ending→World→Prop)(hR:Hid (∀w',Below w.heap.size w w'→R (.returned (.agg #[.int .i64 (nfS n z b).1,.int .i64 (nfS n z b).2])) w')):Calls Tryz.prog 206 #[.agg #[.string n,.int .i64 z],.bool b] w R:=by
 have b1:=(Below.refl w.heap.size w).alloc (Nat.le_refl _) (.cells #[.string n,.int .i64 z] 27);have b2:=b1.alloc b1.size (.cells #[.int .i64 0,.int .i64 0] 34);have hz:(w.alloc (.cells #[.string n,.int .i64 z] 27)).heap.size=w.heap.size+1:=by simp
 have e1:=(((Below.refl _ _).alloc (Nat.le_refl _) (.cells #[.int .i64 0,.int .i64 0] 34)).block w.heap.size (by omega)).trans (heap_alloc_new w (.cells #[.string n,.int .i64 z] 27));have e2:=heap_alloc_new (w.alloc (.cells #[.string n,.int .i64 z] 27)) (.cells #[.int .i64 0,.int .i64 0] 34);rw [hz]at e2;go_enter Tryz.func206,Tryz.ntmps206
 go_upto_region 1 with fail
 generalize(w.alloc (.cells #[.string n,.int .i64 z] 27)).alloc (.cells #[.int .i64 0,.int .i64 0] 34)=V at *;have k0:=(Lib.cell_of_heap e1 0).trans rfl;have k1:=(Lib.cell_of_heap e1 1).trans rfl;have y0:=(Lib.cell_of_heap e2 0).trans rfl;have yf0:=Lib.frozen_of_heap e2 0;have y1:=(Lib.cell_of_heap e2 1).trans rfl;have yf1:=Lib.frozen_of_heap e2 1;clear e1 e2 hz b1;go_wp2_with fail
 refine right_calls n hn _ _ (Lib.hid ?_);cases hr:rightS n
 ·have hq:nfS n z b=(9,z):=if_pos hr
  clear hr;have fin:=Lib.hid (hR.out _ (set2k' (q:=w.heap.size+1) (by omega) b2 (.int .i64 (9)) (.int .i64 (z))));rw [hq]at fin;clear hR;go_wp2_with fail
  refine bodyPost_ret ?_ rfl fin.out;simp [results,Tryz.results206,go_sem,y0,y1]
 ·cases b
  ·have hq:nfS n z false=(0,0):=by unfold nfS;rw [if_neg (by rw [hr];simp)];rfl
   clear hr;have fin:=Lib.hid (hR.out _ (set2k' (q:=w.heap.size+1) (by omega) b2 (.int .i64 (0)) (.int .i64 (0))));rw [hq]at fin;clear hR;go_wp2_with fail
   refine bodyPost_ret ?_ rfl fin.out;simp [results,Tryz.results206,go_sem,y0,y1]
  ·have hq:nfS n z true=(10,z):=by unfold nfS;rw [if_neg (by rw [hr];simp)];rfl
   clear hr;have fin:=Lib.hid (hR.out _ (set2k' (q:=w.heap.size+1) (by omega) b2 (.int .i64 (10)) (.int .i64 (z))));rw [hq]at fin;clear hR;go_wp2_with fail
   refine bodyPost_ret ?_ rfl fin.out;simp [results,Tryz.results206,go_sem,y0,y1]
theorem labelFault_calls(a:List Wr)(hm:a.length≤maxLen)(hg:∀x∈a,GoodW x)(va:Value)(w:World)(ha:RdW w va a)(R:Ending→World→Prop)(hR:Hid (∀w',Below w.heap.size w w'→R (.returned (.agg #[.int .i64 (labelC a).1,.int .i64 (labelC a).2])) w')):Calls Tryz.prog 223 #[va] w R:=by
 replace hm:a.length≤9223372036854775807:=hm;obtain⟨A,ca,rfl,hca,hra⟩:=ha.op;have b1:=(Below.refl w.heap.size w).alloc (Nat.le_refl _) (.cells #[.int .i64 0,.int .i64 0] 34);have e1:=heap_alloc_new w (.cells #[.int .i64 0,.int .i64 0] 34);have e0:labelC a=labG 0 (a.drop 0):=rfl;replace hra:=Lib.hid hra;clear ha;go_enter Tryz.func223,Tryz.ntmps223
 go_upto_region 1 with fail
 generalize w.alloc (.cells #[.int .i64 0,.int .i64 0] 34)=V at *;go_wp2_with fail
 go_loopg [7] a.length (fun g i wr=>∃K:Nat,i=.int .i64 K∧K+g=a.length∧Hid (Below w.heap.size w wr)∧wr.heap[w.heap.size]?=some (.cells #[.int .i64 0,.int .i64 0] 34)∧labelC a=labG K (a.drop K))
 case atStart=>exact⟨0,rfl,by omega,Lib.hid b1,e1,e0⟩
 case round =>
  clear b1 e1 e0;obtain⟨K,rfl,e1,nb,hY,e2⟩:=hrel;have y0:=(Lib.cell_of_heap hY 0).trans rfl;have yf0:=Lib.frozen_of_heap hY 0;have y1:=(Lib.cell_of_heap hY 1).trans rfl;have yf1:=Lib.frozen_of_heap hY 1
  by_cases hK:K<a.length
  ·obtain⟨ga,oa,rfl,hga,ca⟩:=hra.out (by omega)
   have x0:=(nb.out.cell (p:=⟨ga,oa+K*2,none⟩) hga).trans (ca K hK).1;have x1:=(nb.out.cell (p:=⟨ga,oa+K*2+1,none⟩) hga).trans (ca K hK).2;have i0:(0:Int)≤(K:Int):=by omega
   have i1:(K:Int)<(a.length:Int):=by omega
   have hgK:=(hg _ (wN_mem hK)).1;rw [labG_drop hK]at e2;clear ca;generalize(wN a K).1=s at *;generalize(wN a K).2=z at *;have bB:=(Below.refl wr.heap.size wr).alloc (Nat.le_refl _) (.cells #[.string s,.int .i64 z] 27);have hN:=heap_alloc_new wr (.cells #[.string s,.int .i64 z] 27);have lY:=blt_of hY;have hY2:=(bB.block _ lY).trans hY;have nb2:=Lib.hid (nb.out.trans (bB.mono nb.out.size));clear y0 y1 yf0 yf1 bB;go_upto_region 4 with fail
   generalize wr.alloc (.cells #[.string s,.int .i64 z] 27)=V2 at *;generalize wr.heap.size=B at *;have k0:=(Lib.cell_of_heap hN 0).trans rfl;have k1:=(Lib.cell_of_heap hN 1).trans rfl;clear x0 x1 hN;have y0:=(Lib.cell_of_heap hY2 0).trans rfl;have yf0:=Lib.frozen_of_heap hY2 0;have y1:=(Lib.cell_of_heap hY2 1).trans rfl;have yf1:=Lib.frozen_of_heap hY2 1
   by_cases h32:K=32
   ·rw [if_pos h32]at e2
    have q:((K:Int)==32)=true:=by simp;omega
    clear h32;have fin:=Lib.hid (hR.out _ (set2k' (q:=w.heap.size) (by omega) nb2.out (.int .i64 (8)) (.int .i64 (z))));rw [e2]at fin;clear hR;go_wp2_with fail
    refine bodyPost_ret ?_ rfl fin.out;simp [results,Tryz.results223,go_sem,y0,y1]
   ·rw [if_neg h32]at e2
    have q:((K:Int)==32)=false:=by simp;omega
    clear h32;go_wp2_with fail
    refine right_calls s hgK _ _ (Lib.hid ?_);cases hr:rightS s
    ·rw [if_pos hr]at e2
     clear hr;have fin:=Lib.hid (hR.out _ (set2k' (q:=w.heap.size) (by omega) nb2.out (.int .i64 (9)) (.int .i64 (z))));rw [e2]at fin;clear hR;go_wp2_with fail
     refine bodyPost_ret ?_ rfl fin.out;simp [results,Tryz.results223,go_sem,y0,y1]
    ·rw [if_neg (by rw [hr];simp)]at e2
     clear hr k0 k1 y0 y1 yf0 yf1;go_wp2_with fail
     go_roundg (gk-1)
     case measure=>omega
     case rel=>exact⟨K+1,by go_num,by omega,nb2,hY2,e2⟩
  ·obtain rfl:K=a.length:=by omega
   rw [List.drop_length]at e2;have e3:labelC a=(0,0):=e2;clear e2;have fin:=Lib.hid (hR.out _ (set2k' (q:=w.heap.size) (by omega) nb.out (.int .i64 (0)) (.int .i64 (0))));rw [e3]at fin;clear hR;go_wp2_with fail
   refine bodyPost_ret ?_ rfl fin.out;simp [results,Tryz.results223,go_sem,y0,y1]
theorem coarseFault_calls(p:PH)(x:TH)(kd:Ft)(lv cv nv pv:Value)(w:World)(lcl:p.cl.length≤maxLen)(hgl:∀y∈p.cl,GoodW y)(hl:RdW w lv p.label)(hc:RdW w cv p.cl)(hy:RdY w x kd nv pv)(R:Ending→World→Prop)(hR:Hid (∀w',Below w.heap.size w w'→R (.returned (.agg #[.int .i64 (coarC p).1,.int .i64 (coarC p).2])) w')):Calls Tryz.prog 224 #[ptV p lv cv x nv pv] w R:=by
 have lcl':p.cl.length≤9223372036854775807:=lcl;obtain⟨A1,n1,rfl,-,-⟩:=hl.op;obtain⟨A2,n2,rfl,-,-⟩:=hc.op;obtain⟨A5,n5,rfl,-,-⟩:=hy.n.op;obtain⟨A7,n7,rfl,-⟩:=hy.p.sl;have b1:=(Below.refl w.heap.size w).alloc (Nat.le_refl _) (.cells #[.string p.name,.int .i64 p.at_,.bool p.bare,.slice A1 p.label.length n1,.int .i64 p.wide,.int .i64 p.ck,.int .i64 p.cn,.int .i64 p.cat,.slice A2 p.cl.length n2,.int .i64 x.kind,.int .i64 x.at_,.int .i64 x.lo,.int .i64 x.hi,.int .i64 x.most,.slice A5 x.names.length n5,.slice A7 kd.len n7,.string x.name,.int .i64 x.nat] 130);have b2:=b1.alloc b1.size (.cells #[.int .i64 0,.int .i64 0] 34);have b3:=b2.alloc b2.size (.cells #[.int .i64 p.ck,.int .i64 p.cn,.int .i64 p.cat,.slice A2 p.cl.length n2] 128);have z1:(w.alloc (.cells #[.string p.name,.int .i64 p.at_,.bool p.bare,.slice A1 p.label.length n1,.int .i64 p.wide,.int .i64 p.ck,.int .i64 p.cn,.int .i64 p.cat,.slice A2 p.cl.length n2,.int .i64 x.kind,.int .i64 x.at_,.int .i64 x.lo,.int .i64 x.hi,.int .i64 x.most,.slice A5 x.names.length n5,.slice A7 kd.len n7,.string x.name,.int .i64 x.nat] 130)).heap.size=w.heap.size+1:=by simp
 have z2:((w.alloc (.cells #[.string p.name,.int .i64 p.at_,.bool p.bare,.slice A1 p.label.length n1,.int .i64 p.wide,.int .i64 p.ck,.int .i64 p.cn,.int .i64 p.cat,.slice A2 p.cl.length n2,.int .i64 x.kind,.int .i64 x.at_,.int .i64 x.lo,.int .i64 x.hi,.int .i64 x.most,.slice A5 x.names.length n5,.slice A7 kd.len n7,.string x.name,.int .i64 x.nat] 130)).alloc (.cells #[.int .i64 0,.int .i64 0] 34)).heap.size=w.heap.size+2:=by simp
 have hP:=(((Below.refl _ _).alloc (Nat.le_refl _) (.cells #[.int .i64 0,.int .i64 0] 34)).block w.heap.size (by omega)).trans (heap_alloc_new w (.cells #[.string p.name,.int .i64 p.at_,.bool p.bare,.slice A1 p.label.length n1,.int .i64 p.wide,.int .i64 p.ck,.int .i64 p.cn,.int .i64 p.cat,.slice A2 p.cl.length n2,.int .i64 x.kind,.int .i64 x.at_,.int .i64 x.lo,.int .i64 x.hi,.int .i64 x.most,.slice A5 x.names.length n5,.slice A7 kd.len n7,.string x.name,.int .i64 x.nat] 130));have hP2:=(((Below.refl _ _).alloc (Nat.le_refl _) (.cells #[.int .i64 p.ck,.int .i64 p.cn,.int .i64 p.cat,.slice A2 p.cl.length n2] 128)).block w.heap.size (by omega)).trans hP;have hF:=heap_alloc_new (w.alloc (.cells #[.string p.name,.int .i64 p.at_,.bool p.bare,.slice A1 p.label.length n1,.int .i64 p.wide,.int .i64 p.ck,.int .i64 p.cn,.int .i64 p.cat,.slice A2 p.cl.length n2,.int .i64 x.kind,.int .i64 x.at_,.int .i64 x.lo,.int .i64 x.hi,.int .i64 x.most,.slice A5 x.names.length n5,.slice A7 kd.len n7,.string x.name,.int .i64 x.nat] 130)) (.cells #[.int .i64 0,.int .i64 0] 34);rw [z1]at hF;have hF2:=(((Below.refl _ _).alloc (Nat.le_refl _) (.cells #[.int .i64 p.ck,.int .i64 p.cn,.int .i64 p.cat,.slice A2 p.cl.length n2] 128)).block (w.heap.size+1) (by omega)).trans hF;have hC:=heap_alloc_new ((w.alloc (.cells #[.string p.name,.int .i64 p.at_,.bool p.bare,.slice A1 p.label.length n1,.int .i64 p.wide,.int .i64 p.ck,.int .i64 p.cn,.int .i64 p.cat,.slice A2 p.cl.length n2,.int .i64 x.kind,.int .i64 x.at_,.int .i64 x.lo,.int .i64 x.hi,.int .i64 x.most,.slice A5 x.names.length n5,.slice A7 kd.len n7,.string x.name,.int .i64 x.nat] 130)).alloc (.cells #[.int .i64 0,.int .i64 0] 34)) (.cells #[.int .i64 p.ck,.int .i64 p.cn,.int .i64 p.cat,.slice A2 p.cl.length n2] 128);rw [z2]at hC;replace hc:=Lib.hid hc;clear hl hy hF;go_enter Tryz.func224,Tryz.ntmps224
 go_upto_region 1 with fail
 generalize(w.alloc (.cells #[.string p.name,.int .i64 p.at_,.bool p.bare,.slice A1 p.label.length n1,.int .i64 p.wide,.int .i64 p.ck,.int .i64 p.cn,.int .i64 p.cat,.slice A2 p.cl.length n2,.int .i64 x.kind,.int .i64 x.at_,.int .i64 x.lo,.int .i64 x.hi,.int .i64 x.most,.slice A5 x.names.length n5,.slice A7 kd.len n7,.string x.name,.int .i64 x.nat] 130)).alloc (.cells #[.int .i64 0,.int .i64 0] 34)=V2 at *;have u5:=(Lib.cell_of_heap hP 5).trans rfl;have u6:=(Lib.cell_of_heap hP 6).trans rfl;have u7:=(Lib.cell_of_heap hP 7).trans rfl;have u8:=(Lib.cell_of_heap hP 8).trans rfl;go_upto_region 2 with fail
 generalize V2.alloc (.cells #[.int .i64 p.ck,.int .i64 p.cn,.int .i64 p.cat,.slice A2 p.cl.length n2] 128)=V3 at *;clear u5 u6 u7 u8 hP b1 b2 z1;have nW:=Lib.hid b3;have u1:=(Lib.cell_of_heap hP2 1).trans rfl;have k0:=(Lib.cell_of_heap hC 0).trans rfl;have k1:=(Lib.cell_of_heap hC 1).trans rfl;have k2:=(Lib.cell_of_heap hC 2).trans rfl;have k3:=(Lib.cell_of_heap hC 3).trans rfl;have hY:=hF2;have y0:=(Lib.cell_of_heap hY 0).trans rfl;have yf0:=Lib.frozen_of_heap hY 0;have y1:=(Lib.cell_of_heap hY 1).trans rfl;have yf1:=Lib.frozen_of_heap hY 1;clear hC hP2 hF2 b3 z2
 by_cases c0:p.ck=0
 ·have hq0:coarC p=if p.cn≠0∨p.cl≠[]then(19,p.at_)else(0,0):=if_pos c0
  rw [c0]at k0;clear c0
  by_cases c1:p.cn=0
  ·rw [c1]at k1
   by_cases c2:p.cl=[]
   ·have hq:coarC p=labelC p.cl:=by rw [hq0,if_neg (by rintro(q|q);exact q c1;exact q c2),c2];rfl
    have c3:¬(0:Int)<(p.cl.length:Int):=by rw [c2];simp
    clear c1 c2 hq0;go_wp2_with fail
    refine labelFault_calls p.cl lcl hgl (.slice A2 p.cl.length n2) _ (hc.out.below nW.out) _ (Lib.hid fun wL nL=>?_);have hYL:=(nL.block _ (blt_of hY)).trans hY;have nWL:=Lib.hid (nW.out.trans (nL.mono nW.out.size));clear y0 y1 yf0 yf1;have y0:=(Lib.cell_of_heap hYL 0).trans rfl;have yf0:=Lib.frozen_of_heap hYL 0;have y1:=(Lib.cell_of_heap hYL 1).trans rfl;have yf1:=Lib.frozen_of_heap hYL 1;generalize labelC p.cl=LC at *;have fin:=Lib.hid (hR.out _ (set2k' (q:=w.heap.size+1) (by omega) nWL.out (.int .i64 (LC.1)) (.int .i64 (LC.2))));rw [hq]at fin;clear hR;go_wp2_with fail
    refine bodyPost_ret ?_ rfl fin.out;simp [results,Tryz.results224,go_sem,y0,y1]
   ·have hq:coarC p=(19,p.at_):=by rw [hq0,if_pos (.inr c2)]
    have c3:(0:Int)<(p.cl.length:Int):=by have:=List.length_pos_iff.2 c2;omega
    clear c1 c2 hq0;have fin:=Lib.hid (hR.out _ (set2k' (q:=w.heap.size+1) (by omega) nW.out (.int .i64 (19)) (.int .i64 (p.at_))));rw [hq]at fin;clear hR;go_wp2_with fail
    refine bodyPost_ret ?_ rfl fin.out;simp [results,Tryz.results224,go_sem,y0,y1]
  ·have hq:coarC p=(19,p.at_):=by rw [hq0,if_pos (.inl c1)]
   have q1:(p.cn != 0)=true:=by simpa using c1
   clear c1 hq0;have fin:=Lib.hid (hR.out _ (set2k' (q:=w.heap.size+1) (by omega) nW.out (.int .i64 (19)) (.int .i64 (p.at_))));rw [hq]at fin;clear hR;go_wp2_with fail
   refine bodyPost_ret ?_ rfl fin.out;simp [results,Tryz.results224,go_sem,y0,y1]
 ·have q0:(p.ck==0)=false:=by simpa using c0
  have hq0:coarC p=if p.ck<0∨3<p.ck then(14,p.cat)else if(p.ck=1∧p.cn<1)∨(p.ck=2∧(p.cn<0∨4096<p.cn))∨(p.ck=3∧p.cn≠0)then(20,p.cat)else labelC p.cl:=if_neg c0
  by_cases c1:p.ck<0
  ·have hq:coarC p=(14,p.cat):=by rw [hq0,if_pos (.inl c1)]
   clear hq0;have fin:=Lib.hid (hR.out _ (set2k' (q:=w.heap.size+1) (by omega) nW.out (.int .i64 (14)) (.int .i64 (p.cat))));rw [hq]at fin;clear hR;go_wp2_with fail
   refine bodyPost_ret ?_ rfl fin.out;simp [results,Tryz.results224,go_sem,y0,y1]
  ·by_cases c2:3<p.ck
   ·have hq:coarC p=(14,p.cat):=by rw [hq0,if_pos (.inr c2)]
    clear hq0;have fin:=Lib.hid (hR.out _ (set2k' (q:=w.heap.size+1) (by omega) nW.out (.int .i64 (14)) (.int .i64 (p.cat))));rw [hq]at fin;clear hR;go_wp2_with fail
    refine bodyPost_ret ?_ rfl fin.out;simp [results,Tryz.results224,go_sem,y0,y1]
   ·rw [if_neg (by omega)]at hq0
    have hk:p.ck=1∨p.ck=2∨p.ck=3:=by omega
    clear q0 c0 c1 c2;rcases hk with hk|hk|hk
    ·rw [hk]at k0
     by_cases c:p.cn≤0
     ·have hq:coarC p=(20,p.cat):=by rw [hq0,if_pos (by omega)]
      clear hq0 hk;have fin:=Lib.hid (hR.out _ (set2k' (q:=w.heap.size+1) (by omega) nW.out (.int .i64 (20)) (.int .i64 (p.cat))));rw [hq]at fin;clear hR;go_wp2_with fail
      refine bodyPost_ret ?_ rfl fin.out;simp [results,Tryz.results224,go_sem,y0,y1]
     ·have hq:coarC p=labelC p.cl:=by rw [hq0,if_neg (by omega)]
      clear hq0 hk;go_wp2_with fail
      refine labelFault_calls p.cl lcl hgl (.slice A2 p.cl.length n2) _ (hc.out.below nW.out) _ (Lib.hid fun wL nL=>?_);have hYL:=(nL.block _ (blt_of hY)).trans hY;have nWL:=Lib.hid (nW.out.trans (nL.mono nW.out.size));clear y0 y1 yf0 yf1;have y0:=(Lib.cell_of_heap hYL 0).trans rfl;have yf0:=Lib.frozen_of_heap hYL 0;have y1:=(Lib.cell_of_heap hYL 1).trans rfl;have yf1:=Lib.frozen_of_heap hYL 1;generalize labelC p.cl=LC at *;have fin:=Lib.hid (hR.out _ (set2k' (q:=w.heap.size+1) (by omega) nWL.out (.int .i64 (LC.1)) (.int .i64 (LC.2))));rw [hq]at fin;clear hR;go_wp2_with fail
      refine bodyPost_ret ?_ rfl fin.out;simp [results,Tryz.results224,go_sem,y0,y1]
    ·rw [hk]at k0
     by_cases c:p.cn<0∨4096<p.cn
     ·have hq:coarC p=(20,p.cat):=by rw [hq0,if_pos (by omega)]
      have hd:=decide_eq_true c;clear hq0 hk c;go_wp2_with fail
      refine outside_calls p.cn 4096 _ _ (Lib.hid ?_);rw [hd];have fin:=Lib.hid (hR.out _ (set2k' (q:=w.heap.size+1) (by omega) nW.out (.int .i64 (20)) (.int .i64 (p.cat))));rw [hq]at fin;clear hR;go_wp2_with fail
      refine bodyPost_ret ?_ rfl fin.out;simp [results,Tryz.results224,go_sem,y0,y1]
     ·have hq:coarC p=labelC p.cl:=by rw [hq0,if_neg (by omega)]
      have hd:=decide_eq_false c;clear hq0 hk c;go_wp2_with fail
      refine outside_calls p.cn 4096 _ _ (Lib.hid ?_);rw [hd];go_wp2_with fail
      refine labelFault_calls p.cl lcl hgl (.slice A2 p.cl.length n2) _ (hc.out.below nW.out) _ (Lib.hid fun wL nL=>?_);have hYL:=(nL.block _ (blt_of hY)).trans hY;have nWL:=Lib.hid (nW.out.trans (nL.mono nW.out.size));clear y0 y1 yf0 yf1;have y0:=(Lib.cell_of_heap hYL 0).trans rfl;have yf0:=Lib.frozen_of_heap hYL 0;have y1:=(Lib.cell_of_heap hYL 1).trans rfl;have yf1:=Lib.frozen_of_heap hYL 1;generalize labelC p.cl=LC at *;have fin:=Lib.hid (hR.out _ (set2k' (q:=w.heap.size+1) (by omega) nWL.out (.int .i64 (LC.1)) (.int .i64 (LC.2))));rw [hq]at fin;clear hR;go_wp2_with fail
      refine bodyPost_ret ?_ rfl fin.out;simp [results,Tryz.results224,go_sem,y0,y1]
    ·rw [hk]at k0
     by_cases c:p.cn=0
     ·have hq:coarC p=labelC p.cl:=by rw [hq0,if_neg (by omega)]
      rw [c]at k1;clear hq0 hk c;go_wp2_with fail
      refine labelFault_calls p.cl lcl hgl (.slice A2 p.cl.length n2) _ (hc.out.below nW.out) _ (Lib.hid fun wL nL=>?_);have hYL:=(nL.block _ (blt_of hY)).trans hY;have nWL:=Lib.hid (nW.out.trans (nL.mono nW.out.size));clear y0 y1 yf0 yf1;have y0:=(Lib.cell_of_heap hYL 0).trans rfl;have yf0:=Lib.frozen_of_heap hYL 0;have y1:=(Lib.cell_of_heap hYL 1).trans rfl;have yf1:=Lib.frozen_of_heap hYL 1;generalize labelC p.cl=LC at *;have fin:=Lib.hid (hR.out _ (set2k' (q:=w.heap.size+1) (by omega) nWL.out (.int .i64 (LC.1)) (.int .i64 (LC.2))));rw [hq]at fin;clear hR;go_wp2_with fail
      refine bodyPost_ret ?_ rfl fin.out;simp [results,Tryz.results224,go_sem,y0,y1]
     ·have hq:coarC p=(20,p.cat):=by rw [hq0,if_pos (by omega)]
      have q1:(p.cn != 0)=true:=by simpa using c
      clear hq0 hk c;have fin:=Lib.hid (hR.out _ (set2k' (q:=w.heap.size+1) (by omega) nW.out (.int .i64 (20)) (.int .i64 (p.cat))));rw [hq]at fin;clear hR;go_wp2_with fail
      refine bodyPost_ret ?_ rfl fin.out;simp [results,Tryz.results224,go_sem,y0,y1]
end Go.Proofs.YtncckdaflellnaaGreat.Kin
