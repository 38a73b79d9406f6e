import Derived.Test.YtabhkakomececaaGreatQ38
set_option linter.all false
set_option maxRecDepth 100000
set_option maxHeartbeats 4000000
namespace Go.Proofs.YtabhkakomececaaGreat.Res
open Go.RowKit Go.Lib Utf Nam Lat Kin Unp Rel Lab
theorem wrd_alloc18(ρ:Operand→Value)(W:World)(o:Oper)(h:o.op=.alloc 34):(execOp ρ o).run Tryz.prog W=.ok (.value (ptA W.heap.size)) (W.alloc (.cells #[.string ⟨#[]⟩,.int .i64 0] 34)):=by
 simp [execOp,h,go_sem,ptA]
def nmG(s:Sc):Nat→Nat→Int×Int
| 0,_=>(0,0)
| k+1,i=>if(labelS [(nN s.2.2.1 i).1]).1≠0 then labelS [(nN s.2.2.1 i).1]else if findS (tnm s) (nN s.2.2.1 i).1.1<(i:Int)then(10,(nN s.2.2.1 i).1.2)else nmG s k (i+1)
def nmR(s:Sc):Int×Int:=if 64<s.2.2.1.length then(8,(nN s.2.2.1 64).1.2)else nmG s s.2.2.1.length 0
theorem refnamed18_calls(s:Sc)(gs:GoodS s)(lv ov tv nv pv:Value)(w:World)(rd:RdSc w s lv ov tv nv pv)(b3:s.2.2.1.length≤1000000)(R:Ending→World→Prop)
  (hR:Hid (∀W,Below w.heap.size w W→R (.returned (.agg #[.int .i64 (nmR s).1,.int .i64 (nmR s).2])) W)):Calls Tryz.prog 96 #[scV s lv ov tv nv pv] w R:=by
 have rd0:=rd;obtain⟨A1,c1,rfl,-,-⟩:=rd.l.op;obtain⟨A2,c2,rfl,-,-⟩:=Unp.RdPr.op rd.o;obtain⟨A3,c3,rfl,-,hel⟩:=nds_el rd.t;obtain⟨N1,N3,rfl,-,-⟩:=rd.r.n.op;obtain⟨M1,M3,rfl,-⟩:=rd.r.p.sl;have n:=F0.z w;obtain⟨V1,e1,n,z1⟩:=n.new (.cells [.slice A1 s.1.length c1,.slice A2 s.2.1.length c2,.slice A3 s.2.2.1.length c3,.int .i64 s.2.2.2.1.kind,.int .i64 s.2.2.2.1.at_,.int .i64 s.2.2.2.1.lo,.int .i64 s.2.2.2.1.hi,.int .i64 s.2.2.2.1.most,.slice N1 s.2.2.2.1.names.length N3,.slice M1 s.2.2.2.2.len M3,.string s.2.2.2.1.name,.int .i64 s.2.2.2.1.nat].toArray 38);obtain⟨V,e2,n,z2⟩:=n.new (.cells #[.int .i64 0,.int .i64 0] 26);replace hel:=Lib.hid hel;replace rd0:=Lib.hid rd0;have hgt:=Lib.hid gs.t;clear z1 z2 rd;have x2:=n.c 1 2 rfl rfl
 by_cases h64:64<s.2.2.1.length
 ·have eN:nmR s=(8,(nN s.2.2.1 64).1.2):=if_pos h64
  rw [eN]at hR;obtain⟨g,o,N1',N3',M1',M3',rfl,-,hrg⟩:=hel.out 64 h64;have y1:=hrg V (F0.bel n) 1 _ rfl;have i1:(64:Int)<(s.2.2.1.length:Int):=by omega
  clear hrg eN h64;generalize(nN s.2.2.1 64).1.2=z at *;have hG:=n.b 0 rfl;obtain⟨V9,e9,n9⟩:=n.row (j:=0) rfl #[.int .i64 8,.int .i64 z];have w0_:=n9.c 0 0 rfl rfl;have w1_:=n9.c 0 1 rfl rfl;have fin:=Lib.hid (hR.out V9 (F0.bel n9));clear n9 hR;go_enter Tryz.func96,Tryz.ntmps96
  go_upto_region 1 with fail
  clear e1 e2;go_wp2_with (refine wpList_store_row (by rfl) 26 _ _ (by rfl) V1.heap.size #[.int .i64 8,.int .i64 z] (by rfl) (by rfl) 26 _ hG (by kernel_rfl) rfl (by simp [Value.oneCell']) ?_;refine cast_w18 e9 ?_;go_simp)
  first|refine bodyPost_ret ?_ rfl fin.out|refine bodyPost_end ?_ rfl fin.out
  simp [results,Tryz.results96,go_sem,w0_,w1_]
 ·have eN:nmR s=nmG s s.2.2.1.length 0:=if_neg h64
  rw [eN]at hR;have i1:¬(64:Int)<(s.2.2.1.length:Int):=by omega
  clear eN;go_enter Tryz.func96,Tryz.ntmps96
  go_upto_region 1 with fail
  clear e1 e2;go_upto_region 3 with fail
  clear x2;go_wp2_with fail
  go_loopg [3] s.2.2.1.length (fun k i wr=>∃(K:Nat),i=.int .i64 K∧K+k=s.2.2.1.length∧Hid (nmG s s.2.2.1.length 0=nmG s k K)∧Hid (Hq F0 () () w wr [(V1.heap.size,.cells #[.int .i64 0,.int .i64 0] 26),(w.heap.size,.cells [.slice A1 s.1.length c1,.slice A2 s.2.1.length c2,.slice A3 s.2.2.1.length c3,.int .i64 s.2.2.2.1.kind,.int .i64 s.2.2.2.1.at_,.int .i64 s.2.2.2.1.lo,.int .i64 s.2.2.2.1.hi,.int .i64 s.2.2.2.1.most,.slice N1 s.2.2.2.1.names.length N3,.slice M1 s.2.2.2.2.len M3,.string s.2.2.2.1.name,.int .i64 s.2.2.2.1.nat].toArray 38)]))
  case atStart=>exact⟨0,rfl,by omega,Lib.hid rfl,Lib.hid n⟩
  case round =>
   clear n;obtain⟨K,rfl,e1,e2,n⟩:=hrel;replace n:=n.out;have x2:=n.c 1 2 rfl rfl
   by_cases hK:K<s.2.2.1.length
   ·obtain⟨g,o,N1',N3',M1',M3',rfl,-,hrg⟩:=hel.out K hK
    have rg0:=hrg wr (F0.bel n);have hgw:=(hgt.out _ (nd_mem hK)).1;obtain⟨k',rfl⟩:∃k',gk=k'+1:=⟨gk-1,by omega⟩;replace e2:nmG s s.2.2.1.length 0=if(labelS [(nN s.2.2.1 K).1]).1≠0 then labelS [(nN s.2.2.1 K).1]else if findS (tnm s) (nN s.2.2.1 K).1.1<(K:Int)then(10,(nN s.2.2.1 K).1.2)else nmG s k' (K+1):=e2.out
    have rg:wr.rangeAt g (o+K*11) [.string (nN s.2.2.1 K).1.1,.int .i64 (nN s.2.2.1 K).1.2]:=fun j u hj=>rg0 j u (by
     match j,hj with
     | 0,hj=>exact hj
     | 1,hj=>exact hj
     | j+2,hj=>simp at hj)
    clear hrg rg0;generalize(nN s.2.2.1 K).1=y at *;obtain⟨y0,y1⟩:=y;simp only at rg e2;have i0:(0:Int)≤(K:Int):=by omega
    have i2:(K:Int)<(s.2.2.1.length:Int):=by omega
    obtain⟨W3,e3,n,z3⟩:=n.new (.cells #[.string y0,.int .i64 y1] 34);replace e2:=Lib.hid e2;go_upto_region 7 with(first|(refine wpList_load_g (by rfl) 34 _ rfl g (o+K*11) rfl _ _ rg Tryz.underlying34 rfl (by kernel_rfl) ?_;go_simp)|(refine wpList_copy #[.string y0,.int .i64 y1] ⟨rfl,rfl,rfl⟩ ⟨rfl,rfl,rfl⟩ wrd_alloc18 (by kernel_rfl) ⟨rfl,by simp [Value.oneCell']⟩ (fun _=>⟨rfl,rfl⟩) ?_;go_simp))
    clear e3 rg x2;have rW:=n.rg 0 rfl;obtain⟨W4,e4,n,z4⟩:=n.new (.cells #[.string y0,.int .i64 y1] 34);have rdw:RdW W4 (.slice (some ⟨W3.heap.size,0,none⟩) 1 1) [(y0,y1)]:=⟨_,1,1,rfl,rfl,Nat.le_refl _,fun _=>⟨_,0,rfl,n.lt 0 rfl,fun j u e=>n.rg 0 rfl j u e⟩⟩;have cL:=Lib.hid fun R hR=>label15_calls [(y0,y1)] (fun x hx=>by obtain rfl:=List.mem_singleton.1 hx;exact hgw) _ W4 rdw R hR
    generalize labelS [(y0,y1)]=a at *;obtain⟨a0,a1⟩:=a;clear rdw z3 z4;go_wp2_with (refine wpList_load_g (by rfl) 34 _ rfl wr.heap.size 0 rfl _ _ rW Tryz.underlying34 rfl (by kernel_rfl) ?_;go_simp)
    clear e4;refine cL.out _ (Lib.hid fun W5 m5=>?_);clear cL rW;replace n:=n.bl m5;obtain⟨W6,e6,n,z6⟩:=n.new (.cells #[.int .i64 a0,.int .i64 a1] 26);generalize hT:W5.heap.size=T at n;replace hT:=Lib.hid hT;clear m5 z6;go_upto_region 8 with fail
    clear e6;have f0:=n.c 0 0 rfl rfl;rw [←hT.out]at f0
    by_cases ca:a0=0
    ·have ta:(a0 != 0)=false:=by simpa using ca
     replace e2:=e2.out;rw [if_neg (by simpa using ca)]at e2;have rS:=n.rg 4 rfl;have t0:=n.c 2 0 rfl rfl;have t1:=n.c 2 1 rfl rfl;have bw6:=F0.bel n;have cF:=Lib.hid fun R hR=>reffind18_calls s gs y0 _ _ _ _ _ W6 (rd0.out.below bw6) b3 R hR
     generalize findS (tnm s) y0=f at *;clear ca
     by_cases cf:f<(K:Int)
     ·have tf:decide (f<(K:Int))=true:=by simpa using cf
      rw [if_pos cf]at e2;rw [e2]at hR;clear e2 cf;go_wp2_with (refine wpList_load_g (by rfl) 38 _ rfl w.heap.size 0 rfl _ _ rS Tryz.underlying38 rfl (by kernel_rfl) ?_;go_simp)
      refine cF.out _ (Lib.hid fun W7 m7=>?_);clear cF rS t0 f0 bw6;replace n:=n.bl m7;have t1:=n.c 2 1 rfl rfl;have hG:=n.b 3 rfl;obtain⟨V9,e9,n9⟩:=n.row (j:=3) rfl #[.int .i64 10,.int .i64 y1];have w0_:=n9.c 3 0 rfl rfl;have w1_:=n9.c 3 1 rfl rfl;have fin:=Lib.hid (hR.out V9 (F0.bel n9));clear n9 hR;go_wp2_with (refine wpList_store_row (by rfl) 26 _ _ (by rfl) V1.heap.size #[.int .i64 10,.int .i64 y1] (by rfl) (by rfl) 26 _ hG (by kernel_rfl) rfl (by simp [Value.oneCell']) ?_;refine cast_w18 e9 ?_;go_simp)
      first|refine bodyPost_ret ?_ rfl fin.out|refine bodyPost_end ?_ rfl fin.out
      simp [results,Tryz.results96,go_sem,w0_,w1_]
     ·have tf:decide (f<(K:Int))=false:=by simpa using cf
      rw [if_neg cf]at e2;replace e2:=Lib.hid e2;clear cf;go_wp2_with (refine wpList_load_g (by rfl) 38 _ rfl w.heap.size 0 rfl _ _ rS Tryz.underlying38 rfl (by kernel_rfl) ?_;go_simp)
      refine cF.out _ (Lib.hid fun W7 m7=>?_);have n8:=Lib.hid (n.bl m7).tail.tail.tail;clear cF rS t0 t1 f0 bw6 n;go_wp2_with fail
      go_roundg k'
      case measure=>omega
      case rel=>exact⟨K+1,by go_num,by omega,e2,n8⟩
    ·have ta:(a0 != 0)=true:=by simpa using ca
     replace e2:=e2.out;rw [if_pos ca]at e2;rw [e2]at hR;have rF:=n.rg 0 rfl;rw [←hT.out]at rF;clear ca e2;have hG:=n.b 3 rfl;obtain⟨V9,e9,n9⟩:=n.row (j:=3) rfl #[.int .i64 a0,.int .i64 a1];have w0_:=n9.c 3 0 rfl rfl;have w1_:=n9.c 3 1 rfl rfl;have fin:=Lib.hid (hR.out V9 (F0.bel n9));clear n9 hR;go_wp2_with (first|(refine wpList_load_g (by rfl) 26 _ rfl W5.heap.size 0 rfl _ _ rF Tryz.underlying26 rfl (by kernel_rfl) ?_;go_simp)|(refine wpList_store_row (by rfl) 26 _ _ (by rfl) V1.heap.size #[.int .i64 a0,.int .i64 a1] (by rfl) (by rfl) 26 _ hG (by kernel_rfl) rfl (by simp [Value.oneCell']) ?_;refine cast_w18 e9 ?_;go_simp))
     first|refine bodyPost_ret ?_ rfl fin.out|refine bodyPost_end ?_ rfl fin.out
     simp [results,Tryz.results96,go_sem,w0_,w1_]
   ·obtain rfl:K=s.2.2.1.length:=by omega
    obtain rfl:gk=0:=by omega
    replace e2:nmG s s.2.2.1.length 0=(0,0):=e2.out;rw [e2]at hR;have hG:=n.b 0 rfl;obtain⟨V9,e9,n9⟩:=n.row (j:=0) rfl #[.int .i64 0,.int .i64 0];have w0_:=n9.c 0 0 rfl rfl;have w1_:=n9.c 0 1 rfl rfl;have fin:=Lib.hid (hR.out V9 (F0.bel n9));clear n9 hR;go_wp2_with (refine wpList_store_row (by rfl) 26 _ _ (by rfl) V1.heap.size #[.int .i64 0,.int .i64 0] (by rfl) (by rfl) 26 _ hG (by kernel_rfl) rfl (by simp [Value.oneCell']) ?_;refine cast_w18 e9 ?_;go_simp)
    first|refine bodyPost_ret ?_ rfl fin.out|refine bodyPost_end ?_ rfl fin.out
    simp [results,Tryz.results96,go_sem,w0_,w1_]
def cntP(p:Nat→Bool):Nat→Nat
| 0=>0
| n+1=>cntP p n+(if p n=true then 1 else 0)
theorem cntP_le{p q:Nat→Bool}:∀n,(∀i,i<n→p i=true→q i=true)→cntP p n≤cntP q n
| 0,_=>Nat.le_refl _
| n+1,h=>by
 have h1:=cntP_le n fun i hi=>h i (by omega)
 have h2:=h n (by omega);unfold cntP
 by_cases a:p n=true
 ·rw [if_pos a,if_pos (h2 a)];omega
 ·rw [if_neg a];omega
theorem cntP_lt{p q:Nat→Bool}:∀n,(∀i,i<n→p i=true→q i=true)→(∃i,i<n∧p i≠q i)→cntP p n<cntP q n
| 0,_,⟨i,hi,_⟩=>absurd hi (by omega)
| n+1,h,⟨i,hi,hne⟩=>by
 have h2:=h n (by omega);unfold cntP
 by_cases c:p n=q n
 ·have hi':i<n:=by
   rcases Nat.eq_or_lt_of_le (Nat.le_of_lt_succ hi)with e|e
   ·subst e;exact absurd c hne
   ·exact e
  have:=cntP_lt n (fun i hi=>h i (by omega)) ⟨i,hi',hne⟩;rw [c];omega
 ·have h1:=cntP_le n fun i hi=>h i (by omega)
  have a:¬p n=true:=fun a=>c (by rw [a,h2 a])
  have b:q n=true:=by
   cases hq:q n with
   | true=>rfl
   | false=>exact absurd (by rw [hq];simpa using a) c
  rw [if_neg a,if_pos b];omega
theorem cntP_all{p:Nat→Bool}:∀n,n≤cntP p n→∀i,i<n→p i=true
| 0,_,i,hi=>absurd hi (by omega)
| n+1,h,i,hi=>by
 have hle:∀n,cntP p n≤n:=fun n=>by
  induction n with
  | zero=>exact Nat.le_refl _
  | succ n ih=>unfold cntP;split<;>omega
 unfold cntP at h;have:=hle n
 by_cases a:p n=true
 ·rw [if_pos a]at h
  rcases Nat.eq_or_lt_of_le (Nat.le_of_lt_succ hi)with e|e
  ·subst e;exact a
  ·exact cntP_all n (by omega) i e
 ·rw [if_neg a]at h;omega
theorem cntP_zero{p:Nat→Bool}:∀n,cntP p n=0→∀i,i<n→p i=false
| 0,_,i,hi=>absurd hi (by omega)
| n+1,h,i,hi=>by
 unfold cntP at h
 by_cases a:p n=true
 ·rw [if_pos a]at h;omega
 ·rw [if_neg a]at h
  rcases Nat.eq_or_lt_of_le (Nat.le_of_lt_succ hi)with e|e
  ·subst e;simpa using a
  ·exact cntP_zero n (by omega) i e
theorem grow_or{n:Nat}{p:Nat→Nat→Bool}(mono:∀k i,i<n→p k i=true→p (k+1) i=true)(z:(∀i,i<n→p 0 i=false)→∀i,i<n→p 1 i=false):∀k,(∃j,j≤k∧∀i,i<n→p j i=p (j+1) i)∨k+1≤cntP (p k) n
| 0=>by
 by_cases c:cntP (p 0) n=0
 ·have h0:=cntP_zero n c
  exact .inl ⟨0,Nat.le_refl _,fun i hi=>by rw [h0 i hi,z h0 i hi]⟩
 ·exact .inr (by omega)
| k+1=>by
 rcases grow_or mono z k with⟨j,hj,h⟩|h
 ·exact .inl ⟨j,by omega,h⟩
 ·by_cases c:∀i,i<n→p k i=p (k+1) i
  ·exact .inl ⟨k,by omega,c⟩
  ·have:∃i,i<n∧p k i≠p (k+1) i:=Classical.byContradiction fun q=>c fun i hi=>Classical.byContradiction fun r=>q ⟨i,hi,r⟩
   have:=cntP_lt n (mono k) this;exact .inr (by omega)
theorem grow_stay{n:Nat}{p:Nat→Nat→Bool}(step:∀k,(∀i,i<n→p k i=p (k+1) i)→∀i,i<n→p (k+1) i=p (k+2) i){j:Nat}(h:∀i,i<n→p j i=p (j+1) i):∀m,∀i,i<n→p (j+m) i=p j i∧p (j+m+1) i=p (j+m) i
| 0=>fun i hi=>⟨rfl,(h i hi).symm⟩
| m+1=>fun i hi=>by
 have h1:=grow_stay step h m;refine⟨(h1 i hi).2.trans (h1 i hi).1,?_⟩;exact(step (j+m) (fun i hi=>(h1 i hi).2.symm) i hi).symm
theorem grow_mono{n:Nat}{p:Nat→Nat→Bool}(mono:∀k i,i<n→p k i=true→p (k+1) i=true){i:Nat}(hi:i<n){k:Nat}(h:p k i=true):∀m,p (k+m) i=true
| 0=>h
| m+1=>mono _ _ hi (grow_mono mono hi h m)
theorem grow_end{n:Nat}{p:Nat→Nat→Bool}(mono:∀k i,i<n→p k i=true→p (k+1) i=true)(step:∀k,(∀i,i<n→p k i=p (k+1) i)→∀i,i<n→p (k+1) i=p (k+2) i)(z:(∀i,i<n→p 0 i=false)→∀i,i<n→p 1 i=false)(m:Nat){i:Nat}(hi:i<n)(h:p m i=true):p (n-1) i=true:=by
 rcases grow_or mono z (n-1)with⟨j,hj,hs⟩|hc
 ·have hj':p j i=true:=by
   by_cases q:m≤j
   ·have:=grow_mono mono hi h (j-m)
    rwa [show m+(j-m)=j by omega]at this
   ·have:=(grow_stay step hs (m-j) i hi).1
    rw [show j+(m-j)=m by omega,h]at this;exact this.symm
  have:=grow_mono mono hi hj' (n-1-j);rwa [show j+(n-1-j)=n-1 by omega]at this
 ·exact cntP_all n (by omega) i hi
theorem endS_mono(s:Sc)(hf:AllFound s):∀(m i:Nat),i<s.2.2.1.length→0≤endS s m i→endS s (m+1) i=endS s m i
| 0,i,hi,h=>by
 unfold endS at *
 by_cases c:(nN s.2.2.1 i).2.1.kind≠9
 ·rw [if_pos c,if_pos c]
 ·rw [if_neg c]at h;omega
| m+1,i,hi,h=>by
 have e:∀m,endS s (m+1) i=if(nN s.2.2.1 i).2.1.kind≠9 then(i:Int)else endS s m (findS (tnm s) (nN s.2.2.1 i).2.1.name).toNat:=fun _=>rfl
 rw [e m]at h;rw [e (m+1),e m]
 by_cases c:(nN s.2.2.1 i).2.1.kind≠9
 ·rw [if_pos c,if_pos c]
 ·rw [if_neg c]at h
  rw [if_neg c,if_neg c];have hfi:=hf i hi (by simpa using c);have flt:=find_lt (tnm s) (nN s.2.2.1 i).2.1.name;rw [tnm_len]at flt;exact endS_mono s hf m _ (by omega) h
theorem endS_monos(s:Sc)(hf:AllFound s){m i:Nat}(hi:i<s.2.2.1.length)(h:0≤endS s m i):∀k,endS s (m+k) i=endS s m i
| 0=>rfl
| k+1=>by
 have:=endS_monos s hf hi h k;rw [←this];exact endS_mono s hf (m+k) i hi (by rw [this];exact h)
theorem endS_enough(s:Sc)(hf:AllFound s){m i:Nat}(hi:i<s.2.2.1.length)(h:0≤endS s m i):endS s (s.2.2.1.length-1) i=endS s m i:=by
 have key:decide (0≤endS s (s.2.2.1.length-1) i)=true:=by
  refine grow_end (n:=s.2.2.1.length) (p:=fun k i=>decide (0≤endS s k i)) (fun k i hi h=>?_) (fun k hk i hi=>?_) (fun h0 i hi=>?_) m hi (by simpa using h)
  ·have h':0≤endS s k i:=by simpa using h
   simpa [endS_mono s hf k i hi h']using h'
  ·have e:∀m,endS s (m+1) i=if(nN s.2.2.1 i).2.1.kind≠9 then(i:Int)else endS s m (findS (tnm s) (nN s.2.2.1 i).2.1.name).toNat:=fun _=>rfl
   show decide (0≤endS s (k+1) i)=decide (0≤endS s (k+1+1) i);rw [e k,e (k+1)]
   by_cases c:(nN s.2.2.1 i).2.1.kind≠9
   ·rw [if_pos c,if_pos c]
   ·rw [if_neg c,if_neg c]
    have hfi:=hf i hi (by simpa using c);have flt:=find_lt (tnm s) (nN s.2.2.1 i).2.1.name;rw [tnm_len]at flt;exact hk _ (by omega)
  ·have e:∀j,endS s 0 j=if(nN s.2.2.1 j).2.1.kind≠9 then(j:Int)else -1:=fun _=>rfl
   have all9:∀j,j<s.2.2.1.length→(nN s.2.2.1 j).2.1.kind=9:=fun j hj=>by
    have:=h0 j hj
    by_cases c:(nN s.2.2.1 j).2.1.kind≠9
    ·have h2:decide (0≤endS s 0 j)=false:=this
     rw [e,if_pos c]at h2;simp at h2
    ·simpa using c
   have k9:=all9 i hi;have e1:endS s 1 i=if(nN s.2.2.1 i).2.1.kind≠9 then(i:Int)else endS s 0 (findS (tnm s) (nN s.2.2.1 i).2.1.name).toNat:=rfl;show decide (0≤endS s 1 i)=false;have hfi:=hf i hi k9;have flt:=find_lt (tnm s) (nN s.2.2.1 i).2.1.name;rw [tnm_len]at flt;rw [e1,if_neg (by simpa using k9)];exact h0 _ (by omega)
 have h1:0≤endS s (s.2.2.1.length-1) i:=by simpa using key
 by_cases q:m≤s.2.2.1.length-1
 ·have:=endS_monos s hf hi h (s.2.2.1.length-1-m)
  rwa [show m+(s.2.2.1.length-1-m)=s.2.2.1.length-1 by omega]at this
 ·have:=endS_monos s hf hi h1 (m-(s.2.2.1.length-1))
  rw [show s.2.2.1.length-1+(m-(s.2.2.1.length-1))=m by omega]at this;exact this.symm
theorem tgt_end(s:Sc)(hf:AllFound s):∀(n:Nat)(x:ByteArray),0≤findS (tnm s) x→tgtS s.2.2.1 (n+1) x=if 0≤endS s n (findS (tnm s) x).toNat then(endS s n (findS (tnm s) x).toNat,true)else(0,false)
| 0,x,hx=>by
 obtain⟨J,hJ⟩:∃J:Nat,findS (tnm s) x=(J:Int):=⟨(findS (tnm s) x).toNat,by omega⟩;show(if(nN s.2.2.1 (finS (tnm s) x).1.toNat).2.1.kind≠9 then((finS (tnm s) x).1,true)else(0,false))=_;rw [fin_yes (by omega),hJ];show(if(nN s.2.2.1 ((J:Int).toNat)).2.1.kind≠9 then((J:Int),true)else(0,false))=if 0≤(if(nN s.2.2.1 ((J:Int).toNat)).2.1.kind≠9 then(((J:Int).toNat:Nat):Int)else -1)then((if(nN s.2.2.1 ((J:Int).toNat)).2.1.kind≠9 then(((J:Int).toNat:Nat):Int)else -1),true)else(0,false);rw [Int.toNat_natCast]
 by_cases c:(nN s.2.2.1 J).2.1.kind≠9
 ·rw [if_pos c,if_pos c,if_pos (by omega)]
 ·rw [if_neg c,if_neg c,if_neg (by decide)]
| n+1,x,hx=>by
 obtain⟨J,hJ⟩:∃J:Nat,findS (tnm s) x=(J:Int):=⟨(findS (tnm s) x).toNat,by omega⟩;have flt:=find_lt (tnm s) x;rw [tnm_len,hJ]at flt;show(if(nN s.2.2.1 (finS (tnm s) x).1.toNat).2.1.kind≠9 then((finS (tnm s) x).1,true)else tgtS s.2.2.1 (n+1) (nN s.2.2.1 (finS (tnm s) x).1.toNat).2.1.name)=_;have e:endS s (n+1) J=if(nN s.2.2.1 J).2.1.kind≠9 then(J:Int)else endS s n (findS (tnm s) (nN s.2.2.1 J).2.1.name).toNat:=rfl;rw [fin_yes (by omega),hJ];simp only[Int.toNat_natCast];rw [e]
 by_cases c:(nN s.2.2.1 J).2.1.kind≠9
 ·simp only[if_pos c]
  rw [if_pos (by omega)]
 ·simp only[if_neg c]
  exact tgt_end s hf n _ (hf J (by omega) (by simpa using c))
theorem nmG_ok(s:Sc):∀(k i:Nat),(nmG s k i).1=0→∀j,i≤j→j<i+k→rightS (nN s.2.2.1 j).1.1=true∧¬findS (tnm s) (nN s.2.2.1 j).1.1<(j:Int)
| 0,i,_,j,h1,h2=>absurd h2 (by omega)
| k+1,i,h,j,h1,h2=>by
 have h':(if(labelS [(nN s.2.2.1 i).1]).1≠0 then labelS [(nN s.2.2.1 i).1]else if findS (tnm s) (nN s.2.2.1 i).1.1<(i:Int)then(10,(nN s.2.2.1 i).1.2)else nmG s k (i+1)).1=0:=h
 by_cases c:(labelS [(nN s.2.2.1 i).1]).1≠0
 ·rw [if_pos c]at h';exact absurd h' c
 ·rw [if_neg c]at h'
  by_cases d:findS (tnm s) (nN s.2.2.1 i).1.1<(i:Int)
  ·rw [if_pos d]at h';exact absurd h' (by show ¬(10:Int)=0;decide)
  ·rw [if_neg d]at h'
   rcases Nat.eq_or_lt_of_le h1 with e|e
   ·subst e
    refine⟨?_,d⟩;have c':(labelS [(nN s.2.2.1 i).1]).1=0:=Classical.not_not.1 c;cases hr:rightS (nN s.2.2.1 i).1.1 with
    | true=>rfl
    | false =>
     have:labelS [(nN s.2.2.1 i).1]=(9,(nN s.2.2.1 i).1.2):=by
      show(if 32<1 then _ else if rightS (nN s.2.2.1 i).1.1=true then(0,0)else(9,(nN s.2.2.1 i).1.2))=_;rw [if_neg (by decide),hr,if_neg (by decide)]
     rw [this]at c';exact absurd c' (by show ¬(9:Int)=0;decide)
   ·exact nmG_ok s k (i+1) h' j e (by omega)
theorem nmR_len{s:Sc}(h:(nmR s).1=0):s.2.2.1.length≤64:=by
 unfold nmR at h
 by_cases c:64<s.2.2.1.length
 ·rw [if_pos c]at h;exact absurd h (by show ¬(8:Int)=0;decide)
 ·omega
theorem nmR_each{s:Sc}(h:(nmR s).1=0):∀j,j<s.2.2.1.length→rightS (nN s.2.2.1 j).1.1=true∧¬findS (tnm s) (nN s.2.2.1 j).1.1<(j:Int):=fun j hj=>by
 have hl:=nmR_len h;unfold nmR at h;rw [if_neg (by omega)]at h;exact nmG_ok s _ 0 h j (Nat.zero_le _) (by omega)
theorem nmR_nmC{s:Sc}(h:(nmR s).1=0):(nmC s.2.2.1).1=0:=by
 have hl:=nmR_len h;have he:=nmR_each h
 have hn:firF (lvAt (tw s.2.2.1)) (tw s.2.2.1).length 0=none:=fir_no _ _ fun j _ hj=>by
  rw [tw_len,Nat.zero_add]at hj;obtain⟨h1,h2⟩:=he j hj;unfold lvAt;rw [tw_get hj,h1,if_neg (by decide),if_neg h2]
 unfold nmC;rw [if_neg (by omega)];unfold chkS;rw [hn];rfl
theorem nmR_find{s:Sc}(h:(nmR s).1=0){j:Nat}(hj:j<s.2.2.1.length):findS (tnm s) (nN s.2.2.1 j).1.1=(j:Int):=by
 have h2:=(nmR_each h j hj).2;rcases find_cases (tnm s) (nN s.2.2.1 j).1.1 with⟨h3,-⟩|⟨k,h3,h4,h5,h6⟩
 ·omega
 ·have:¬j<k:=fun q=>h5 j q (tnm_get hj)
  omega
def kR:Int→List (TH×Ft)→Prop
| _,[]=>True
| t,x::l=>(wrB x.1 x.2 (wrF x.2) 1 0).1=0∧¬512<wrap64 (t+cW x.2 1)∧kR (wrap64 (t+cW x.2 1)) l
theorem kR_ok:∀(l:List (TH×Ft)) (t:Int),kR t l→∀x∈l,okT x.1 x.2∧Kin.cntF x.2≤512
| [],_,_,x,hx=>by cases hx
| y::l,t,h,x,hx=>by
 rcases List.mem_cons.1 hx with rfl|hx
 ·have:=wc_ok ((wc_iff x.1 x.2 1 0).2 h.1)
  exact⟨this.1,by omega⟩
 ·exact kR_ok l _ h.2.2 x hx
theorem kR_each:∀(l:List Nd)(b:BS)(h:TH)(f:Ft),kR b.total (l.map (·.2)++[(h,f)])→(eachS kindsS b l h f).1.1=0
| [],b,h,f,k=>by
 obtain⟨k1,k2,-⟩:=k;show(kindsS b h f).1.1=0;unfold kindsS;have:(wcS h f).1=0:=(wc_iff h f 1 0).2 k1;rw [if_neg (by rw [this];decide),if_neg k2]
| x::l,b,h,f,k=>by
 obtain⟨k1,k2,k3⟩:=k
 have e:kindsS b x.2.1 x.2.2=((0,0),{ b with total:=wrap64 (b.total+cW x.2.2 1) }):=by
  unfold kindsS;have:(wcS x.2.1 x.2.2).1=0:=(wc_iff x.2.1 x.2.2 1 0).2 k1;rw [if_neg (by rw [this];decide),if_neg k2]
 show(if(kindsS b x.2.1 x.2.2).1.1≠0 then kindsS b x.2.1 x.2.2 else eachS kindsS (kindsS b x.2.1 x.2.2).2 l h f).1.1=0;rw [e];show(if(0:Int)≠0 then _ else eachS kindsS { b with total:=wrap64 (b.total+cW x.2.2 1) } l h f).1.1=0;rw [if_neg (by decide)];exact kR_each l _ h f k3
theorem unF_cons(s:Sc)(p:PH)(h:TH)(k r:Ft):unF s (.cons p h k r)=if(wdS (nms s.1) p.label).1≠0 then wdS (nms s.1) p.label else if(wdS (nms s.1) p.cl).1≠0 then wdS (nms s.1) p.cl else if p.bare=true then unF s r else if(unT s h (unF s k)).1≠0 then unT s h (unF s k)else unF s r:=rfl
theorem unF_ok{s:Sc}{p:PH}{h:TH}{k r:Ft}(u:(unF s (.cons p h k r)).1=0):(wdS (nms s.1) p.label).1=0∧(wdS (nms s.1) p.cl).1=0∧(p.bare=false→(unT s h (unF s k)).1=0)∧(unF s r).1=0:=by
 rw [unF_cons]at u
 by_cases a:(wdS (nms s.1) p.label).1≠0
 ·rw [if_pos a]at u;exact absurd u a
 rw [if_neg a]at u
 by_cases b:(wdS (nms s.1) p.cl).1≠0
 ·rw [if_pos b]at u;exact absurd u b
 rw [if_neg b]at u;refine⟨Classical.not_not.1 a,Classical.not_not.1 b,?_⟩
 by_cases c:p.bare=true
 ·rw [if_pos c]at u
  exact⟨fun q=>(by rw [c]at q;cases q),u⟩
 ·rw [if_neg c]at u
  by_cases d:(unT s h (unF s k)).1≠0
  ·rw [if_pos d]at u;exact absurd u d
  ·rw [if_neg d]at u
   exact⟨fun _=>Classical.not_not.1 d,u⟩
theorem unT_ok{s:Sc}{h:TH}{g:Int×Int}(u:(unT s h g).1=0):(h.kind=9→0≤findS (tnm s) h.name)∧g.1=0:=by
 unfold unT at u
 by_cases c:h.kind=9∧findS (tnm s) h.name<0
 ·rw [if_pos c]at u;exact absurd u (by show ¬(15:Int)=0;decide)
 ·rw [if_neg c]at u
  exact⟨fun k=>Classical.byContradiction fun q=>c ⟨k,by omega⟩,u⟩
theorem un_wordsF{s:Sc}{F:Nat→Nat→Bool}:∀f:Ft,(unF s f).1=0→(wordsF (nms s.1) F f).1=0
| .nil,_=>rfl
| .cons p h k r,u=>by
 obtain⟨u1,u2,-,u4⟩:=unF_ok u;show(if(lof (nms s.1) F p.label).2.1≠0 then(lof (nms s.1) F p.label).2 else if(lof (nms s.1) F p.cl).2.1≠0 then(lof (nms s.1) F p.cl).2 else wordsF (nms s.1) F r).1=0;rw [lof_wd,lof_wd,if_neg (by rw [u1];decide),if_neg (by rw [u2];decide)]
 exact un_wordsF r u4
theorem un_words{s:Sc}{F:Nat→Nat→Bool}{b:BS}{h:TH}{f:Ft}(u:(unT s h (unF s f)).1=0):(wordsS (nms s.1) F (nms (tw s.2.2.1)) b h f).1.1=0:=by
 obtain⟨u1,u2⟩:=unT_ok u;show(if h.kind=9∧(finS (nms (tw s.2.2.1)) h.name).2=false then((15:Int),h.nat)else wordsF (nms s.1) F f).1=0
 have c:¬(h.kind=9∧(finS (nms (tw s.2.2.1)) h.name).2=false):=fun q=>by
  have this:0≤findS (nms (tw s.2.2.1)) h.name:=u1 q.1;rw [fin_yes (by omega)]at q;cases q.2
 rw [if_neg c];exact un_wordsF f u2
theorem un_inF{s:Sc}{F:Nat→Nat→Bool}:∀(f:Ft)(b:BS),(unF s f).1=0→(inF (wordsS (nms s.1) F (nms (tw s.2.2.1))) b f).1.1=0
| .nil,b,_=>rfl
| .cons p h k r,b,u=>by
 obtain⟨u1,u2,u3,u4⟩:=unF_ok u;show(if p.bare=true then inF (wordsS (nms s.1) F (nms (tw s.2.2.1))) b r else if(wordsS (nms s.1) F (nms (tw s.2.2.1)) b h k).1.1≠0 then wordsS (nms s.1) F (nms (tw s.2.2.1)) b h k else if(inF (wordsS (nms s.1) F (nms (tw s.2.2.1))) (wordsS (nms s.1) F (nms (tw s.2.2.1)) b h k).2 k).1.1≠0 then inF (wordsS (nms s.1) F (nms (tw s.2.2.1))) (wordsS (nms s.1) F (nms (tw s.2.2.1)) b h k).2 k else inF (wordsS (nms s.1) F (nms (tw s.2.2.1))) (inF (wordsS (nms s.1) F (nms (tw s.2.2.1))) (wordsS (nms s.1) F (nms (tw s.2.2.1)) b h k).2 k).2 r).1.1=0
 by_cases c:p.bare=true
 ·rw [if_pos c];exact un_inF r b u4
 ·have u5:=u3 (by simpa using c)
  rw [if_neg c,if_neg (by rw [un_words u5];decide),if_neg (by rw [un_inF k _ (unT_ok u5).2];decide)]
  exact un_inF r _ u4
theorem un_inT{s:Sc}{F:Nat→Nat→Bool}{b:BS}{h:TH}{f:Ft}(u:(unT s h (unF s f)).1=0):(inT (wordsS (nms s.1) F (nms (tw s.2.2.1))) b h f).1.1=0:=by
 unfold inT;rw [if_neg (by rw [un_words u];decide)]
 exact un_inF f _ (unT_ok u).2
theorem un_each{s:Sc}{F:Nat→Nat→Bool}:∀(l:List Nd)(b:BS)(h:TH)(f:Ft),(∀x∈l.map (·.2)++[(h,f)],(unT s x.1 (unF s x.2)).1=0)→(eachS (inT (wordsS (nms s.1) F (nms (tw s.2.2.1)))) b l h f).1.1=0
| [],b,h,f,u=>un_inT (u (h,f) (by simp))
| x::l,b,h,f,u=>by
 show(if(inT (wordsS (nms s.1) F (nms (tw s.2.2.1))) b x.2.1 x.2.2).1.1≠0 then inT (wordsS (nms s.1) F (nms (tw s.2.2.1))) b x.2.1 x.2.2 else eachS (inT (wordsS (nms s.1) F (nms (tw s.2.2.1)))) (inT (wordsS (nms s.1) F (nms (tw s.2.2.1))) b x.2.1 x.2.2).2 l h f).1.1=0;rw [if_neg (by rw [un_inT (u x.2 (by simp))];decide)]
 exact un_each l _ h f fun y hy=>u y (by rw [List.map_cons,List.cons_append];exact List.mem_cons_of_mem _ hy)
structure OkR(s:Sc):Prop where
lat:(wrongS s.1 s.2.1).1=0
nam:(nmR s).1=0
knd:kR 0 (allL s)
unk:∀x∈allL s,(unT s x.1 (unF s x.2)).1=0
lps:∀i,i<s.2.2.1.length→0≤endS s 99 i
theorem found_of{s:Sc}(unk:∀x∈allL s,(unT s x.1 (unF s x.2)).1=0):AllFound s:=fun i hi k9=>by
 have hm:(nN s.2.2.1 i).2∈allL s:=by
  unfold allL;exact List.mem_append_left _ (List.mem_map.2 ⟨_,nd_mem hi,rfl⟩)
 exact(unT_ok (unk _ hm)).1 k9
theorem loops_of{s:Sc}(nam:(nmR s).1=0)(hf:AllFound s)(lps:∀i,i<s.2.2.1.length→0≤endS s 99 i):∀(k i:Nat),i+k=s.2.2.1.length→(loopsS s.2.2.1 (s.2.2.1.drop i)).1=0
| 0,i,h=>by
 rw [List.drop_of_length_le (by omega)];rfl
| k+1,i,h=>by
 have hi:i<s.2.2.1.length:=by omega
 rw [nd_drop hi];have hfd:=nmR_find nam hi;have e:=endS_enough s hf hi (lps i hi);have t:=tgt_end s hf (s.2.2.1.length-1) (nN s.2.2.1 i).1.1 (by omega);rw [show s.2.2.1.length-1+1=s.2.2.1.length by omega,hfd,Int.toNat_natCast,e,if_pos (lps i hi)]at t;show(if(tgtS s.2.2.1 s.2.2.1.length (nN s.2.2.1 i).1.1).2=false then((11:Int),(nN s.2.2.1 i).1.2)else loopsS s.2.2.1 (s.2.2.1.drop (i+1))).1=0;rw [t,if_neg (by simp)];exact loops_of nam hf lps k (i+1) (by omega)
theorem OkR.bld{s:Sc}(o:OkR s):(bldS s).1=0:=by
 have hf:=found_of o.unk;unfold bldS;rw [if_neg (by rw [o.lat];decide),if_neg (by rw [nmR_nmC o.nam];decide)]
 unfold chkB;have h1:=kR_each s.2.2.1 bs0 s.2.2.2.1 s.2.2.2.2 o.knd;rw [if_neg (by rw [h1];decide)]
 rw [if_neg (by rw [un_each (F:=leqF s.1 s.2.1) s.2.2.1 _ s.2.2.2.1 s.2.2.2.2 o.unk];decide)]
 exact loops_of o.nam hf o.lps s.2.2.1.length 0 (by omega)
theorem sta_tg{s:Sc}(o:OkR s){x:ByteArray}(hx:0≤findS (tnm s) x):staS s x=tgI s.2.2.1 (cumL 0 s.2.2.1) x:=by
 have hf:=found_of o.unk;have ok:=OkS.of o.bld;have hs:=sumT_le _ ok.cnt;have htl:=ok.tl;have flt:=find_lt (tnm s) x;rw [tnm_len]at flt;have hJ:(findS (tnm s) x).toNat<s.2.2.1.length:=by omega
 have l99:=o.lps _ hJ;have e:=endS_enough s hf hJ l99;have t:=tgt_end s hf (s.2.2.1.length-1) x hx;rw [show s.2.2.1.length-1+1=s.2.2.1.length by omega,e,if_pos l99]at t;have lt:=endS_lt s hf 99 _ hJ;have t1:(tgtS s.2.2.1 s.2.2.1.length x).1=endS s 99 (findS (tnm s) x).toNat:=by rw [t]
 unfold tgI staS;rw [t1];have get:=cumL_get s.2.2.1 0 ok.ok (Int.le_refl _) (by omega);rw [List.getD_eq_getElem?_getD,get _ (by omega)];show _=(0:Int)+_;omega
section
variable (nm:List ByteArray) (F:Nat→Nat→Bool) (tg:ByteArray→Int)
def toR(p:PH)(h:TH)(nx:Int):Int:=if p.bare=true then -1 else if h.kind=9 then tg h.name else nx
def nxR(p:PH)(h:TH)(k:Ft)(nx:Int):Int:=if p.bare=true then nx else if h.kind=9 then nx else nx+ndT h k
def edR:Ft→Int→List EdR
| .nil,_=>[]
| .cons p h k r,nx=>edP nm F p (toR tg p h nx)::edR r (nxR p h k nx)
def nodR(x:TH×Ft)(n:Nat):NdR:={ ndP x.1 with edges:=edR nm F tg x.2 (n+1) }
def ndsR:List (TH×Ft)→Nat→List NdR
| [],_=>[]
| x::l,n=>nodR nm F tg x n::ndsR l (n+1)
end
section
variable {nm:List ByteArray} {F:Nat→Nat→Bool} {tg:ByteArray→Int}
theorem ndsR_len:∀(l:List (TH×Ft)) (n:Nat),(ndsR nm F tg l n).length=l.length
| [],_=>rfl
| x::l,n=>by
 show(ndsR nm F tg l (n+1)).length+1=l.length+1;rw [ndsR_len l]
theorem ndsR_app:∀(l m:List (TH×Ft))(n:Nat),ndsR nm F tg (l++m) n=ndsR nm F tg l n++ndsR nm F tg m (n+l.length)
| [],m,n=>by simp [ndsR]
| x::l,m,n=>by
 show nodR nm F tg x n::ndsR nm F tg (l++m) (n+1)=nodR nm F tg x n::(ndsR nm F tg l (n+1)++ndsR nm F tg m (n+(l.length+1)));rw [ndsR_app l m (n+1),show n+1+l.length=n+(l.length+1)by omega]
theorem edR_len:∀(f:Ft)(nx:Int),(edR nm F tg f nx).length=f.len
| .nil,_=>rfl
| .cons p h k r,nx=>by
 show(edR nm F tg r _).length+1=r.len+1;rw [edR_len r]
theorem addW_R{h:TH}{k:Ft}(hk:∀l,addF nm F tg k l=(edR nm F tg k l.length,l++ndsR nm F tg (flatF k) l.length))(l:List NdR):addT nm F tg h k l=(if h.kind=9 then tg h.name else(l.length:Int),l++ndsR nm F tg (flatT h k) l.length):=by
 unfold addT addW flatT
 by_cases c:h.kind=9
 ·rw [if_pos c,if_pos c,if_pos c]
  simp [ndsR]
 ·rw [if_neg c,if_neg c,if_neg c,hk]
  have e1:((l++[ndP h]).length:Int)=(l.length:Int)+1:=by simp
  have e2:(l++[ndP h]).length=l.length+1:=by simp
  simp only[e1,e2];show(_,(l++[ndP h]++ndsR nm F tg (flatF k) (l.length+1)).set l.length _)=(_,l++(nodR nm F tg (h,k) l.length::ndsR nm F tg (flatF k) (l.length+1)));rw [List.append_assoc,List.set_append_right _ _ (Nat.le_refl _),Nat.sub_self];rfl
theorem addF_R:∀(f:Ft)(l:List NdR),addF nm F tg f l=(edR nm F tg f l.length,l++ndsR nm F tg (flatF f) l.length)
| .nil,l=>by
 show(([]:List EdR),l)=([],l++[]);rw [List.append_nil]
| .cons p h k r,l=>by
 show(edP nm F p (if p.bare=true then((-1:Int),l)else addT nm F tg h k l).1::(addF nm F tg r (if p.bare=true then((-1:Int),l)else addT nm F tg h k l).2).1,(addF nm F tg r (if p.bare=true then((-1:Int),l)else addT nm F tg h k l).2).2)=(edP nm F p (toR tg p h l.length)::edR nm F tg r (nxR p h k l.length),l++ndsR nm F tg (flatF (.cons p h k r)) l.length);rw [flatF_cons];unfold toR nxR
 by_cases b:p.bare=true
 ·simp only[if_pos b]
  rw [addF_R r l,List.nil_append]
 ·simp only[if_neg b]
  rw [addW_R (addF_R k) l];simp only;rw [addF_R r]
  have e:((l++ndsR nm F tg (flatT h k) l.length).length:Int)=if h.kind=9 then(l.length:Int)else(l.length:Int)+ndT h k:=by
   rw [List.length_append,ndsR_len,flatT_len];unfold ndT
   by_cases c:h.kind=9
   ·rw [if_pos c,if_pos c];simp
   ·rw [if_neg c,if_neg c];omega
  have e2:(l++ndsR nm F tg (flatT h k) l.length).length=l.length+(flatT h k).length:=by rw [List.length_append,ndsR_len]
  rw [e,e2,ndsR_app,List.append_assoc]
theorem addT_R(h:TH)(k:Ft)(l:List NdR):addT nm F tg h k l=(if h.kind=9 then tg h.name else(l.length:Int),l++ndsR nm F tg (flatT h k) l.length):=addW_R (addF_R k) l
def flatA(l:List (TH×Ft)):List (TH×Ft):=l.flatMap fun x=>flatT x.1 x.2
theorem flatA_snoc(l:List (TH×Ft))(x:TH×Ft):flatA (l++[x])=flatA l++flatT x.1 x.2:=by simp [flatA]
theorem addA_R:∀(tys:List Nd)(l:List NdR),(addA nm F tg tys l).2=l++ndsR nm F tg (flatA (tys.map (·.2))) l.length
| [],l=>by
 show l=l++[];rw [List.append_nil]
| x::r,l=>by
 show(addA nm F tg r (addT nm F tg x.2.1 x.2.2 l).2).2=l++ndsR nm F tg (flatT x.2.1 x.2.2++flatA (r.map (·.2))) l.length;rw [addA_R r,addT_R];simp only;rw [ndsR_app,List.append_assoc,List.length_append,ndsR_len]
theorem flatA_len(tys:List Nd):(flatA (tys.map (·.2))).length=sumT tys:=by
 induction tys with
 | nil=>rfl
 | cons x r ih =>
  show(flatT x.2.1 x.2.2++flatA (r.map (·.2))).length=_;rw [List.length_append,flatT_len,ih,sumT_cons]
end
theorem plan_R(s:Sc):(plS s).1=ndsR (nms s.1) (leqF s.1 s.2.1) (tgI s.2.2.1 (cumL 0 s.2.2.1)) (flatA (allL s)) 0∧(plS s).2.1=(if s.2.2.2.1.kind=9 then tgI s.2.2.1 (cumL 0 s.2.2.1) s.2.2.2.1.name else(sumT s.2.2.1:Int)):=by
 have e:addT (nms s.1) (leqF s.1 s.2.1) (tgI s.2.2.1 (cumL 0 s.2.2.1)) s.2.2.2.1 s.2.2.2.2 (addA (nms s.1) (leqF s.1 s.2.1) (tgI s.2.2.1 (cumL 0 s.2.2.1)) s.2.2.1 []).2=_:=addT_R _ _ _
 have hl:(addA (nms s.1) (leqF s.1 s.2.1) (tgI s.2.2.1 (cumL 0 s.2.2.1)) s.2.2.1 []).2.length=sumT s.2.2.1:=by
  rw [addA_num];simp
 have hA:=addA_R (nm:=nms s.1) (F:=leqF s.1 s.2.1) (tg:=tgI s.2.2.1 (cumL 0 s.2.2.1)) s.2.2.1 [];rw [List.nil_append,List.length_nil]at hA;refine⟨?_,?_⟩
 ·show(addT (nms s.1) (leqF s.1 s.2.1) (tgI s.2.2.1 (cumL 0 s.2.2.1)) s.2.2.2.1 s.2.2.2.2 (addA (nms s.1) (leqF s.1 s.2.1) (tgI s.2.2.1 (cumL 0 s.2.2.1)) s.2.2.1 []).2).2=_
  rw [e];show(addA _ _ _ _ _).2++ndsR _ _ _ _ (addA _ _ _ _ _).2.length=_;rw [hl,hA];unfold allL;rw [flatA_snoc,ndsR_app,Nat.zero_add,flatA_len]
 ·show(addT (nms s.1) (leqF s.1 s.2.1) (tgI s.2.2.1 (cumL 0 s.2.2.1)) s.2.2.2.1 s.2.2.2.2 (addA (nms s.1) (leqF s.1 s.2.1) (tgI s.2.2.1 (cumL 0 s.2.2.1)) s.2.2.1 []).2).1=_
  rw [e,hl]
def Fnd(s:Sc):Ft→Prop
| .nil=>True
| .cons p h k r=>(p.bare=false→h.kind=9→0≤findS (tnm s) h.name)∧Fnd s r
theorem fnd_of{s:Sc}:∀f:Ft,(unF s f).1=0→Fnd s f
| .nil,_=>trivial
| .cons p h k r,u=>by
 obtain⟨-,-,u3,u4⟩:=unF_ok u;exact⟨fun b k9=>(unT_ok (u3 b)).1 k9,fnd_of r u4⟩
theorem fnd_drop{s:Sc}:∀(K:Nat){f:Ft}{p:PH}{x:TH}{k r:Ft},Fnd s f→f.drop K=.cons p x k r→p.bare=false→x.kind=9→0≤findS (tnm s) x.name
| 0,f,p,x,k,r,a,e=>by
 have e':f=.cons p x k r:=e;subst e';exact a.1
| n+1,.nil,p,x,k,r,a,e=>by simp [Fo.drop]at e
| n+1,.cons q y l s',p,x,k,r,a,e=>fnd_drop n (f:=s') a.2 e
def NodT(s:Sc)(x:TH×Ft):Prop:=okT x.1 x.2∧Fnd s x.2∧ndF x.2≤512
theorem flatF_nod{s:Sc}:∀(f:Ft)(K:Int),okF K f→(unF s f).1=0→ndF f≤512→∀x∈flatF f,NodT s x
| .nil,K,_,_,_,x,hx=>by cases hx
| .cons p h k r,K,ok,u,hc,x,hx=>by
 obtain⟨-,-,u3,u4⟩:=unF_ok u;have hn:ndF (.cons p h k r)=(if p.bare then 0 else if h.kind=9 then 0 else ndF k+1)+ndF r:=rfl;rw [hn]at hc;rw [flatF_cons]at hx;rcases List.mem_append.1 hx with hx|hx
 ·by_cases b:p.bare=true
  ·rw [if_pos b]at hx;cases hx
  ·rw [if_neg b]at hx hc
   have b':p.bare=false:=by simpa using b
   have okk:=ok.2.1 b';have uk:=(unT_ok (u3 b')).2;unfold flatT at hx
   by_cases c:h.kind=9
   ·rw [if_pos c]at hx;cases hx
   ·rw [if_neg c]at hx hc
    rcases List.mem_cons.1 hx with rfl|hx
    ·exact⟨okk,fnd_of k uk,(by show ndF k≤512;omega)⟩
    ·exact flatF_nod k h.kind okk.2 uk (by omega) x hx
 ·exact flatF_nod r K ok.2.2 u4 (by omega) x hx
theorem flatT_nod{s:Sc}{h:TH}{f:Ft}(ok:okT h f)(u:(unT s h (unF s f)).1=0)(hc:Kin.cntF f≤512):∀x∈flatT h f,NodT s x:=fun x hx=>by
 have hn:=ndF_le f;have uf:=(unT_ok u).2;unfold flatT at hx
 by_cases c:h.kind=9
 ·rw [if_pos c]at hx;cases hx
 ·rw [if_neg c]at hx
  rcases List.mem_cons.1 hx with rfl|hx
  ·exact⟨ok,fnd_of f uf,(by show ndF f≤512;omega)⟩
  ·exact flatF_nod f h.kind ok.2 uf (by omega) x hx
end Go.Proofs.YtabhkakomececaaGreat.Res
