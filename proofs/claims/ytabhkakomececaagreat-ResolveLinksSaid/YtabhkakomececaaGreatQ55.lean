import Derived.Test.YtabhkakomececaaGreatQX
import Derived.Test.YtabhkakomececaaGreatQ54
set_option linter.all false
set_option maxRecDepth 100000
set_option maxHeartbeats 4000000
namespace Go.Proofs.YtabhkakomececaaGreat.Unp
open Go.RowKit Go.Lib Nam Lat Kin Dig
theorem isF_stripN:∀(args:Array Value)(w:World),(callFunc 70 args).run Tryz.prog w=.ok (.enter 70 args) w:=by
 intro args w;unfold callFunc;simp [go_sem,Tryz.func70];rfl
theorem eachN_calls(l:List Nd)(hm:l.length≤maxLen)(hl:l.length*136≤140737488355328)(gl:∀x∈l,GoodN x)(ll:∀x∈l,LimT x.2.1 x.2.2)(va:Value)(w:World)(ha:RdNs w va l)(R:Ending→World→Prop)(hR:Hid (∀v' w',RdNs (empW (lowS w.heap.size) w') v' (l.map stN)→Below w.heap.size w w'→R (.returned v') w')):Calls Tryz.prog 69 #[va,.func (.func 70) #[] #[]] w R:=by
 replace hm:l.length≤9223372036854775807:=hm;have isS:=isF_stripN
 obtain⟨ti,hI,hZ⟩:∃i0,Tryz.prog.info? 100=some i0∧(i0.zero,i0.size,i0.bytes)=(some (.agg #[.string ⟨#[]⟩,.int .i64 0,.int .i64 0,.int .i64 0,.int .i64 0,.int .i64 0,.int .i64 0,.slice none 0 0,.slice none 0 0,.string ⟨#[]⟩,.int .i64 0]),11,136):=by
  have:=infoEN;cases h:Tryz.prog.info? 100 with
  | none=>rw [h]at this;cases this
  | some i0=>rw [h]at this;exact⟨i0,rfl,by simpa using this⟩
 simp only[Prod.mk.injEq]at hZ;obtain⟨hz0,hz1,hz2⟩:=hZ;obtain⟨A,ca,rfl,hca,hra⟩:=RdNs.op ha;replace hra:=Lib.hid hra;clear ha;replace gl:=Lib.hid gl;replace ll:=Lib.hid ll;go_enter Tryz.func69,Tryz.ntmps69
 go_wp2_with fail
 go_loopg [5,10] l.length (fun g s k wr=>∃(K:Nat) (v:Value) (xs:List Value),v=s∧k=.int .i64 K∧K+g=l.length∧Hid (Below w.heap.size w wr)∧Hid (wr.ownsRow w.heap.size 100 11 v K xs)∧Hid (RdsN (empW (rowS w.heap.size v) wr) xs ((l.map stN).take K)))
 case atStart=>exact⟨0,_,[],rfl,rfl,by omega,Lib.hid (Below.refl _ _),Lib.hid (World.ownsRow_nil _ _ _ _),Lib.hid rfl⟩
 case round =>
  obtain⟨K,v,xs,rfl,rfl,e1,nb,own,rds⟩:=hrel
  by_cases hK:K<l.length
  ·obtain⟨ga,oa,rfl,hga,ca⟩:=hra.out (by omega)
   obtain⟨nv,pv,hy,hc⟩:=ca K hK;obtain⟨N1,N3,rfl,-,-⟩:=hy.n.op;obtain⟨M1,M3,rfl,-⟩:=hy.p.sl;have gx:=gl.out _ (mem_nN hK);have lx:=ll.out _ (mem_nN hK);have rx:wr.rangeAt ga (oa+K*11) [.string (nN l K).1.1,.int .i64 (nN l K).1.2,.int .i64 (nN l K).2.1.kind,.int .i64 (nN l K).2.1.at_,.int .i64 (nN l K).2.1.lo,.int .i64 (nN l K).2.1.hi,.int .i64 (nN l K).2.1.most,.slice N1 (nN l K).2.1.names.length N3,.slice M1 (nN l K).2.2.len M3,.string (nN l K).2.1.name,.int .i64 (nN l K).2.1.nat]:=fun j v h=>(nb.out.cell (p:=⟨ga,oa+K*11+j,none⟩) hga).trans (hc j v h)
   replace hy:=hy.below nb.out;clear hc;have i0:(0:Int)≤(K:Int):=by omega
   have i1:(K:Int)<(l.length:Int):=by omega
   have ht:=map_take (f:=stN) hK;rw [←nN_get hK]at ht;clear ca;generalize nN l K=x at *;have hA:=heap_alloc_new wr (.cells #[.string x.1.1,.int .i64 x.1.2,.int .i64 x.2.1.kind,.int .i64 x.2.1.at_,.int .i64 x.2.1.lo,.int .i64 x.2.1.hi,.int .i64 x.2.1.most,.slice N1 x.2.1.names.length N3,.slice M1 x.2.2.len M3,.string x.2.1.name,.int .i64 x.2.1.nat] 100);have n1:=alB wr (.cells #[.string x.1.1,.int .i64 x.1.2,.int .i64 x.2.1.kind,.int .i64 x.2.1.at_,.int .i64 x.2.1.lo,.int .i64 x.2.1.hi,.int .i64 x.2.1.most,.slice N1 x.2.1.names.length N3,.slice M1 x.2.2.len M3,.string x.2.1.name,.int .i64 x.2.1.nat] 100);go_upto_region 5 with(first|(refine wpList_load_g (by rfl) 100 _ rfl ga (oa+K*11) rfl [.string x.1.1,.int .i64 x.1.2,.int .i64 x.2.1.kind,.int .i64 x.2.1.at_,.int .i64 x.2.1.lo,.int .i64 x.2.1.hi,.int .i64 x.2.1.most,.slice N1 x.2.1.names.length N3,.slice M1 x.2.2.len M3,.string x.2.1.name,.int .i64 x.2.1.nat] _ rx Tryz.underlying100 rfl (by kernel_rfl) ?_;go_simp)|(refine wpList_copy #[.string x.1.1,.int .i64 x.1.2,.int .i64 x.2.1.kind,.int .i64 x.2.1.at_,.int .i64 x.2.1.lo,.int .i64 x.2.1.hi,.int .i64 x.2.1.most,.slice N1 x.2.1.names.length N3,.slice M1 x.2.2.len M3,.string x.2.1.name,.int .i64 x.2.1.nat] ⟨rfl,rfl,rfl⟩ ⟨rfl,rfl,rfl⟩ named_alloc (by kernel_rfl) ⟨rfl,by simp [Value.oneCell']⟩ (fun _=>⟨rfl,rfl⟩) ?_;go_simp))
   have lP:wr.heap.size<(wr.alloc (.cells #[.string x.1.1,.int .i64 x.1.2,.int .i64 x.2.1.kind,.int .i64 x.2.1.at_,.int .i64 x.2.1.lo,.int .i64 x.2.1.hi,.int .i64 x.2.1.most,.slice N1 x.2.1.names.length N3,.slice M1 x.2.2.len M3,.string x.2.1.name,.int .i64 x.2.1.nat] 100)).heap.size:=by rw [alz];omega
   have hsw:=nb.out.size;have rP:(wr.alloc (.cells #[.string x.1.1,.int .i64 x.1.2,.int .i64 x.2.1.kind,.int .i64 x.2.1.at_,.int .i64 x.2.1.lo,.int .i64 x.2.1.hi,.int .i64 x.2.1.most,.slice N1 x.2.1.names.length N3,.slice M1 x.2.2.len M3,.string x.2.1.name,.int .i64 x.2.1.nat] 100)).rangeAt wr.heap.size 0 [.string x.1.1,.int .i64 x.1.2,.int .i64 x.2.1.kind,.int .i64 x.2.1.at_,.int .i64 x.2.1.lo,.int .i64 x.2.1.hi,.int .i64 x.2.1.most,.slice N1 x.2.1.names.length N3,.slice M1 x.2.2.len M3,.string x.2.1.name,.int .i64 x.2.1.nat]:=fun j v e=>by rw [Nat.zero_add,Lib.cell_of_heap hA];simpa using e
   generalize wr.alloc (.cells #[.string x.1.1,.int .i64 x.1.2,.int .i64 x.2.1.kind,.int .i64 x.2.1.at_,.int .i64 x.2.1.lo,.int .i64 x.2.1.hi,.int .i64 x.2.1.most,.slice N1 x.2.1.names.length N3,.slice M1 x.2.2.len M3,.string x.2.1.name,.int .i64 x.2.1.nat] 100)=V at *;generalize hPP:wr.heap.size=P at rP lP ⊢;clear rx hA;have cS:=Lib.hid fun R hR=>stN_calls x gx lx (.slice N1 x.2.1.names.length N3) (.slice M1 x.2.2.len M3) V (hy.below n1) R hR
   go_wp2_with (refine wpList_load_g (by rfl) 100 _ rfl P 0 rfl [.string x.1.1,.int .i64 x.1.2,.int .i64 x.2.1.kind,.int .i64 x.2.1.at_,.int .i64 x.2.1.lo,.int .i64 x.2.1.hi,.int .i64 x.2.1.most,.slice N1 x.2.1.names.length N3,.slice M1 x.2.2.len M3,.string x.2.1.name,.int .i64 x.2.1.nat] _ rP Tryz.underlying100 rfl (by kernel_rfl) ?_;go_simp)
   refine cS.out _ (Lib.hid fun nv2 pv2 w1 r1 m1=>?_);obtain⟨B1,B3,rfl,-,-⟩:=r1.n.op;obtain⟨C1,C3,rfl,-⟩:=r1.p.sl;have nM:=n1.trans (m1.mono n1.size);have own1:=Lib.hid (own_below own.out nM);have nb1:=Lib.hid (nb.out.trans (nM.mono nb.out.size));have hsz:=nb1.out.size;have hlt:=own.out.lt;clear cS rP own;go_wp2_with (at_builtin;go_loud (refine appKF w1 #[.string x.1.1,.int .i64 0,.int .i64 (stripH x.2.1).kind,.int .i64 (stripH x.2.1).at_,.int .i64 (stripH x.2.1).lo,.int .i64 (stripH x.2.1).hi,.int .i64 (stripH x.2.1).most,.slice B1 (stripH x.2.1).names.length B3,.slice C1 (stripF x.2.2).len C3,.string (stripH x.2.1).name,.int .i64 (stripH x.2.1).nat] 11 100 rfl _ _ 31 rfl w.heap.size ti (.agg #[.string ⟨#[]⟩,.int .i64 0,.int .i64 0,.int .i64 0,.int .i64 0,.int .i64 0,.int .i64 0,.slice none 0 0,.slice none 0 0,.string ⟨#[]⟩,.int .i64 0]) 136 Tryz.underlying31 hI hz0 hz1 hz2 rfl (by decide) rfl _ K xs rfl own1.out _ rfl rfl (by simp [Value.oneCell']) (by unfold maxLen;omega) (by omega) hsz ?_);rintro v' w3 hown3 hg3 hb3 hfr)
   have nb2:=Lib.hid (nb1.out.trans hb3);have hwV:wr.heap.size<V.heap.size:=by rw [hPP];exact lP
   have hVw:=m1.size
   have new:∀g,g<w1.heap.size→w.heap.size≤g→v.ownBlock≠some g→¬rowS w.heap.size v' g∧w3.heap[g]?=w1.heap[g]?:=fun g h1 h2 h3=>⟨by
    rintro(q|q)
    ·omega
    ·rcases hfr with h|h
     ·exact h3 (h▸q)
     ·rw [h]at q
      simp only[Option.some.injEq]at q;omega,hg3.block g h1 (fun q=>h3 q.symm)⟩
   have k0:Kp (empW (rowS w.heap.size v) wr) (empW (rowS w.heap.size v') w3):=emp_kp (Nat.le_trans nM.size hg3.size) fun g h1 h2=>by
    have h3:w.heap.size≤g:=Nat.le_of_not_lt fun q=>h2 (.inl q)
    have h4:=new g (Nat.lt_of_lt_of_le h1 nM.size) h3 (fun q=>h2 (.inr q));exact⟨h4.1,h4.2.trans (nM.block g h1)⟩
   have k1:Kp (empW (lowS V.heap.size) w1) (empW (rowS w.heap.size v') w3):=emp_kp hg3.size fun g h1 h2=>by
    have h3:V.heap.size≤g:=Nat.le_of_not_lt h2;exact new g h1 (by omega) fun q=>by have:=(hlt g q).2;omega
   have rds2:=Lib.hid (RdsN.snoc (y:=stN x) (RdY.kp k1 r1) (RdsN.kp k0 rds.out));rw [←ht]at rds2;have own2:=Lib.hid hown3;clear k0 k1 new hfr hb3 hg3 hown3 rds r1 m1 nM n1 own1 nb1 hlt hwV hVw hy;go_wp2_with fail
   go_roundg (gk-1)
   case measure=>omega
   case rel=>exact⟨K+1,_,_,rfl,by go_num,by omega,nb2,own2,rds2⟩
  ·obtain rfl:K=l.length:=by omega
   have rd0:=rds.out;rw [map_all]at rd0;have rd:=rowsN own.out (by rw [List.length_map]) rd0;have fin:=Lib.hid (hR.out _ _ rd nb.out);clear hR rd own rds rd0;go_wp2_with fail
   exact fin.out
end Go.Proofs.YtabhkakomececaaGreat.Unp
