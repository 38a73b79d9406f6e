import Derived.Test.YtabhkakomececaaGreatQX
import Derived.Test.YtabhkakomececaaGreatQ52
set_option linter.all false
set_option maxRecDepth 100000
set_option maxHeartbeats 4000000
namespace Go.Proofs.YtabhkakomececaaGreat.Unp
open Go.RowKit Go.Lib Nam Lat Kin Dig
def stWd(x:Wr):Wr:=(x.1,0)
theorem map_take{α:Type}{f:α→α}{l:List α}{K:Nat}(hK:K<l.length):(l.map f).take (K+1)=(l.map f).take K++[f l[K]]:=by
 rw [←List.map_take,←List.map_take,List.take_succ_eq_append_getElem hK,List.map_append];rfl
theorem map_all{α:Type}{f:α→α}{l:List α}:(l.map f).take l.length=l.map f:=by
 rw [←List.map_take,List.take_length]
def nRow(y:Nd)(nv pv:Value):List Value:=[.string y.1.1,.int .i64 y.1.2,.int .i64 y.2.1.kind,.int .i64 y.2.1.at_,.int .i64 y.2.1.lo,.int .i64 y.2.1.hi,.int .i64 y.2.1.most,nv,pv,.string y.2.1.name,.int .i64 y.2.1.nat]
def RdsN(w:World):List Value→List Nd→Prop
| xs,[]=>xs=[]
| xs,y::l=>∃nv pv rest,xs=nRow y nv pv++rest∧RdY w y.2.1 y.2.2 nv pv∧RdsN w rest l
theorem RdsN.kp{w w':World}(k:Kp w w'):∀{l:List Nd}{xs:List Value},RdsN w xs l→RdsN w' xs l
| [],_,h=>h
| y::l,_,h=>by
 obtain⟨nv,pv,rest,e,hy,hr⟩:=h;exact⟨nv,pv,rest,e,hy.kp k,RdsN.kp k hr⟩
theorem RdsN.snoc{w:World}{y:Nd}{nv pv:Value}(hy:RdY w y.2.1 y.2.2 nv pv):∀{l:List Nd}{xs:List Value},RdsN w xs l→RdsN w (xs++nRow y nv pv) (l++[y])
| [],_,h=>by
 have h':_=[]:=h;subst h';exact⟨nv,pv,[],by simp,hy,rfl⟩
| z::l,_,h=>by
 obtain⟨nv',pv',rest,rfl,hz,hr⟩:=h;exact⟨nv',pv',rest++nRow y nv pv,by rw [List.append_assoc],hz,RdsN.snoc hy hr⟩
theorem RdsN.at_{w:World}:∀{l:List Nd}{xs:List Value}{i:Nat},RdsN w xs l→i<l.length→∃nv pv,RdY w (nN l i).2.1 (nN l i).2.2 nv pv∧∀j u,(nRow (nN l i) nv pv)[j]?=some u→xs[i*11+j]?=some u
| y::l,_,0,h,_=>by
 obtain⟨nv,pv,rest,rfl,hy,-⟩:=h;refine⟨nv,pv,hy,fun j u hj=>?_⟩;have hj':(nRow y nv pv)[j]?=some u:=hj;rw [Nat.zero_mul,Nat.zero_add,List.getElem?_append_left (List.getElem?_eq_some_iff.1 hj').1];exact hj'
| y::l,_,i+1,h,hi=>by
 obtain⟨nv,pv,rest,rfl,-,hr⟩:=h;obtain⟨nv',pv',hy,hc⟩:=RdsN.at_ (i:=i) hr (by simpa using hi);refine⟨nv',pv',hy,fun j u hj=>?_⟩;have:=hc j u hj;rw [List.getElem?_append_right (by show 11≤(i+1)*11+j;omega)]
 show rest[(i+1)*11+j-11]?=some u;rw [show(i+1)*11+j-11=i*11+j by omega];exact this
theorem rowsN{w:World}{base n:Nat}{v:Value}{xs:List Value}{l:List Nd}(own:w.ownsRow base 100 11 v n xs)(hn:n=l.length)(rd:RdsN (empW (rowS base v) w) xs l):RdNs (empW (lowS base) w) v l:=by
 subst hn;have k:Kp (empW (rowS base v) w) (empW (lowS base) w):=emp_kp (Nat.le_refl _) fun g _ h=>⟨fun q=>h (.inl q),rfl⟩
 have rd2:=RdsN.kp k rd;have h0:=own;obtain⟨hl,⟨rfl,hn⟩|⟨g,cap,cur,rfl,hb,hg,hn,hm,hc,ht⟩⟩:=own
 ·exact⟨none,0,by rw [hn],by omega,fun h=>absurd h (by omega)⟩
 ·refine⟨_,cap,rfl,hn,fun _=>⟨g,0,rfl,?_,fun i hi=>?_⟩⟩
  ·rw [emp_size]
   exact(h0.lt g rfl).2
  ·obtain⟨nv,pv,hy,hr⟩:=RdsN.at_ rd2 hi
   refine⟨nv,pv,hy,fun j u hj=>?_⟩;have:=h0.cells (g:=g) rfl _ u (hr j u hj);rw [Addr.add_lit]at this;exact emp_cell.2 ⟨by unfold lowS;omega,by rw [Nat.zero_add]at this ⊢;exact this⟩
theorem infoEW:(Tryz.prog.info? 34).map (fun i=>(i.zero,i.size,i.bytes))=some (some (.agg #[.string ⟨#[]⟩,.int .i64 0]),2,24):=by kernel_rfl
theorem infoEP:(Tryz.prog.info? 142).map (fun i=>(i.zero,i.size,i.bytes))=some (some (.agg #[.string ⟨#[]⟩,.int .i64 0,.string ⟨#[]⟩,.int .i64 0]),4,48):=by kernel_rfl
theorem infoEN:(Tryz.prog.info? 100).map (fun i=>(i.zero,i.size,i.bytes))=some (some (.agg #[.string ⟨#[]⟩,.int .i64 0,.int .i64 0,.int .i64 0,.int .i64 0,.int .i64 0,.int .i64 0,.slice none 0 0,.slice none 0 0,.string ⟨#[]⟩,.int .i64 0]),11,136):=by kernel_rfl
theorem isF_stripW:∀(args:Array Value)(w:World),(callFunc 66 args).run Tryz.prog w=.ok (.enter 66 args) w:=by
 intro args w;unfold callFunc;simp [go_sem,Tryz.func66];rfl
theorem eachW_calls(l:List Wr)(hm:l.length≤maxLen)(hl:l.length*24≤140737488355328)(va:Value)(w:World)(ha:RdW w va l)(R:Ending→World→Prop)(hR:Hid (∀v' w',RdW (empW (lowS w.heap.size) w') v' (l.map stWd)→Below w.heap.size w w'→R (.returned v') w')):Calls Tryz.prog 65 #[va,.func (.func 66) #[] #[]] w R:=by
 replace hm:l.length≤9223372036854775807:=hm;have isS:=isF_stripW
 obtain⟨ti,hI,hZ⟩:∃i0,Tryz.prog.info? 34=some i0∧(i0.zero,i0.size,i0.bytes)=(some (.agg #[.string ⟨#[]⟩,.int .i64 0]),2,24):=by
  have:=infoEW;cases h:Tryz.prog.info? 34 with
  | none=>rw [h]at this;cases this
  | some i0=>rw [h]at this;exact⟨i0,rfl,by simpa using this⟩
 simp only[Prod.mk.injEq]at hZ;obtain⟨hz0,hz1,hz2⟩:=hZ;obtain⟨A,ca,rfl,hca,hra⟩:=ha.op;replace hra:=Lib.hid hra;clear ha;go_enter Tryz.func65,Tryz.ntmps65
 go_wp2_with fail
 go_loopg [5,10] l.length (fun g s k wr=>∃(K:Nat) (v:Value),s=v∧k=.int .i64 K∧K+g=l.length∧Hid (Below w.heap.size w wr)∧Hid (wr.ownsRow w.heap.size 34 2 v K (flatG encW ((l.map stWd).take K))))
 case atStart=>exact⟨0,_,rfl,rfl,by omega,Lib.hid (Below.refl _ _),Lib.hid (by simpa [flatG]using World.ownsRow_nil _ _ _ _)⟩
 case round =>
  obtain⟨K,v,rfl,rfl,e1,nb,own⟩:=hrel
  by_cases hK:K<l.length
  ·obtain⟨ga,oa,rfl,hga,ca⟩:=hra.out (by omega)
   have rx:wr.rangeAt ga (oa+K*2) [.string (wN l K).1,.int .i64 (wN l K).2]:=fun j v h=>(nb.out.cell (p:=⟨ga,oa+K*2+j,none⟩) hga).trans (by
    have hc:=ca K hK
    match j,h with
    | 0,h=>simp only[List.getElem?_cons_zero,List.getElem?_cons_succ,Option.some.injEq]at h;rw [←h];exact hc.1
    | 1,h=>simp only[List.getElem?_cons_zero,List.getElem?_cons_succ,Option.some.injEq]at h;rw [←h];exact hc.2
    | j+2,h=>simp at h)
   have i0:(0:Int)≤(K:Int):=by omega
   have i1:(K:Int)<(l.length:Int):=by omega
   have ht:=map_take (f:=stWd) hK;rw [←wN_get hK]at ht;clear ca;generalize wN l K=x at *;have hA:=heap_alloc_new wr (.cells #[.string x.1,.int .i64 x.2] 34);have n1:=alB wr (.cells #[.string x.1,.int .i64 x.2] 34);go_upto_region 5 with(refine wpList_load_g (by rfl) 34 _ rfl ga (oa+K*2) rfl [.string x.1,.int .i64 x.2] _ rx Tryz.underlying34 rfl (by kernel_rfl) ?_;go_simp)
   have lP:wr.heap.size<(wr.alloc (.cells #[.string x.1,.int .i64 x.2] 34)).heap.size:=by rw [alz];omega
   have hsw:=nb.out.size;have rP:(wr.alloc (.cells #[.string x.1,.int .i64 x.2] 34)).rangeAt wr.heap.size 0 [.string x.1,.int .i64 x.2]:=fun j v e=>by rw [Nat.zero_add,Lib.cell_of_heap hA];simpa using e
   generalize wr.alloc (.cells #[.string x.1,.int .i64 x.2] 34)=V at *;generalize hPP:wr.heap.size=P at rP lP ⊢;clear rx hA;have cS:=Lib.hid fun R hR=>stw_calls x V R hR
   go_wp2_with (refine wpList_load_g (by rfl) 34 _ rfl P 0 rfl [.string x.1,.int .i64 x.2] _ rP Tryz.underlying34 rfl (by kernel_rfl) ?_;go_simp)
   refine cS.out _ (Lib.hid fun w1 m1=>?_);have nM:=n1.trans (m1.mono n1.size);have own1:=Lib.hid (own_below own.out nM);have nb1:=Lib.hid (nb.out.trans (nM.mono nb.out.size));have hsz:=nb1.out.size;clear cS rP own m1 n1 nM;go_wp2_with (at_builtin;go_loud (refine appK w1 #[.string x.1,.int .i64 0] 2 34 rfl _ _ 29 rfl w.heap.size ti (.agg #[.string ⟨#[]⟩,.int .i64 0]) 24 Tryz.underlying29 hI hz0 hz1 hz2 rfl (by decide) rfl _ K (flatG encW ((l.map stWd).take K)) rfl own1.out _ rfl rfl (by simp [Value.oneCell']) (by unfold maxLen;omega) (by omega) hsz ?_);rintro v' w3 hown3 hg3 hb3)
   have own2:=Lib.hid (show w3.ownsRow w.heap.size 34 2 v' (K+1) (flatG encW ((l.map stWd).take (K+1)))by rw [ht,flatG_snoc];exact hown3)
   have nb2:=Lib.hid (nb1.out.trans hb3);clear hown3 hg3 hb3 own1 nb1 ht;go_wp2_with fail
   go_roundg (gk-1)
   case measure=>omega
   case rel=>exact⟨K+1,_,rfl,by go_num,by omega,nb2,own2⟩
  ·obtain rfl:K=l.length:=by omega
   have rd:=own_emp own.out;rw [map_all]at rd;have fin:=Lib.hid (hR.out _ _ rd nb.out);clear hR rd own;go_wp2_with fail
   exact fin.out
theorem isF_stripP:∀(args:Array Value)(w:World),(callFunc 68 args).run Tryz.prog w=.ok (.enter 68 args) w:=by
 intro args w;unfold callFunc;simp [go_sem,Tryz.func68];rfl
theorem eachP_calls(l:List Pr)(hm:l.length≤maxLen)(hl:l.length*48≤140737488355328)(va:Value)(w:World)(ha:RdPr w va l)(R:Ending→World→Prop)(hR:Hid (∀v' w',RdPr (empW (lowS w.heap.size) w') v' (l.map stP)→Below w.heap.size w w'→R (.returned v') w')):Calls Tryz.prog 67 #[va,.func (.func 68) #[] #[]] w R:=by
 replace hm:l.length≤9223372036854775807:=hm;have isS:=isF_stripP
 obtain⟨ti,hI,hZ⟩:∃i0,Tryz.prog.info? 142=some i0∧(i0.zero,i0.size,i0.bytes)=(some (.agg #[.string ⟨#[]⟩,.int .i64 0,.string ⟨#[]⟩,.int .i64 0]),4,48):=by
  have:=infoEP;cases h:Tryz.prog.info? 142 with
  | none=>rw [h]at this;cases this
  | some i0=>rw [h]at this;exact⟨i0,rfl,by simpa using this⟩
 simp only[Prod.mk.injEq]at hZ;obtain⟨hz0,hz1,hz2⟩:=hZ;obtain⟨A,ca,rfl,hca,hra⟩:=RdPr.op ha;replace hra:=Lib.hid hra;clear ha;go_enter Tryz.func67,Tryz.ntmps67
 go_wp2_with fail
 go_loopg [5,10] l.length (fun g s k wr=>∃(K:Nat) (v:Value),s=v∧k=.int .i64 K∧K+g=l.length∧Hid (Below w.heap.size w wr)∧Hid (wr.ownsRow w.heap.size 142 4 v K (flatG encP ((l.map stP).take K))))
 case atStart=>exact⟨0,_,rfl,rfl,by omega,Lib.hid (Below.refl _ _),Lib.hid (by simpa [flatG]using World.ownsRow_nil _ _ _ _)⟩
 case round =>
  obtain⟨K,v,rfl,rfl,e1,nb,own⟩:=hrel
  by_cases hK:K<l.length
  ·obtain⟨ga,oa,rfl,hga,ca⟩:=hra.out (by omega)
   have rx:wr.rangeAt ga (oa+K*4) [.string (pN l K).1.1,.int .i64 (pN l K).1.2,.string (pN l K).2.1,.int .i64 (pN l K).2.2]:=fun j v h=>(nb.out.cell (p:=⟨ga,oa+K*4+j,none⟩) hga).trans (by
    have hc:=ca K hK
    match j,h with
    | 0,h=>simp only[List.getElem?_cons_zero,List.getElem?_cons_succ,Option.some.injEq]at h;rw [←h];exact hc.1
    | 1,h=>simp only[List.getElem?_cons_zero,List.getElem?_cons_succ,Option.some.injEq]at h;rw [←h];exact hc.2.1
    | 2,h=>simp only[List.getElem?_cons_zero,List.getElem?_cons_succ,Option.some.injEq]at h;rw [←h];exact hc.2.2.1
    | 3,h=>simp only[List.getElem?_cons_zero,List.getElem?_cons_succ,Option.some.injEq]at h;rw [←h];exact hc.2.2.2
    | j+4,h=>simp at h)
   have i0:(0:Int)≤(K:Int):=by omega
   have i1:(K:Int)<(l.length:Int):=by omega
   have ht:=map_take (f:=stP) hK;rw [←pN_get hK]at ht;clear ca;generalize pN l K=x at *;have hA:=heap_alloc_new wr (.cells #[.string x.1.1,.int .i64 x.1.2,.string x.2.1,.int .i64 x.2.2] 142);have n1:=alB wr (.cells #[.string x.1.1,.int .i64 x.1.2,.string x.2.1,.int .i64 x.2.2] 142);go_upto_region 5 with(refine wpList_load_g (by rfl) 142 _ rfl ga (oa+K*4) rfl [.string x.1.1,.int .i64 x.1.2,.string x.2.1,.int .i64 x.2.2] _ rx Tryz.underlying142 rfl (by kernel_rfl) ?_;go_simp)
   have lP:wr.heap.size<(wr.alloc (.cells #[.string x.1.1,.int .i64 x.1.2,.string x.2.1,.int .i64 x.2.2] 142)).heap.size:=by rw [alz];omega
   have hsw:=nb.out.size;have rP:(wr.alloc (.cells #[.string x.1.1,.int .i64 x.1.2,.string x.2.1,.int .i64 x.2.2] 142)).rangeAt wr.heap.size 0 [.string x.1.1,.int .i64 x.1.2,.string x.2.1,.int .i64 x.2.2]:=fun j v e=>by rw [Nat.zero_add,Lib.cell_of_heap hA];simpa using e
   generalize wr.alloc (.cells #[.string x.1.1,.int .i64 x.1.2,.string x.2.1,.int .i64 x.2.2] 142)=V at *;generalize hPP:wr.heap.size=P at rP lP ⊢;clear rx hA;have cS:=Lib.hid fun R hR=>stP_calls x V R hR
   go_wp2_with (refine wpList_load_g (by rfl) 142 _ rfl P 0 rfl [.string x.1.1,.int .i64 x.1.2,.string x.2.1,.int .i64 x.2.2] _ rP Tryz.underlying142 rfl (by kernel_rfl) ?_;go_simp)
   refine cS.out _ (Lib.hid fun w1 m1=>?_);have nM:=n1.trans (m1.mono n1.size);have own1:=Lib.hid (own_below own.out nM);have nb1:=Lib.hid (nb.out.trans (nM.mono nb.out.size));have hsz:=nb1.out.size;clear cS rP own m1 n1 nM;go_wp2_with (at_builtin;go_loud (refine appK w1 #[.string x.1.1,.int .i64 0,.string x.2.1,.int .i64 0] 4 142 rfl _ _ 30 rfl w.heap.size ti (.agg #[.string ⟨#[]⟩,.int .i64 0,.string ⟨#[]⟩,.int .i64 0]) 48 Tryz.underlying30 hI hz0 hz1 hz2 rfl (by decide) rfl _ K (flatG encP ((l.map stP).take K)) rfl own1.out _ rfl rfl (by simp [Value.oneCell']) (by unfold maxLen;omega) (by omega) hsz ?_);rintro v' w3 hown3 hg3 hb3)
   have own2:=Lib.hid (show w3.ownsRow w.heap.size 142 4 v' (K+1) (flatG encP ((l.map stP).take (K+1)))by rw [ht,flatG_snoc];exact hown3)
   have nb2:=Lib.hid (nb1.out.trans hb3);clear hown3 hg3 hb3 own1 nb1 ht;go_wp2_with fail
   go_roundg (gk-1)
   case measure=>omega
   case rel=>exact⟨K+1,_,rfl,by go_num,by omega,nb2,own2⟩
  ·obtain rfl:K=l.length:=by omega
   have rd:=own_emp own.out;rw [map_all]at rd;have fin:=Lib.hid (hR.out _ _ rd nb.out);clear hR rd own;go_wp2_with fail
   exact fin.out
end Go.Proofs.YtabhkakomececaaGreat.Unp
