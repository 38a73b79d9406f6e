import Derived.Test.YtncckdaflellnaaGreatQ26
set_option linter.all false
set_option maxRecDepth 100000
set_option maxHeartbeats 4000000
namespace Go.Proofs.YtncckdaflellnaaGreat
open Go.RowKit Go.Lib
theorem Hq.row{S:Type}{F:Fm S}{s0 s:S}{w V:World}{l:List (Nat×Obj)}{j a:Nat}{c:Array Value}{t:TypeId}(h:Hq F s0 s w V l)(hj:l[j]?=some (a,.cells c t))(C:Array Value):∃V',V.setRow a C=V'∧Hq F s0 s w V' (l.set j (a,.cells C t)):=by
 have hm:=List.mem_of_getElem? hj;have lo:=h.lo _ hm;have ha:(V.setRow a C).heap[a]?=some (.cells C t):=setRow_heap V a c C t (0,0) (h.at_ _ hm);have hn:∀k,k≠a→(V.setRow a C).heap[k]?=V.heap[k]?:=fun k hk=>setRow_other _ _ _ _ (by omega)
 have hz:(V.setRow a C).heap.size=V.heap.size:=by simp
 refine⟨_,rfl,⟨F.keep h.inv (Nat.le_of_eq hz.symm) fun k hk=>hn k (by rintro rfl;exact lo.2 hk),?_,h.sub,hq_turn hj h.dj h.at_ ha hn,fun x hx=>?_,hp_setl (R:=fun x y=>x.1≠y.1) (x:=(a,.cells c t)) (y:=(a,.cells C t)) (fun z=>⟨Iff.rfl,Iff.rfl⟩) hj h.dj⟩⟩
 ·exact h.gr.trans (T:=fun k=>k=a) ⟨rfl,rfl,rfl,Nat.le_of_eq hz.symm,fun k _ q=>hn k q⟩ fun k e=>.inr (by subst e;exact lo.1)
 ·rcases List.mem_or_eq_of_mem_set hx with hx|rfl
  ·exact h.lo x hx
  ·exact lo
end Go.Proofs.YtncckdaflellnaaGreat
namespace Go.Proofs.YtncckdaflellnaaGreat.Res
open Go.RowKit Go.Lib Utf Nam Lat Kin Unp Rel Lab
theorem edge_alloc(ρ:Operand→Value)(W:World)(o:Oper)(h:o.op=.alloc 85):(execOp ρ o).run Tryz.prog W=.ok (.value (ptA W.heap.size)) (W.alloc (.cells #[.string ⟨#[]⟩,.bool false,.int .i64 0,.int .i64 0,.int .i64 0,.int .i64 0,.int .i64 0,.int .i64 0,.int .i64 0,.int .i64 0] 85)):=by
 simp [execOp,h,go_sem,ptA]
def tgI(tys:List Nd)(st:List Int)(x:ByteArray):Int:=st.getD (tgtS tys tys.length x).1.toNat 0
section
variable (base B:Nat) (lv tv tab:Value) (rh:TH) (rnv rpv:Value) (w0:World) (nm:List ByteArray) (F:Nat→Nat→Bool) (tys:List Nd) (st:List Int)
def AddC(f:Ft):Prop:=∀(s:BS)(h:TH)(nv pv:Value)(w:World),(BF base B lv tv tab rh rnv rpv).Inv w s→Below w0.heap.size w0 w→RdY w0 h f nv pv→GoodK h f→s.st=st→s.nd.length+1+Kin.cntF f≤1000000→∀R:Ending→World→Prop,
Hid (∀W s',s'.st=st→s'.nd.map (·.1)=(addT nm F (tgI tys st) h f (s.nd.map (·.1))).2→Hq (BF base B lv tv tab rh rnv rpv) s s' w W []→R (.returned (.int .i64 (addT nm F (tgI tys st) h f (s.nd.map (·.1))).1)) W)→Calls Tryz.prog 114 #[.pointer (some ⟨B,0,none⟩),tyV h nv pv] w R
end
section
variable {base B:Nat} {lv tv tab:Value} {rh:TH} {rnv rpv:Value} {w0:World}
theorem edge_calls{nm:List ByteArray}{F:Nat→Nat→Bool}{tys:List Nd}{st:List Int}(hL:LatP w0 lv nm F)(hlow:w0.heap.size≤base)(p:PH)(x:TH)(kd:Ft)(lv' cv' nv' pv':Value)(hlv:RdW w0 lv' p.label)(hcv:RdW w0 cv' p.cl)(hxy:RdY w0 x kd nv' pv')(g1:∀y∈p.label,GoodW y)(g2:∀y∈p.cl,GoodW y)(l1:p.label.length≤32)(l2:p.cl.length≤32)
  (gk:p.bare=false→GoodK x kd) (ih:p.bare=false→AddC base B lv tv tab rh rnv rpv w0 nm F tys st kd) (s:BS) (w:World) (hI:(BF base B lv tv tab rh rnv rpv).Inv w s) (hb:Below w0.heap.size w0 w) (hst:s.st=st) (hn:s.nd.length+(if p.bare then 0 else Kin.cntF kd+1)≤1000000) (R:Ending→World→Prop)
  (hR:Hid (∀W s',s'.st=st→s'.nd.map (·.1)=(addK nm F (tgI tys st) p x kd (s.nd.map (·.1))).2→Hq (BF base B lv tv tab rh rnv rpv) s s' w W []→R (.returned (.agg (encE (addK nm F (tgI tys st) p x kd (s.nd.map (·.1))).1).toArray)) W)):Calls Tryz.prog 166 #[.pointer (some ⟨B,0,none⟩),.agg (ptL p x lv' cv' nv' pv').toArray] w R:=by
 obtain⟨A1,n1,rfl,-,-⟩:=hlv.op;obtain⟨A2,n2,rfl,-,-⟩:=hcv.op;obtain⟨A5,n5,rfl,-,-⟩:=hxy.n.op;obtain⟨A7,n7,rfl,-⟩:=hxy.p.sl;have hlo:=bF_low base B lv tv tab rh rnv rpv hlow;have hR2:Hid (∀W s' (d:Int),s'.st=st→d=(if p.bare then(-1,s.nd.map (·.1))else addT nm F (tgI tys st) x kd (s.nd.map (·.1))).1→s'.nd.map (·.1)=(if p.bare then(-1,s.nd.map (·.1))else addT nm F (tgI tys st) x kd (s.nd.map (·.1))).2→Hq (BF base B lv tv tab rh rnv rpv) s s' w W []→R (.returned (.agg #[.string p.name,.bool p.bare,.int .i64 p.at_,.int .i64 d,.int .i64 (lof nm F p.label).1,.int .i64 (if p.wide=0 then 3 else p.wide),.int .i64 p.ck,.int .i64 p.cn,.int .i64 (lof nm F p.cl).1,.int .i64 p.cat])) W):=Lib.hid fun W s' d e1 e2 e3 q=>by subst e2;exact hR.out W s' e1 e3 q
 clear hR;have m0:=Hq.nil hI;obtain⟨V1,e1,m1,z1⟩:=m0.new (.cells (ptL p x (.slice A1 p.label.length n1) (.slice A2 p.cl.length n2) (.slice A5 x.names.length n5) (.slice A7 kd.len n7)).toArray 130);obtain⟨V,e2,n,z2⟩:=m1.new (.cells #[.string ⟨#[]⟩,.bool false,.int .i64 0,.int .i64 0,.int .i64 0,.int .i64 0,.int .i64 0,.int .i64 0,.int .i64 0,.int .i64 0] 85);clear m0 m1 z1 z2;go_enter Tryz.func166,Tryz.ntmps166
 go_upto_region 1 with fail
 clear e1 e2;have hbV:=hb.trans (n.below hb.size (hlo s));have p3:=fun y:BW V=>y.cell (n.lt 1 rfl) (n.c 1 3 rfl rfl)
 have b0:=fun y:BW V=>y.cell n.bl_ (n.bc 0 rfl)
 have cL:=Lib.hid fun(W:World) (m:Below V.heap.size V W) R hR=>lof_calls nm F lv W (hL.below (hbV.trans (m.mono hbV.size))) p.label _ (hlv.below (hbV.trans (m.mono hbV.size))) g1 (by omega) R hR
 generalize lof nm F p.label=a at *;obtain⟨a0,a1,a2⟩:=a;go_cut [5,6]from 10 to 19 (fun s9 s10 wx=>∃(T:Nat),s9=.int .i64 a0∧s10=.pointer (some ⟨T,0,none⟩)∧Hid (Hq (BF base B lv tv tab rh rnv rpv) s s w wx ((T,.cells #[.int .i64 a1,.int .i64 a2] 34)::[(V1.heap.size,.cells #[.string ⟨#[]⟩,.bool false,.int .i64 0,.int .i64 0,.int .i64 0,.int .i64 0,.int .i64 0,.int .i64 0,.int .i64 0,.int .i64 0] 85),(w.heap.size,.cells (ptL p x (.slice A1 p.label.length n1) (.slice A2 p.cl.length n2) (.slice A5 x.names.length n5) (.slice A7 kd.len n7)).toArray 130)])))
 case first =>
  refine wp_region_tr (.two [0,1,2,3,4,5] 6 (.one [7,8,9] 10 (.last [11])) 10 (.one [] 6 (.last [7,8,9,11]))) 12 (by kernel_rfl) (by kernel_rfl) (by kernel_rfl) (by kernel_rfl) (by decide) (fun _ _ d _ _ h=>by cases d<;>exact h) ?_
  have gW:Below V.heap.size V (V.drewN 1):=below_drewN (Below.refl _ _) 1;refine tr_two (os:=[_,_,_,_,_,_]) (by simp only[pickO,List.filterMap_cons,List.filterMap_nil,List.getElem?_toArray,List.getElem?_cons_succ,List.getElem?_cons_zero];rfl) (fun Kp hKp=>?_)
  repeat (go_big_quiet_step (exact rfl))
  refine wpQuiet_nil ?_;refine hKp _ ?_ ?_
  ·clear hKp
   refine loudr (by rfl) (by kernel_rfl) (fun K1 hK1=>?_);go_simp;refine cL.out _ gW _ (Lib.hid fun W4 m4=>?_);have gL:=gW.trans (m4.mono gW.size);refine hK1 _ _ (BW.of gL) ?_;clear hK1;refine tr_one (os:=[_,_,_]) (by simp only[pickO,List.filterMap_cons,List.filterMap_nil,List.getElem?_toArray,List.getElem?_cons_succ,List.getElem?_cons_zero];rfl) (fun Kp hKp=>?_)
   repeat (go_big_quiet_step (exact rfl))
   refine wpQuiet_nil ?_;refine hKp _ ?_;clear hKp;have n4:=n.bl gL;obtain⟨V5,e5,n5_,z5⟩:=n4.new (.cells #[.int .i64 a1,.int .i64 a2] 34);refine loudr (by rfl) (by kernel_rfl) (fun K2 hK2=>?_);go_simp;refine hK2 _ _ (BW.of (gL.alloc gL.size _)) ?_;clear hK2;refine tr_last (os:=[_]) (by simp only[pickO,List.filterMap_cons,List.filterMap_nil,List.getElem?_toArray,List.getElem?_cons_succ,List.getElem?_cons_zero];rfl) (fun Kp hKp=>?_)
   repeat (go_big_quiet_step (exact rfl))
   refine wpQuiet_nil ?_;refine hKp _ ?_;clear hKp;refine loudl (by rfl) (by kernel_rfl) ?_;go_simp;go_step;go_meet
   case rel=>exact⟨_,rfl,rfl,Lib.hid n5_⟩
  ·clear hKp
   have n4:=n.bl gW;obtain⟨V4,e4,n4,z4⟩:=n4.new (.cells #[.int .i64 0,.int .i64 0] 34);rw [show(V.drewN 1).heap.size=V.heap.size from rfl]at n4;have gL:Below V.heap.size V V4:=e4▸gW.alloc gW.size _;refine loudr (by rfl) (by kernel_rfl) (fun K2 hK2=>?_);go_simp;refine hK2 _ _ (BW.of gL) ?_;clear hK2;refine tr_one (os:=[]) (by rfl) (fun Kp hKp=>?_);refine wpQuiet_nil ?_;refine hKp _ ?_;clear hKp;refine loudr (by rfl) (by kernel_rfl) (fun K1 hK1=>?_);go_simp;refine cL.out _ gL _ (Lib.hid fun W5 m5=>?_);have gM:=gL.trans (m5.mono gL.size);refine hK1 _ _ (BW.of gM) ?_;clear hK1;refine tr_last (os:=[_,_,_,_]) (by simp only[pickO,List.filterMap_cons,List.filterMap_nil,List.getElem?_toArray,List.getElem?_cons_succ,List.getElem?_cons_zero];rfl) (fun Kp hKp=>?_)
   repeat (go_big_quiet_step (exact rfl))
   refine wpQuiet_nil ?_;refine hKp _ ?_;clear hKp e4;have n5:=n4.bl m5;have y0:=n5.c 0 0 rfl rfl;have yf0:=n5.f 0 0 rfl;have y1:=n5.c 0 1 rfl rfl;have yf1:=n5.f 0 1 rfl;obtain⟨V6,e6,n6,-⟩:=n5.put (j:=0) rfl [(0,.int .i64 a1),(1,.int .i64 a2)];simp only[stL]at e6;simp only[stA,List.setIfInBounds_toArray,List.set_cons_succ,List.set_cons_zero]at n6;refine loudl (by rfl) (by kernel_rfl) ?_;go_simp;go_step;go_meet
   case rel=>exact⟨_,rfl,rfl,Lib.hid n6⟩
 case rest =>
  clear n p3 b0 cL;obtain⟨T,rfl,rfl,n⟩:=hcut;replace n:=n.out.tail;go_upto_region 2 with fail
  obtain⟨V9,rfl⟩:∃V,V=wc:=⟨_,rfl⟩;have hbV:=hb.trans (n.below hb.size (hlo s));have p8:=fun y:BW V9=>y.cell (n.lt 1 rfl) (n.c 1 8 rfl rfl)
  have b0:=fun y:BW V9=>y.cell n.bl_ (n.bc 0 rfl)
  have cL:=Lib.hid fun(W:World) (m:Below V9.heap.size V9 W) R hR=>lof_calls nm F lv W (hL.below (hbV.trans (m.mono hbV.size))) p.cl _ (hcv.below (hbV.trans (m.mono hbV.size))) g2 (by omega) R hR
  generalize lof nm F p.cl=b at *;obtain⟨b0_,b1_,b2_⟩:=b;go_cut [7,8]from 20 to 30 (fun s9 s10 wx=>∃(T:Nat),s9=.int .i64 b0_∧s10=.pointer (some ⟨T,0,none⟩)∧Hid (Hq (BF base B lv tv tab rh rnv rpv) s s w wx ((T,.cells #[.int .i64 b1_,.int .i64 b2_] 34)::[(V1.heap.size,.cells #[.string ⟨#[]⟩,.bool false,.int .i64 0,.int .i64 0,.int .i64 0,.int .i64 0,.int .i64 0,.int .i64 0,.int .i64 0,.int .i64 0] 85),(w.heap.size,.cells (ptL p x (.slice A1 p.label.length n1) (.slice A2 p.cl.length n2) (.slice A5 x.names.length n5) (.slice A7 kd.len n7)).toArray 130)])))
  case first =>
   refine wp_region_tr (.two [0,1,2,3,4,5,6] 7 (.one [8,9,10] 11 (.last [12])) 11 (.one [] 7 (.last [8,9,10,12]))) 13 (by kernel_rfl) (by kernel_rfl) (by kernel_rfl) (by kernel_rfl) (by decide) (fun _ _ d _ _ h=>by cases d<;>exact h) ?_
   have gW:Below V9.heap.size V9 (V9.drewN 1):=below_drewN (Below.refl _ _) 1;refine tr_two (os:=[_,_,_,_,_,_,_]) (by simp only[pickO,List.filterMap_cons,List.filterMap_nil,List.getElem?_toArray,List.getElem?_cons_succ,List.getElem?_cons_zero];rfl) (fun Kp hKp=>?_)
   repeat (go_big_quiet_step (exact rfl))
   refine wpQuiet_nil ?_;refine hKp _ ?_ ?_
   ·clear hKp
    refine loudr (by rfl) (by kernel_rfl) (fun K1 hK1=>?_);go_simp;refine cL.out _ gW _ (Lib.hid fun W4 m4=>?_);have gL:=gW.trans (m4.mono gW.size);refine hK1 _ _ (BW.of gL) ?_;clear hK1;refine tr_one (os:=[_,_,_]) (by simp only[pickO,List.filterMap_cons,List.filterMap_nil,List.getElem?_toArray,List.getElem?_cons_succ,List.getElem?_cons_zero];rfl) (fun Kp hKp=>?_)
    repeat (go_big_quiet_step (exact rfl))
    refine wpQuiet_nil ?_;refine hKp _ ?_;clear hKp;have n4:=n.bl gL;obtain⟨V5,e5,n5_,z5⟩:=n4.new (.cells #[.int .i64 b1_,.int .i64 b2_] 34);refine loudr (by rfl) (by kernel_rfl) (fun K2 hK2=>?_);go_simp;refine hK2 _ _ (BW.of (gL.alloc gL.size _)) ?_;clear hK2;refine tr_last (os:=[_]) (by simp only[pickO,List.filterMap_cons,List.filterMap_nil,List.getElem?_toArray,List.getElem?_cons_succ,List.getElem?_cons_zero];rfl) (fun Kp hKp=>?_)
    repeat (go_big_quiet_step (exact rfl))
    refine wpQuiet_nil ?_;refine hKp _ ?_;clear hKp;refine loudl (by rfl) (by kernel_rfl) ?_;go_simp;go_step;go_meet
    case rel=>exact⟨_,rfl,rfl,Lib.hid n5_⟩
   ·clear hKp
    have n4:=n.bl gW;obtain⟨V4,e4,n4,z4⟩:=n4.new (.cells #[.int .i64 0,.int .i64 0] 34);rw [show(V9.drewN 1).heap.size=V9.heap.size from rfl]at n4;have gL:Below V9.heap.size V9 V4:=e4▸gW.alloc gW.size _;refine loudr (by rfl) (by kernel_rfl) (fun K2 hK2=>?_);go_simp;refine hK2 _ _ (BW.of gL) ?_;clear hK2;refine tr_one (os:=[]) (by rfl) (fun Kp hKp=>?_);refine wpQuiet_nil ?_;refine hKp _ ?_;clear hKp;refine loudr (by rfl) (by kernel_rfl) (fun K1 hK1=>?_);go_simp;refine cL.out _ gL _ (Lib.hid fun W5 m5=>?_);have gM:=gL.trans (m5.mono gL.size);refine hK1 _ _ (BW.of gM) ?_;clear hK1;refine tr_last (os:=[_,_,_,_]) (by simp only[pickO,List.filterMap_cons,List.filterMap_nil,List.getElem?_toArray,List.getElem?_cons_succ,List.getElem?_cons_zero];rfl) (fun Kp hKp=>?_)
    repeat (go_big_quiet_step (exact rfl))
    refine wpQuiet_nil ?_;refine hKp _ ?_;clear hKp e4;have n5:=n4.bl m5;have y0:=n5.c 0 0 rfl rfl;have yf0:=n5.f 0 0 rfl;have y1:=n5.c 0 1 rfl rfl;have yf1:=n5.f 0 1 rfl;obtain⟨V6,e6,n6,-⟩:=n5.put (j:=0) rfl [(0,.int .i64 b1_),(1,.int .i64 b2_)];simp only[stL]at e6;simp only[stA,List.setIfInBounds_toArray,List.set_cons_succ,List.set_cons_zero]at n6;refine loudl (by rfl) (by kernel_rfl) ?_;go_simp;go_step;go_meet
    case rel=>exact⟨_,rfl,rfl,Lib.hid n6⟩
  case rest =>
   clear n p8 b0 cL hbV;obtain⟨T,rfl,rfl,n⟩:=hcut;replace n:=n.out.tail;simp only at hR2;obtain⟨V3,rfl⟩:∃V,V=wc:=⟨_,rfl⟩;have p0:=n.c 1 0 rfl rfl;have p1:=n.c 1 1 rfl rfl;have p2:=n.c 1 2 rfl rfl;have p4:=n.c 1 4 rfl rfl;have p5:=n.c 1 5 rfl rfl;have p6:=n.c 1 6 rfl rfl;have p7:=n.c 1 7 rfl rfl;obtain⟨V4,e4,n4,z4⟩:=n.new (.cells #[.string p.name,.bool p.bare,.int .i64 p.at_,.int .i64 (-1),.int .i64 a0,.int .i64 p.wide,.int .i64 p.ck,.int .i64 p.cn,.int .i64 b0_,.int .i64 p.cat] 85);clear n;have n:=n4;clear n4;go_upto_region 4 with(refine wpList_copy #[.string p.name,.bool p.bare,.int .i64 p.at_,.int .i64 (-1),.int .i64 a0,.int .i64 p.wide,.int .i64 p.ck,.int .i64 p.cn,.int .i64 b0_,.int .i64 p.cat] ⟨rfl,rfl,rfl⟩ ⟨rfl,rfl,rfl⟩ edge_alloc (by kernel_rfl) ⟨rfl,by simp [Value.oneCell']⟩ (fun _=>⟨rfl,rfl⟩) ?_;go_simp)
   clear e4 z4 p0 p1 p2 p4 p5 p6 p7;have f5:=n.c 0 5 rfl rfl;have ff5:=n.f 0 5 rfl;obtain⟨wd,hwd⟩:∃z:Int,z=if p.wide=0 then 3 else p.wide:=⟨_,rfl⟩;rw [←hwd]at hR2;replace hwd:=Lib.hid hwd;go_upto_if 55 with fail
   generalize hq0:(p.wide==0)=Q0;replace hq0:=Lib.hid hq0;go_cut []from 53 to 56 (fun wx=>Hid (Hq (BF base B lv tv tab rh rnv rpv) s s w wx ((V3.heap.size,.cells #[.string p.name,.bool p.bare,.int .i64 p.at_,.int .i64 (-1),.int .i64 a0,.int .i64 wd,.int .i64 p.ck,.int .i64 p.cn,.int .i64 b0_,.int .i64 p.cat] 85)::[(V1.heap.size,.cells #[.string ⟨#[]⟩,.bool false,.int .i64 0,.int .i64 0,.int .i64 0,.int .i64 0,.int .i64 0,.int .i64 0,.int .i64 0,.int .i64 0] 85),(w.heap.size,.cells (ptL p x (.slice A1 p.label.length n1) (.slice A2 p.cl.length n2) (.slice A5 x.names.length n5) (.slice A7 kd.len n7)).toArray 130)])))
   case first =>
    clear hR2;cases Q0
    ·have hw:¬p.wide=0:=by simpa using hq0.out
     have e:wd=p.wide:=by rw [hwd.out,if_neg hw]
     clear hw hq0;go_wp2_with fail
     go_meet
     case rel=>rw [e];exact Lib.hid n
    ·have hw:p.wide=0:=by simpa using hq0.out
     have e:=Lib.hid (show wd=3 by rw [hwd.out,if_pos hw]);clear hw hq0;obtain⟨V5,e5,n5_,-⟩:=n.put (j:=0) rfl [(5,.int .i64 3)];simp only[stL]at e5;simp only[stA,List.setIfInBounds_toArray,List.set_cons_succ,List.set_cons_zero]at n5_;go_wp2_with fail
     go_meet
     case rel=>rw [e.out];exact Lib.hid n5_
   case rest =>
    replace n:=hcut.out;clear hcut f5 ff5 hq0;obtain⟨V6,rfl⟩:∃V,V=wc:=⟨_,rfl⟩;have p2:=n.c 2 2 rfl rfl;go_upto_if 59 with fail
    clear p2;go_cut []from 31 to 64 (fun wx=>∃(s':BS) (d:Int),Hid (Hq (BF base B lv tv tab rh rnv rpv) s s' w wx ((V3.heap.size,.cells #[.string p.name,.bool p.bare,.int .i64 p.at_,.int .i64 d,.int .i64 a0,.int .i64 wd,.int .i64 p.ck,.int .i64 p.cn,.int .i64 b0_,.int .i64 p.cat] 85)::[(V1.heap.size,.cells #[.string ⟨#[]⟩,.bool false,.int .i64 0,.int .i64 0,.int .i64 0,.int .i64 0,.int .i64 0,.int .i64 0,.int .i64 0,.int .i64 0] 85),(w.heap.size,.cells (ptL p x (.slice A1 p.label.length n1) (.slice A2 p.cl.length n2) (.slice A5 x.names.length n5) (.slice A7 kd.len n7)).toArray 130)]))∧Hid (s'.st=st∧d=(if p.bare then(-1,s.nd.map (·.1))else addT nm F (tgI tys st) x kd (s.nd.map (·.1))).1∧s'.nd.map (·.1)=(if p.bare then(-1,s.nd.map (·.1))else addT nm F (tgI tys st) x kd (s.nd.map (·.1))).2))
    case first =>
     clear hR2;cases hbare:p.bare
     ·go_upto_region 7 with fail
      have r9:=n.rgd 2 9 rfl;have hbV:=hb.trans (n.below hb.size (hlo s));go_wp2_with (refine wpList_load_g (by rfl) 29 _ rfl w.heap.size (9) rfl _ _ r9 Tryz.underlying29 rfl (by kernel_rfl) ?_;go_simp)
      refine ih hbare s x _ _ _ n.inv hbV hxy (gk hbare) hst (by rw [hbare,if_neg (by decide)]at hn;omega) _ (Lib.hid fun W5 s5 hs5 hn5 c5=>?_)
      replace n:=n.call c5;clear c5 r9 hbV;have f3:=n.c 0 3 rfl rfl;have ff3:=n.f 0 3 rfl;generalize hd:(addT nm F (tgI tys st) x kd (s.nd.map (·.1))).1=d;obtain⟨V7,e7,n7_,-⟩:=n.put (j:=0) rfl [(3,.int .i64 d)];simp only[stL]at e7;simp only[stA,List.setIfInBounds_toArray,List.set_cons_succ,List.set_cons_zero]at n7_;have hx5:s5.st=st∧d=(if p.bare then(-1,s.nd.map (·.1))else addT nm F (tgI tys st) x kd (s.nd.map (·.1))).1∧s5.nd.map (·.1)=(if p.bare then(-1,s.nd.map (·.1))else addT nm F (tgI tys st) x kd (s.nd.map (·.1))).2:=⟨hs5,by rw [hbare,if_neg (by decide)];exact hd.symm,by rw [hbare,if_neg (by decide)];exact hn5⟩
      replace hx5:=Lib.hid hx5;clear hbare hd hn5 hs5;go_wp2_with fail
      go_meet
      case rel=>exact⟨s5,d,Lib.hid n7_,hx5⟩
     ·have hx5:s.st=st∧(-1:Int)=(if p.bare then(-1,s.nd.map (·.1))else addT nm F (tgI tys st) x kd (s.nd.map (·.1))).1∧s.nd.map (·.1)=(if p.bare then(-1,s.nd.map (·.1))else addT nm F (tgI tys st) x kd (s.nd.map (·.1))).2:=⟨hst,by rw [hbare,if_pos rfl],by rw [hbare,if_pos rfl]⟩
      replace hx5:=Lib.hid hx5;go_wp2_with fail
      go_meet
      case rel=>exact⟨s,-1,Lib.hid n,hx5⟩
    case rest =>
     clear n;obtain⟨s',d,n,hx5⟩:=hcut;replace n:=n.out;obtain⟨x1,x2,x3⟩:=hx5.out;clear hx5;go_upto_region 8 with fail
     obtain⟨V8,rfl⟩:∃V,V=wc:=⟨_,rfl⟩;have rE:=n.rg 0 rfl;have hG:=n.b 1 rfl;obtain⟨VE,eE,nE⟩:=n.row (j:=1) rfl #[.string p.name,.bool p.bare,.int .i64 p.at_,.int .i64 d,.int .i64 a0,.int .i64 wd,.int .i64 p.ck,.int .i64 p.cn,.int .i64 b0_,.int .i64 p.cat];simp only[List.set_cons_succ,List.set_cons_zero]at nE;have w_0:=nE.c 1 0 rfl rfl;have w_1:=nE.c 1 1 rfl rfl;have w_2:=nE.c 1 2 rfl rfl;have w_3:=nE.c 1 3 rfl rfl;have w_4:=nE.c 1 4 rfl rfl;have w_5:=nE.c 1 5 rfl rfl;have w_6:=nE.c 1 6 rfl rfl;have w_7:=nE.c 1 7 rfl rfl;have w_8:=nE.c 1 8 rfl rfl;have w_9:=nE.c 1 9 rfl rfl;have fin:=Lib.hid (hR2.out _ s' d x1 x2 x3 nE.fin);clear nE n hR2 x1 x2 x3;go_wp2_with (first|(refine wpList_load_g (by rfl) 85 _ rfl V3.heap.size (0) rfl _ _ rE Tryz.underlying85 rfl (by kernel_rfl) ?_)|(refine wpList_store_row (by rfl) 85 _ _ (by rfl) V1.heap.size #[.string p.name,.bool p.bare,.int .i64 p.at_,.int .i64 d,.int .i64 a0,.int .i64 wd,.int .i64 p.ck,.int .i64 p.cn,.int .i64 b0_,.int .i64 p.cat] (by rfl) (by rfl) 85 _ hG (by kernel_rfl) rfl (by simp [Value.oneCell']) ?_;go_simp))
     first|refine bodyPost_ret ?_ rfl fin.out|refine bodyPost_end ?_ rfl fin.out
     simp [results,Tryz.results166,go_sem,w_0,w_1,w_2,w_3,w_4,w_5,w_6,w_7,w_8,w_9]
end
theorem own_sl2{w:World}{base:Nat}{e:TypeId}{k n:Nat}{v:Value}{xs:List Value}(h:w.ownsRow base e k v n xs):∃A c,v=.slice A n c:=by
 obtain⟨-,⟨rfl,rfl⟩|⟨g,cap,cur,rfl,-⟩⟩:=h
 ·exact⟨_,_,rfl⟩
 ·exact⟨_,_,rfl⟩
theorem tgt_in{tys:List Nd}:∀(n:Nat)(x:ByteArray),(0<tys.length∨n=0)→∃I:Nat,(tgtS tys n x).1=(I:Int)∧I<tys.length+1
| 0,x,_=>⟨0,rfl,by omega⟩
| n+1,x,h=>by
 have h0:0<tys.length:=by omega
 obtain⟨I,hI,hI2⟩:=fin_in (xs:=nms (tw tys)) x (by simpa [nms,tw_len]using h0);have hI3:I<tys.length:=by simpa [nms,tw_len]using hI2
 show ∃I:Nat,(if(nN tys (finS (nms (tw tys)) x).1.toNat).2.1.kind≠9 then((finS (nms (tw tys)) x).1,true)else tgtS tys n (nN tys (finS (nms (tw tys)) x).1.toNat).2.1.name).1=(I:Int)∧I<tys.length+1
 by_cases c:(nN tys (finS (nms (tw tys)) x).1.toNat).2.1.kind≠9
 ·rw [if_pos c]
  exact⟨I,hI,by omega⟩
 ·rw [if_neg c]
  exact tgt_in n _ (.inl h0)
theorem node_in:(Tryz.prog.info? 74).map (fun i=>(i.zero,i.size,i.bytes))=some (some (.agg #[.int .i64 0,.int .i64 0,.int .i64 0,.int .i64 0,.int .i64 0,.slice none 0 0,.slice none 0 0]),7,88):=by kernel_rfl
theorem node_info:∃i0,Tryz.prog.info? 74=some i0∧(i0.zero,i0.size,i0.bytes)=(some (.agg #[.int .i64 0,.int .i64 0,.int .i64 0,.int .i64 0,.int .i64 0,.slice none 0 0,.slice none 0 0]),7,88):=by
 have:=node_in;cases h:Tryz.prog.info? 74 with
 | none=>rw [h]at this;cases this
 | some i0=>rw [h]at this;exact⟨i0,rfl,by simpa using this⟩
theorem edge_in:(Tryz.prog.info? 85).map (fun i=>(i.zero,i.size,i.bytes))=some (some (.agg #[.string ⟨#[]⟩,.bool false,.int .i64 0,.int .i64 0,.int .i64 0,.int .i64 0,.int .i64 0,.int .i64 0,.int .i64 0,.int .i64 0]),10,88):=by kernel_rfl
theorem edge_info:∃i0,Tryz.prog.info? 85=some i0∧(i0.zero,i0.size,i0.bytes)=(some (.agg #[.string ⟨#[]⟩,.bool false,.int .i64 0,.int .i64 0,.int .i64 0,.int .i64 0,.int .i64 0,.int .i64 0,.int .i64 0,.int .i64 0]),10,88):=by
 have:=edge_in;cases h:Tryz.prog.info? 85 with
 | none=>rw [h]at this;cases this
 | some i0=>rw [h]at this;exact⟨i0,rfl,by simpa using this⟩
theorem rd_nil(W:World)(k:Nat):RdAt W (.slice none 0 0) k []:=⟨none,0,0,rfl,by simp,Nat.le_refl _,fun h=>absurd h (by simp)⟩
theorem addT_ref{nm:List ByteArray}{F:Nat→Nat→Bool}{tg:ByteArray→Int}{h:TH}{f:Ft}{l:List NdR}(k:h.kind=9):addT nm F tg h f l=(tg h.name,l):=if_pos k
theorem addT_node{nm:List ByteArray}{F:Nat→Nat→Bool}{tg:ByteArray→Int}{h:TH}{f:Ft}{l:List NdR}(k:¬h.kind=9):addT nm F tg h f l=((l.length:Int),(addF nm F tg f (l++[ndP h])).2.set l.length { ndP h with edges:=(addF nm F tg f (l++[ndP h])).1 }):=if_neg k
section
variable {base B:Nat} {lv tv tab:Value} {rh:TH} {rnv rpv:Value} {w0:World}
theorem add_step{nm:List ByteArray}{F:Nat→Nat→Bool}{tys:List Nd}{st:List Int}(hL:LatP w0 lv nm F)(ht:RdNs w0 tv tys)(hT:RdT w0 tab (nms (tw tys)))(hlow:w0.heap.size≤base)(hl:tys.length≤1000000)(hsl:st.length=tys.length+1)(f:Ft)(ih:Fo.AllK (AddC base B lv tv tab rh rnv rpv w0 nm F tys st) f):AddC base B lv tv tab rh rnv rpv w0 nm F tys st f:=by
 intro s h nv' pv' w hI hb hy hg hst hnb R hR;obtain⟨ti,hTI,hZ⟩:=node_info;simp only[Prod.mk.injEq]at hZ;obtain⟨hz0,hz1,hz2⟩:=hZ;obtain⟨tj,hTJ,hY⟩:=edge_info;simp only[Prod.mk.injEq]at hY;obtain⟨hy0,hy1,hy2⟩:=hY;obtain⟨An,cn,rfl,-,-⟩:=hy.n.op;obtain⟨Ap,cp,rfl,-⟩:=hy.p.sl;have hlo:=bF_low base B lv tv tab rh rnv rpv hlow;have hfl:=(ok_len hg.1).1;replace ih:=Lib.hid ih;have m0:=Hq.nil hI;obtain⟨V,e1,n,z1⟩:=m0.new (.cells (tyL h (.slice An h.names.length cn) (.slice Ap f.len cp)).toArray 29);clear m0 z1;go_enter Tryz.func114,Tryz.ntmps114
 go_upto_region 1 with fail
 clear e1;have t0:=n.c 0 0 rfl rfl;have hbV:=hb.trans (n.below hb.size (hlo s))
 by_cases hk:h.kind=9
 ·rw [addT_ref hk]at hR
  have q0:(h.kind==9)=true:=by simpa using hk
  clear hk;obtain⟨I,hI1,hI2⟩:=tgt_in (tys:=tys) tys.length h.name (by omega);have t7:=n.c 0 7 rfl rfl;go_wp2_with fail
  refine target_calls ht hT hlow hl s h.name V n.inv hbV _ (Lib.hid fun W1 c1=>?_);replace n:=n.call c1;have inv:BInv base B lv tv tab rh rnv rpv W1 s:=n.inv;have own:=inv.os;rw [hst]at own;obtain⟨G,c,hsv,-,-,-,hcl⟩:=own_at own (by omega);have x0:=hcl I (by omega)
  have hx:(ints st)[I]?=some (.int .i64 (tgI tys st h.name)):=by
   unfold tgI;rw [hI1,Int.toNat_natCast];simp [ints,List.getD,List.getElem?_eq_getElem (show I<st.length by omega)]
  rw [hx]at x0;have b14:=n.bc 14 rfl;rw [hsv]at b14;have fin:=Lib.hid (hR.out _ s hst rfl n.fin);rw [hI1];generalize tgI tys st h.name=z at *;have i0:(0:Int)≤(I:Int):=by omega
  have i1:(I:Int)<(st.length:Int):=by omega
  clear n inv own hcl hx hI1 c1 hR t0 t7;go_wp2_with fail
  exact fin.out
 ·rw [addT_node hk]at hR
  have q0:(h.kind==9)=false:=by simpa using hk
  clear hk;obtain⟨A,c,hnv⟩:=own_sl2 (show V.ownsRow base 74 7 s.nv s.nd.length _ from(show BInv base B lv tv tab rh rnv rpv V s from n.inv).on);have b15:=n.bc 15 rfl;rw [hnv]at b15;go_upto_region 5 with fail
  clear b15 t0;have inv:BInv base B lv tv tab rh rnv rpv V s:=n.inv;have b15:=fun y:RW (fun k=>s.nv.ownBlock=some k) V=>y.cell n.bl_ inv.d2 (n.bc 15 rfl)
  have nT:¬s.nv.ownBlock=some w.heap.size:=fun e=>(n.lo _ List.mem_cons_self).2 ⟨(inv.on.lt _ e).1,.inr (.inr (.inl e))⟩
  have t0:=fun y:RW (fun k=>s.nv.ownBlock=some k) V=>y.cell (n.lt 0 rfl) nT (n.c 0 0 rfl rfl)
  have t1:=fun y:RW (fun k=>s.nv.ownBlock=some k) V=>y.cell (n.lt 0 rfl) nT (n.c 0 1 rfl rfl)
  have t2:=fun y:RW (fun k=>s.nv.ownBlock=some k) V=>y.cell (n.lt 0 rfl) nT (n.c 0 2 rfl rfl)
  have t3:=fun y:RW (fun k=>s.nv.ownBlock=some k) V=>y.cell (n.lt 0 rfl) nT (n.c 0 3 rfl rfl)
  have t4:=fun y:RW (fun k=>s.nv.ownBlock=some k) V=>y.cell (n.lt 0 rfl) nT (n.c 0 4 rfl rfl)
  have t5:=fun y:RW (fun k=>s.nv.ownBlock=some k) V=>y.cell (n.lt 0 rfl) nT (n.c 0 5 rfl rfl)
  have gW:Below V.heap.size V (V.drewN 1):=below_drewN (Below.refl _ _) 1;refine wp_region_trS (fun k=>s.nv.ownBlock=some k) (.one [0,1,2,3,4,5,6,7,8,9,10,11,12,13,14,15,16] 17 (.one [18] 19 (.one [] 20 (.one [] 21 (.last [22]))))) 23 (by kernel_rfl) (by kernel_rfl) (by kernel_rfl) (by kernel_rfl) (by decide) (fun _ _ d _ _ h=>by cases d<;>exact h) ?_
  refine tr_one (os:=[_,_,_,_,_,_,_,_,_,_,_,_,_,_,_,_,_]) (by simp only[pickO,List.filterMap_cons,List.filterMap_nil,List.getElem?_toArray,List.getElem?_cons_succ,List.getElem?_cons_zero];rfl) (fun Kp hKp=>?_)
  repeat (go_big_quiet_step (exact rfl))
  refine wpQuiet_nil ?_;refine hKp _ ?_;clear hKp;refine loudr (by rfl) (by kernel_rfl) (fun K1 hK1=>?_);go_simp;refine texts_calls h.names (by have:=(ok_len hg.1).2;omega) _ _ (hy.below (hbV.trans (gW.mono hbV.size))).n _ (Lib.hid fun v3 W3 r3 sh3 m3=>?_)
  obtain⟨A3,c3,rfl,-⟩:=r3.open;have m13:Below V.heap.size V W3:=gW.trans (m3.mono gW.size);have own:W3.ownsRow base 74 7 s.nv s.nd.length (flatG encN s.nd):=ownKp inv.on fun k q _=>m13.block k (inv.on.lt k q).2
  have hsz:base≤W3.heap.size:=Nat.le_trans inv.hB (Nat.le_trans (Nat.le_of_lt n.bl_) m13.size);refine hK1 _ _ (RW.of ((Gr.rfl' _ V).bl m13)) ?_;clear hK1;refine tr_one (os:=[_]) (by simp only[pickO,List.filterMap_cons,List.filterMap_nil,List.getElem?_toArray,List.getElem?_cons_succ,List.getElem?_cons_zero];rfl) (fun Kp hKp=>?_)
  repeat (go_big_quiet_step (exact rfl))
  refine wpQuiet_nil ?_;refine hKp _ ?_;clear hKp;refine loudr (by rfl) (by kernel_rfl) (fun K2 hK2=>?_);go_simp;refine hK2 _ _ (RW.of ((Gr.rfl' _ V).bl (m13.alloc m13.size _))) ?_;clear hK2;refine tr_one (os:=[]) (by rfl) (fun Kp hKp=>?_);refine wpQuiet_nil ?_;refine hKp _ ?_;clear hKp;refine loudr (by rfl) (by kernel_rfl) (fun K3 hK3=>?_);refine appOp W3 #[.int .i64 h.kind,.int .i64 h.at_,.int .i64 h.lo,.int .i64 h.hi,.int .i64 h.most,.slice A3 (nms h.names).length c3,.slice none 0 0] 7 74 _ _ 98 rfl base ti (.agg #[.int .i64 0,.int .i64 0,.int .i64 0,.int .i64 0,.int .i64 0,.slice none 0 0,.slice none 0 0]) 88 Tryz.underlying98 hTI hz0 hz1 hz2 rfl (by decide) rfl s.nv s.nd.length (flatG encN s.nd) hnv.symm own _ rfl rfl (by simp [Value.oneCell']) (by unfold maxLen;omega) (by omega) hsz ?_
  intro v4 w4 hown hgr hfr;obtain⟨A4,m4,c4,rfl⟩:=own_sl hown;have gA:Gr (fun k=>s.nv.ownBlock=some k) V w4:=((Gr.rfl' _ V).bl m13).trans (Gr.ofRow hgr) fun k e=>.inl e
  go_simp;refine hK3 _ _ (RW.of gA) ?_;clear hK3;refine tr_one (os:=[]) (by rfl) (fun Kp hKp=>?_);refine wpQuiet_nil ?_;refine hKp _ ?_;clear hKp;refine loudr (by rfl) (by kernel_rfl) (fun K4 hK4=>?_);go_simp;refine hK4 _ _ (RW.of gA) ?_;clear hK4;refine tr_last (os:=[_]) (by simp only[pickO,List.filterMap_cons,List.filterMap_nil,List.getElem?_toArray,List.getElem?_cons_succ,List.getElem?_cons_zero];rfl) (fun Kp hKp=>?_)
  repeat (go_big_quiet_step (exact rfl))
  refine wpQuiet_nil ?_;refine hKp _ ?_;clear hKp;have hbx:w4.heap[B]?=_:=(hgr.block B (Nat.lt_of_lt_of_le n.bl_ m13.size) fun e=>inv.d2 e.symm).trans ((m13.block B n.bl_).trans inv.box);have bf:=Lib.frozen_of_heap hbx 15;have bc:w4.cell? ⟨B,15,none⟩=some s.nv:=by rw [Lib.cell_of_heap hbx];rfl
  obtain⟨V4,e4,n⟩:∃V4,w4.setCell ⟨B,15,none⟩ (.slice A4 m4 c4)=V4∧Hq (BF base B lv tv tab rh rnv rpv) s { s with nd:=s.nd++[(ndP h,.slice A3 (nms h.names).length c3,.slice none 0 0)],nv:=.slice A4 m4 c4,T:=fun k=>s.T k∨(V.heap.size≤k∧k<W3.heap.size) } w V4 [(w.heap.size,.cells (tyL h (.slice An h.names.length cn) (.slice Ap f.len cp)).toArray 29)]:=⟨_,rfl,bs_ndApp n m13 (x:=(ndP h,.slice A3 (nms h.names).length c3,.slice none 0 0)) r3 (rd_nil _ _) ⟨sh3,.inl rfl⟩ (by rw [flatG_snoc];exact hown) hgr (fun b q=>by
   rcases hfr with e|e
   ·exact .inl (e.symm.trans q)
   ·refine .inr ?_
    rw [e]at q;simp only[Option.some.injEq]at q;omega)⟩
  refine loudl (by rfl) (by kernel_rfl) ?_;go_simp;clear e4 bf bc hbx gA hfr hgr hown b15 gW own inv t0 t1 t2 t3 t4 t5 nT r3 sh3 m3 hsz;obtain⟨s1,hs1⟩:∃s1:BS,s1={ s with nd:=s.nd++[(ndP h,.slice A3 (nms h.names).length c3,.slice none 0 0)],nv:=.slice A4 m4 c4,T:=fun k=>s.T k∨(V.heap.size≤k∧k<W3.heap.size) }:=⟨_,rfl⟩;rw [←hs1]at n;have a1:s1.st=st:=by rw [hs1];exact hst
  have a2:s1.nd.map (·.1)=s.nd.map (·.1)++[ndP h]:=by rw [hs1];simp
  have a3:s1.nd.length=s.nd.length+1:=by rw [hs1];simp
  have hl0:(s.nd.map (·.1)).length=s.nd.length:=by simp
  have hbw:base≤w.heap.size:=by
   have i:BInv base B lv tv tab rh rnv rpv w s:=hI;exact Nat.le_trans i.hB (Nat.le_of_lt (hp_lt i.box))
  clear hs1 hnv;generalize s.nd.map (·.1)=l0 at hR a2 hl0;have t6:=n.c 0 6 rfl rfl;go_wp2_with fail
  clear t6;go_loopg [8,60] f.len (fun g0 ev i wr=>∃(K:Nat) (v:Value) (sK:BS) (es:List EdR),v=ev∧i=.int .i64 K∧K+g0=f.len∧Hid (es.length=K∧sK.st=st∧addF nm F (tgI tys st) f (l0++[ndP h])=(es++(addF nm F (tgI tys st) (f.drop K) (sK.nd.map (·.1))).1,(addF nm F (tgI tys st) (f.drop K) (sK.nd.map (·.1))).2)∧sK.nd.length+Kin.cntF (f.drop K)≤1000000)∧Hid (Hq (BF base B lv tv tab rh rnv rpv) s sK w wr [(w.heap.size,.cells (tyL h (.slice An h.names.length cn) (.slice Ap f.len cp)).toArray 29)])∧Hid (wr.ownsRow w.heap.size 85 10 v K (flatG encE es))∧Hid (∀k,v.ownBlock=some k→¬bFr base B sK k∧k≠w.heap.size))
  case atStart=>exact⟨0,_,s1,[],rfl,rfl,by omega,Lib.hid ⟨rfl,a1,by rw [a2];rfl,by show s1.nd.length+Kin.cntF f≤_;omega⟩,Lib.hid n,Lib.hid (by simpa [flatG]using World.ownsRow_nil _ _ _ _),Lib.hid fun k q=>by cases q⟩
  case round =>
   clear n;obtain⟨K,v,sK,es,rfl,rfl,e1,hh,n,own,sep⟩:=hrel;replace n:=n.out;have hbW:=hb.trans (n.below hb.size (hlo s));have lT:=n.lt 0 rfl
   by_cases hK:K<f.len
   ·obtain⟨p,x,kd,r,e⟩:=Fo.drop_lt hK
    obtain⟨g,o,A1,n1,A2,n2,A5,n5,A7,n7,rfl,hlv,hcv,hxy,hrg⟩:=part_el hy e;obtain⟨gp,gx,gkk,ga⟩:=all_at K hg.2.2.2 e;obtain⟨l1,l2,okk⟩:=ok_lab hg.1 e;have d1:=Fo.drop_succ K e;obtain⟨h1,h2,h3,h4⟩:=hh.out;rw [e]at h3 h4;rw [addF_cons]at h3;have e9:Kin.cntF (.cons p x kd r)=(if p.bare then 0 else Kin.cntF kd+1)+Kin.cntF r:=rfl;rw [e9]at h4;have b5:=addK_behind nm F (tgI tys st) p x kd (sK.nd.map (·.1));have i0:(0:Int)≤(K:Int):=by omega
    have i1:(K:Int)<(f.len:Int):=by omega
    have rg:=hrg wr hbW;have ihK:=Lib.hid ((ih.out).at_ e);replace h3:=Lib.hid h3;replace h4:=Lib.hid h4;replace b5:=Lib.hid b5;replace okk:=Lib.hid okk;clear hrg e hh hbW e9;obtain⟨V3,e3,n,z3⟩:=n.new (.cells (ptL p x (.slice A1 p.label.length n1) (.slice A2 p.cl.length n2) (.slice A5 x.names.length n5) (.slice A7 kd.len n7)).toArray 130);have bP:=Lib.hid (show Below wr.heap.size wr V3 from e3▸(Below.refl _ _).alloc (Nat.le_refl _) _);go_upto_region 10 with(first|(refine wpList_load_g (by rfl) 130 _ rfl g (o+K*18) rfl _ _ rg Tryz.underlying130 rfl (by kernel_rfl) ?_;go_simp)|(refine wpList_copy (ptL p x (.slice A1 p.label.length n1) (.slice A2 p.cl.length n2) (.slice A5 x.names.length n5) (.slice A7 kd.len n7)).toArray ⟨rfl,rfl,rfl⟩ ⟨rfl,rfl,rfl⟩ part_alloc (by kernel_rfl) ⟨rfl,by simp [Value.oneCell']⟩ (fun _=>⟨rfl,rfl⟩) ?_;go_simp))
    clear e3 z3 rg;have hbV:=hb.trans (n.below hb.size (hlo s));have r10:=n.rg 0 rfl;go_wp2_with (refine wpList_load_g (by rfl) 130 _ rfl wr.heap.size (0) rfl _ _ r10 Tryz.underlying130 rfl (by kernel_rfl) ?_;go_simp)
    refine edge_calls hL hlow p x kd _ _ _ _ hlv hcv hxy gp.2.2.1 gp.2.2.2.2.2.2.2.1 l1 l2 (fun hb=>⟨okk.out hb,gx,gkk,ga⟩) (fun _=>ihK.out) sK V3 n.inv hbV h2 (by have:=h4.out;omega) _ (Lib.hid fun W5 s5 hs5 hn5 c5=>?_)
    have own5:W5.ownsRow w.heap.size 85 10 v K (flatG encE es):=ownKp (own_below own.out bP.out) fun k q _=>c5.gr.block k (Nat.lt_of_lt_of_le (own.out.lt k q).2 bP.out.size) (sep.out k q).1
    have sep5:∀k,v.ownBlock=some k→¬bFr base B s5 k∧k≠w.heap.size:=fun k q=>⟨fun fr=>by
     rcases c5.sub k fr with e|e
     ·exact(sep.out k q).1 e
     ·have a:=(own.out.lt k q).2
      have b:=bP.out.size;omega,(sep.out k q).2⟩
    replace b5:=b5.out;replace h3:=h3.out;rw [←hn5]at h3 b5
    have h5:s5.nd.length+Kin.cntF r≤1000000:=by
     have q1:=b5.2.1;have q2:=h4.out;simp only[List.length_map]at q1;omega
    replace n:=(n.call c5).tail;have lT5:=n.lt 0 rfl;have hsz:w.heap.size≤W5.heap.size:=Nat.le_of_lt lT5;clear c5 r10 hbV b5 h4 bP own sep gp gx gkk ga okk hlv hcv hxy ihK;generalize(addK nm F (tgI tys st) p x kd (sK.nd.map (·.1))).1=eN at h3 ⊢;clear hn5;obtain⟨x0,x1,x2,x3,x4,x5,x6,x7,x8,x9⟩:=eN;rw [show encE ⟨x0,x1,x2,x3,x4,x5,x6,x7,x8,x9⟩=[.string x0,.bool x1,.int .i64 x2,.int .i64 x3,.int .i64 x4,.int .i64 x5,.int .i64 x6,.int .i64 x7,.int .i64 x8,.int .i64 x9]from rfl];replace own5:=Lib.hid own5;replace sep5:=Lib.hid sep5;replace h3:=Lib.hid h3;go_wp2_with (at_builtin;go_loud (refine appKF W5 #[.string x0,.bool x1,.int .i64 x2,.int .i64 x3,.int .i64 x4,.int .i64 x5,.int .i64 x6,.int .i64 x7,.int .i64 x8,.int .i64 x9] 10 85 rfl _ _ 72 rfl w.heap.size tj (.agg #[.string ⟨#[]⟩,.bool false,.int .i64 0,.int .i64 0,.int .i64 0,.int .i64 0,.int .i64 0,.int .i64 0,.int .i64 0,.int .i64 0]) 88 Tryz.underlying72 hTJ hy0 hy1 hy2 rfl (by decide) rfl _ K (flatG encE es) rfl own5.out _ rfl rfl (by simp [Value.oneCell']) (by unfold maxLen;omega) (by omega) hsz ?_);rintro v' w6 hown6 hg6-hfr)
    have own6:=Lib.hid (show w6.ownsRow w.heap.size 85 10 v' (K+1) (flatG encE (es++[⟨x0,x1,x2,x3,x4,x5,x6,x7,x8,x9⟩]))by rw [flatG_snoc];exact hown6)
    have n6:=Lib.hid (n.grow hg6 fun k q=>⟨(own5.out.lt k q).1,(sep5.out k q).1,fun y hy=>by
     obtain rfl:=List.mem_singleton.1 hy;exact fun e=>(sep5.out k q).2 e.symm⟩)
    have sep6:Hid (∀k,v'.ownBlock=some k→¬bFr base B s5 k∧k≠w.heap.size):=Lib.hid fun k q=>by
     rcases hfr with e|e
     ·exact sep5.out k (e.symm.trans q)
     ·rw [e]at q
      simp only[Option.some.injEq]at q;refine⟨fun fr=>?_,by omega⟩;have:=(BF base B lv tv tab rh rnv rpv).lt n.inv (show(BF base B lv tv tab rh rnv rpv).Fr s5 k from fr);omega
    have hh6:=Lib.hid (show(es++[(⟨x0,x1,x2,x3,x4,x5,x6,x7,x8,x9⟩:EdR)]).length=K+1∧s5.st=st∧addF nm F (tgI tys st) f (l0++[ndP h])=((es++[⟨x0,x1,x2,x3,x4,x5,x6,x7,x8,x9⟩])++(addF nm F (tgI tys st) (f.drop (K+1)) (s5.nd.map (·.1))).1,(addF nm F (tgI tys st) (f.drop (K+1)) (s5.nd.map (·.1))).2)∧s5.nd.length+Kin.cntF (f.drop (K+1))≤1000000 from⟨by simp [h1],hs5,by rw [d1,List.append_assoc];exact h3.out,by rw [d1];exact h5⟩)
    clear n own5 sep5 h3 h5 hown6 hg6 hfr hs5 hR d1;go_wp2_with fail
    go_roundg (gk-1)
    case measure=>omega
    case rel=>exact⟨K+1,v',s5,_,rfl,by go_num,by omega,hh6,n6,own6,sep6⟩
   ·obtain rfl:K=f.len:=by omega
    obtain⟨h1,h2,h3,-⟩:=hh.out;rw [Fo.drop_all (Nat.le_refl _)]at h3;replace h3:addF nm F (tgI tys st) f (l0++[ndP h])=(es,sK.nd.map (·.1)):=by rw [h3];simp [addF]
    have bh:=addF_behind (nm:=nm) (F:=F) (tg:=tgI tys st) f (l0++[ndP h]);rw [h3]at bh hR;have hix:=bh.2.2 l0.length (by simp);rw [List.getElem?_append_right (Nat.le_refl _),Nat.sub_self,List.getElem?_map]at hix
    obtain⟨y,hy1,hy2⟩:∃y,sK.nd[l0.length]?=some y∧y.1=ndP h:=by
     cases q:sK.nd[l0.length]? with
     | none=>rw [q]at hix;cases hix
     | some y=>rw [q]at hix;exact⟨y,rfl,by simpa using hix⟩
    have li:=(List.getElem?_eq_some_iff.1 hy1).1;rw [hl0]at hy1 hR li;have inv:BInv base B lv tv tab rh rnv rpv wr sK:=n.inv;obtain⟨G,c,hsv,-,-,-,hcl⟩:=own_at inv.on (by omega);have on:=inv.on;rw [hsv]at on;have fz:=on.frozenAt (s.nd.length*7+6)
    have cx:wr.cell? ⟨G,s.nd.length*7+6,none⟩=some y.2.2:=by
     rw [hcl _ (by omega),flatG_get encN_len sK.nd s.nd.length 6 li (by decide),(List.getElem?_eq_some_iff.1 hy1).2];rfl
    have b15:=n.bc 15 rfl;rw [hsv]at b15;obtain⟨A',c',rfl⟩:=own_sl2 own.out
    obtain⟨V9,e9,n9⟩:∃V9,wr.setCell ⟨G,s.nd.length*7+6,none⟩ (.slice A' f.len c')=V9∧Hq (BF base B lv tv tab rh rnv rpv) s { sK with nd:=sK.nd.set s.nd.length ({ y.1 with edges:=es },y.2.1,.slice A' f.len c'),T:=fun k=>sK.T k∨(Value.slice A' f.len c').ownBlock=some k } w V9 [(w.heap.size,.cells (tyL h (.slice An h.names.length cn) (.slice Ap f.len cp)).toArray 29)]:=⟨_,rfl,bs_edges n hy1 hsv (by rw [h1];exact own.out) hbw fun k q=>⟨(own.out.lt k q).1,(sep.out k q).1,fun y hy=>by
     obtain rfl:=List.mem_singleton.1 hy;exact fun e=>(sep.out k q).2 e.symm⟩⟩
    have fin:=Lib.hid (hR.out V9 { sK with nd:=sK.nd.set s.nd.length ({ y.1 with edges:=es },y.2.1,.slice A' f.len c'),T:=fun k=>sK.T k∨(Value.slice A' f.len c').ownBlock=some k } h2 (by
     show List.map (·.1) (sK.nd.set s.nd.length ({ y.1 with edges:=es },y.2.1,.slice A' f.len c'))=_;rw [List.map_set,hy2]) n9.fin)
    have i0:(0:Int)≤(s.nd.length:Int):=by omega
    have i1:(s.nd.length:Int)<(sK.nd.length:Int):=by omega
    clear n n9 own sep hh hcl on inv hR hix bh h3 hsv hy1 hy2 hbW ih;go_wp2_with fail
    exact fin.out
end
end Go.Proofs.YtncckdaflellnaaGreat.Res
