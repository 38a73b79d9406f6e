import Derived.Test.YtncckdaflellnaaGreatQ39
set_option linter.all false
set_option maxRecDepth 100000
set_option maxHeartbeats 4000000
namespace Go.Proofs.YtncckdaflellnaaGreat.Res
open Go.RowKit Go.Lib Utf Nam Lat Kin Unp Rel Lab
theorem fine19_calls(s:Sc)(gs:GoodS s)(lv ov tv nv pv:Value)(w:World)(rd:RdSc w s lv ov tv nv pv)(R:Ending→World→Prop)
  (hR:Hid (∀W (b:Bool),(b=true→OkR s∧s.1.length≤100∧s.2.1.length≤400∧s.2.2.1.length≤100)→Below w.heap.size w W→R (.returned (.bool b)) W)):Calls Tryz.prog 28 #[scV s lv ov tv nv pv] w R:=by
 have rd0:=rd;obtain⟨A1,c1,rfl,-,-⟩:=rd.l.op;obtain⟨A2,c2,rfl,-,-⟩:=Unp.RdPr.op rd.o;obtain⟨A3,c3,rfl,-,hel⟩:=nds_el rd.t;obtain⟨N1,N3,rfl,-,-⟩:=rd.r.n.op;obtain⟨M1,M3,rfl,-⟩:=rd.r.p.sl;have n:=F0.z w;obtain⟨V,e1,n,z1⟩:=n.new (.cells [.slice A1 s.1.length c1,.slice A2 s.2.1.length c2,.slice A3 s.2.2.1.length c3,.int .i64 s.2.2.2.1.kind,.int .i64 s.2.2.2.1.at_,.int .i64 s.2.2.2.1.lo,.int .i64 s.2.2.2.1.hi,.int .i64 s.2.2.2.1.most,.slice N1 s.2.2.2.1.names.length N3,.slice M1 s.2.2.2.2.len M3,.string s.2.2.2.1.name,.int .i64 s.2.2.2.1.nat].toArray 31);have rS:=n.rg 0 rfl;have cG:=Lib.hid fun R hR=>refgreat_calls s gs _ _ _ _ _ V (rd0.below (F0.bel n)) R hR
 replace rd0:=Lib.hid rd0;clear z1 rd hel;go_enter Tryz.func28,Tryz.ntmps28
 go_upto_region 1 with fail
 clear e1;go_wp2_with (refine wpList_load_g (by rfl) 31 _ rfl w.heap.size 0 rfl _ _ rS Tryz.underlying31 rfl (by kernel_rfl) ?_;go_simp)
 refine cG.out _ (Lib.hid fun W1 y m1 hy=>?_);clear cG rS;replace n:=n.bl m1;clear m1;cases y with
 | true =>
  have fin:=Lib.hid (hR.out W1 false (fun h=>by cases h) (F0.bel n));clear hR n hy;go_wp2_with fail
  exact fin.out
 | false =>
  obtain⟨b1,b2,b3⟩:=hy rfl;have rS:=n.rg 0 rfl;have cW:=Lib.hid fun R hR=>refwrong18_calls s gs (by omega) (by omega) (by omega) _ _ _ _ _ W1 (rd0.out.below (F0.bel n)) R hR
  go_wp2_with (refine wpList_load_g (by rfl) 31 _ rfl w.heap.size 0 rfl _ _ rS Tryz.underlying31 rfl (by kernel_rfl) ?_;go_simp)
  refine cW.out _ (Lib.hid fun W2 q hq m2=>?_);clear cW rS;replace n:=n.bl m2;obtain⟨q0,q1⟩:=q
  by_cases c0:q0=0
  ·subst c0
   obtain⟨h1,ok⟩:=hq rfl;simp only at h1;subst h1;have fin:=Lib.hid (hR.out W2 true (fun _=>⟨ok,b1,b2,b3⟩) (F0.bel n));clear hR n hq ok m2;go_wp2_with fail
   exact fin.out
  ·have t0:(q0==0)=false:=by simpa using c0
   have fin:=Lib.hid (hR.out W2 false (fun h=>by cases h) (F0.bel n));clear hR n hq m2;go_wp2_with fail
   exact fin.out
end Go.Proofs.YtncckdaflellnaaGreat.Res
