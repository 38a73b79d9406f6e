import Derived.Test.YtabhkakomececaaGreatQ19
set_option linter.all false
set_option maxRecDepth 100000
set_option maxHeartbeats 4000000
namespace Go.Proofs.YtabhkakomececaaGreat.Kin
open Go.RowKit Go.Lib Utf Nam Lat
theorem set2k{b q:Nat}{w W:World}(hq:b≤q)(n:Below b w W)(a0 a1:Value):Below b w ((W.setCell ⟨q,0,none⟩ a0).setCell ⟨q,1,none⟩ a1):=(n.setCell (p:=⟨q,0,none⟩) hq a0).setCell (p:=⟨q,1,none⟩) hq a1
theorem coarse15_calls(p:PH)(x:TH)(lv cv nx px:Value)(w:World)(hcl:RdW w cv p.cl)(hlv:RdW w lv p.label)(hnx:∃A n k,nx=.slice A n k)(hpx:∃A n k,px=.slice A n k)(hg:∀y∈p.cl,GoodW y)(R:Ending→World→Prop)
  (hR:Hid (∀w',Below w.heap.size w w'→R (.returned (.agg #[.int .i64 (coarseS p).1,.int .i64 (coarseS p).2])) w')):Calls Tryz.prog 237 #[ptV p lv cv x nx px] w R:=by
 obtain⟨A1,n1,rfl,-,-⟩:=hlv.op;obtain⟨A2,n2,rfl,-,-⟩:=hcl.op;obtain⟨A3,n3,k3,rfl⟩:=hnx;obtain⟨A4,n4,k4,rfl⟩:=hpx;have b1:=(Below.refl w.heap.size w).alloc (Nat.le_refl _) (.cells (ptL p (.slice A1 p.label.length n1) (.slice A2 p.cl.length n2) x (.slice A3 n3 k3) (.slice A4 n4 k4)).toArray 127);have b2:=b1.alloc b1.size (.cells #[.int .i64 0,.int .i64 0] 26);have b3:=b2.alloc b2.size (.cells #[.int .i64 p.ck,.int .i64 p.cn,.int .i64 p.cat,.slice A2 p.cl.length n2] 125);have z1:(w.alloc (.cells (ptL p (.slice A1 p.label.length n1) (.slice A2 p.cl.length n2) x (.slice A3 n3 k3) (.slice A4 n4 k4)).toArray 127)).heap.size=w.heap.size+1:=by simp
 have z2:((w.alloc (.cells (ptL p (.slice A1 p.label.length n1) (.slice A2 p.cl.length n2) x (.slice A3 n3 k3) (.slice A4 n4 k4)).toArray 127)).alloc (.cells #[.int .i64 0,.int .i64 0] 26)).heap.size=w.heap.size+2:=by simp
 have z3:(((w.alloc (.cells (ptL p (.slice A1 p.label.length n1) (.slice A2 p.cl.length n2) x (.slice A3 n3 k3) (.slice A4 n4 k4)).toArray 127)).alloc (.cells #[.int .i64 0,.int .i64 0] 26)).alloc (.cells #[.int .i64 p.ck,.int .i64 p.cn,.int .i64 p.cat,.slice A2 p.cl.length n2] 125)).heap.size=w.heap.size+3:=by simp
 have g0:=(((Below.refl _ _).alloc (Nat.le_refl _) (.cells #[.int .i64 p.ck,.int .i64 p.cn,.int .i64 p.cat,.slice A2 p.cl.length n2] 125)).block w.heap.size (by omega)).trans ((((Below.refl _ _).alloc (Nat.le_refl _) (.cells #[.int .i64 0,.int .i64 0] 26)).block w.heap.size (by omega)).trans (heap_alloc_new w (.cells (ptL p (.slice A1 p.label.length n1) (.slice A2 p.cl.length n2) x (.slice A3 n3 k3) (.slice A4 n4 k4)).toArray 127)));have g1:=(((Below.refl _ _).alloc (Nat.le_refl _) (.cells #[.int .i64 p.ck,.int .i64 p.cn,.int .i64 p.cat,.slice A2 p.cl.length n2] 125)).block (w.heap.size+1) (by omega)).trans (z1▸heap_alloc_new (w.alloc (.cells (ptL p (.slice A1 p.label.length n1) (.slice A2 p.cl.length n2) x (.slice A3 n3 k3) (.slice A4 n4 k4)).toArray 127)) (.cells #[.int .i64 0,.int .i64 0] 26));have g2:=z2▸heap_alloc_new ((w.alloc (.cells (ptL p (.slice A1 p.label.length n1) (.slice A2 p.cl.length n2) x (.slice A3 n3 k3) (.slice A4 n4 k4)).toArray 127)).alloc (.cells #[.int .i64 0,.int .i64 0] 26)) (.cells #[.int .i64 p.ck,.int .i64 p.cn,.int .i64 p.cat,.slice A2 p.cl.length n2] 125);have cL:=Lib.hid fun(W:World) (b:Below w.heap.size w W) R hR=>label15_calls p.cl hg (.slice A2 p.cl.length n2) W (hcl.below b) R hR
 go_enter Tryz.func237,Tryz.ntmps237
 go_upto_region 2 with fail
 clear z1 z2 z3 b1 b2;generalize((w.alloc (.cells (ptL p (.slice A1 p.label.length n1) (.slice A2 p.cl.length n2) x (.slice A3 n3 k3) (.slice A4 n4 k4)).toArray 127)).alloc (.cells #[.int .i64 0,.int .i64 0] 26)).alloc (.cells #[.int .i64 p.ck,.int .i64 p.cn,.int .i64 p.cat,.slice A2 p.cl.length n2] 125)=W3 at *;have a1:=(Lib.cell_of_heap g0 1).trans rfl;have m0:=(Lib.cell_of_heap g1 0).trans rfl;have m1:=(Lib.cell_of_heap g1 1).trans rfl;have f0:=Lib.frozen_of_heap g1 0;have f1:=Lib.frozen_of_heap g1 1;have c0:=(Lib.cell_of_heap g2 0).trans rfl;have c1:=(Lib.cell_of_heap g2 1).trans rfl;have c2:=(Lib.cell_of_heap g2 2).trans rfl;have c3:=(Lib.cell_of_heap g2 3).trans rfl;have hB1:=(Array.getElem?_eq_some_iff.1 g1).1;clear g0 g1 g2
 by_cases h0:p.ck=0
 ·rw [h0]at c0
  by_cases h1:p.cn=0
  ·by_cases h2:p.cl=[]
   ·rw [h1]at c1
    have hl:p.cl.length=0:=by rw [h2];rfl
    have ql:((p.cl.length:Int) != 0)=false:=by simp [hl]
    have hq:coarseS p=(0,0):=by
     unfold coarseS;rw [if_pos h0,if_neg (by rintro(q|q);exact q h1;exact q h2)]
    have fin:=Lib.hid (hR.out _ (set2k (q:=w.heap.size+1) (Nat.le_succ _) b3 (.int .i64 (0)) (.int .i64 (0))));rw [hq]at fin;clear hR b3 cL hq;go_wp2_with fail
    refine bodyPost_ret ?_ rfl fin.out;simp [results,Tryz.results237,go_sem,m0,m1]
   ·rw [h1]at c1
    have ql:((p.cl.length:Int) != 0)=true:=by simpa using h2
    have hq:coarseS p=(19,p.at_):=by
     unfold coarseS;rw [if_pos h0,if_pos (.inr h2)]
    have fin:=Lib.hid (hR.out _ (set2k (q:=w.heap.size+1) (Nat.le_succ _) b3 (.int .i64 (19)) (.int .i64 (p.at_))));rw [hq]at fin;clear hR b3 cL hq;go_wp2_with fail
    refine bodyPost_ret ?_ rfl fin.out;simp [results,Tryz.results237,go_sem,m0,m1]
  ·have q1:(p.cn != 0)=true:=by simpa using h1
   have hq:coarseS p=(19,p.at_):=by
    unfold coarseS;rw [if_pos h0,if_pos (.inl h1)]
   have fin:=Lib.hid (hR.out _ (set2k (q:=w.heap.size+1) (Nat.le_succ _) b3 (.int .i64 (19)) (.int .i64 (p.at_))));rw [hq]at fin;clear hR b3 cL hq;go_wp2_with fail
   refine bodyPost_ret ?_ rfl fin.out;simp [results,Tryz.results237,go_sem,m0,m1]
 ·have q0:(p.ck==0)=false:=by simpa using h0
  by_cases h1:p.ck<0
  ·skip
   have hq:coarseS p=(14,p.cat):=by
    unfold coarseS;rw [if_neg h0,if_pos (.inl h1)]
   have fin:=Lib.hid (hR.out _ (set2k (q:=w.heap.size+1) (Nat.le_succ _) b3 (.int .i64 (14)) (.int .i64 (p.cat))));rw [hq]at fin;clear hR b3 cL hq;go_wp2_with fail
   refine bodyPost_ret ?_ rfl fin.out;simp [results,Tryz.results237,go_sem,m0,m1]
  ·by_cases h2:3<p.ck
   ·skip
    have hq:coarseS p=(14,p.cat):=by
     unfold coarseS;rw [if_neg h0,if_pos (.inr h2)]
    have fin:=Lib.hid (hR.out _ (set2k (q:=w.heap.size+1) (Nat.le_succ _) b3 (.int .i64 (14)) (.int .i64 (p.cat))));rw [hq]at fin;clear hR b3 cL hq;go_wp2_with fail
    refine bodyPost_ret ?_ rfl fin.out;simp [results,Tryz.results237,go_sem,m0,m1]
   ·obtain h3|h3|h3:p.ck=1∨p.ck=2∨p.ck=3:=by omega
    ·rw [h3]at c0
     clear q0
     by_cases h4:p.cn<1
     ·skip
      have hq:coarseS p=(20,p.cat):=by
       unfold coarseS;rw [if_neg h0,if_neg (by rintro(q|q);exact h1 q;exact h2 q),if_pos (.inl ⟨h3,h4⟩)]
      have fin:=Lib.hid (hR.out _ (set2k (q:=w.heap.size+1) (Nat.le_succ _) b3 (.int .i64 (20)) (.int .i64 (p.cat))));rw [hq]at fin;clear hR b3 cL hq;go_wp2_with fail
      refine bodyPost_ret ?_ rfl fin.out;simp [results,Tryz.results237,go_sem,m0,m1]
     ·skip
      have hq:coarseS p=labelS p.cl:=by
       unfold coarseS;rw [if_neg h0,if_neg (by rintro(q|q);exact h1 q;exact h2 q),if_neg (by rintro(q|q|q)<;>omega)]
      rw [hq]at hR;have cL1:=Lib.hid fun R hR=>cL.out W3 b3 R hR
      clear hq cL;go_wp2_with fail
      refine cL1.out _ (Lib.hid fun w4 n4'=>?_);have m0':=(n4'.cell (p:=⟨w.heap.size+1,0,none⟩) hB1).trans m0;have m1':=(n4'.cell (p:=⟨w.heap.size+1,1,none⟩) hB1).trans m1;have f0':=(n4'.frozen (p:=⟨w.heap.size+1,0,none⟩) hB1).trans f0;have f1':=(n4'.frozen (p:=⟨w.heap.size+1,1,none⟩) hB1).trans f1;have fin:=Lib.hid (hR.out _ (set2k (q:=w.heap.size+1) (Nat.le_succ _) (b3.trans (n4'.mono b3.size)) (.int .i64 (labelS p.cl).1) (.int .i64 (labelS p.cl).2)));clear hR b3 cL1 n4' m0 m1 f0 f1;go_wp2_with fail
      refine bodyPost_ret ?_ rfl fin.out;simp [results,Tryz.results237,go_sem,m0',m1']
    ·rw [h3]at c0
     clear q0
     by_cases h4:p.cn<0
     ·skip
      have hq:coarseS p=(20,p.cat):=by
       unfold coarseS;rw [if_neg h0,if_neg (by rintro(q|q);exact h1 q;exact h2 q),if_pos (.inr (.inl ⟨h3,.inl h4⟩))]
      have fin:=Lib.hid (hR.out _ (set2k (q:=w.heap.size+1) (Nat.le_succ _) b3 (.int .i64 (20)) (.int .i64 (p.cat))));rw [hq]at fin;clear hR b3 cL hq;go_wp2_with fail
      refine bodyPost_ret ?_ rfl fin.out;simp [results,Tryz.results237,go_sem,m0,m1]
     ·by_cases h5:4096<p.cn
      ·skip
       have hq:coarseS p=(20,p.cat):=by
        unfold coarseS;rw [if_neg h0,if_neg (by rintro(q|q);exact h1 q;exact h2 q),if_pos (.inr (.inl ⟨h3,.inr h5⟩))]
       have fin:=Lib.hid (hR.out _ (set2k (q:=w.heap.size+1) (Nat.le_succ _) b3 (.int .i64 (20)) (.int .i64 (p.cat))));rw [hq]at fin;clear hR b3 cL hq;go_wp2_with fail
       refine bodyPost_ret ?_ rfl fin.out;simp [results,Tryz.results237,go_sem,m0,m1]
      ·skip
       have hq:coarseS p=labelS p.cl:=by
        unfold coarseS;rw [if_neg h0,if_neg (by rintro(q|q);exact h1 q;exact h2 q),if_neg (by rintro(q|q|q)<;>omega)]
       rw [hq]at hR;have cL1:=Lib.hid fun R hR=>cL.out W3 b3 R hR
       clear hq cL;go_wp2_with fail
       refine cL1.out _ (Lib.hid fun w4 n4'=>?_);have m0':=(n4'.cell (p:=⟨w.heap.size+1,0,none⟩) hB1).trans m0;have m1':=(n4'.cell (p:=⟨w.heap.size+1,1,none⟩) hB1).trans m1;have f0':=(n4'.frozen (p:=⟨w.heap.size+1,0,none⟩) hB1).trans f0;have f1':=(n4'.frozen (p:=⟨w.heap.size+1,1,none⟩) hB1).trans f1;have fin:=Lib.hid (hR.out _ (set2k (q:=w.heap.size+1) (Nat.le_succ _) (b3.trans (n4'.mono b3.size)) (.int .i64 (labelS p.cl).1) (.int .i64 (labelS p.cl).2)));clear hR b3 cL1 n4' m0 m1 f0 f1;go_wp2_with fail
       refine bodyPost_ret ?_ rfl fin.out;simp [results,Tryz.results237,go_sem,m0',m1']
    ·rw [h3]at c0
     clear q0
     by_cases h4:p.cn=0
     ·rw [h4]at c1
      have hq:coarseS p=labelS p.cl:=by
       unfold coarseS;rw [if_neg h0,if_neg (by rintro(q|q);exact h1 q;exact h2 q),if_neg (by rintro(q|q|q)<;>omega)]
      rw [hq]at hR;have cL1:=Lib.hid fun R hR=>cL.out W3 b3 R hR
      clear hq cL;go_wp2_with fail
      refine cL1.out _ (Lib.hid fun w4 n4'=>?_);have m0':=(n4'.cell (p:=⟨w.heap.size+1,0,none⟩) hB1).trans m0;have m1':=(n4'.cell (p:=⟨w.heap.size+1,1,none⟩) hB1).trans m1;have f0':=(n4'.frozen (p:=⟨w.heap.size+1,0,none⟩) hB1).trans f0;have f1':=(n4'.frozen (p:=⟨w.heap.size+1,1,none⟩) hB1).trans f1;have fin:=Lib.hid (hR.out _ (set2k (q:=w.heap.size+1) (Nat.le_succ _) (b3.trans (n4'.mono b3.size)) (.int .i64 (labelS p.cl).1) (.int .i64 (labelS p.cl).2)));clear hR b3 cL1 n4' m0 m1 f0 f1;go_wp2_with fail
      refine bodyPost_ret ?_ rfl fin.out;simp [results,Tryz.results237,go_sem,m0',m1']
     ·have q4:(p.cn != 0)=true:=by simpa using h4
      have hq:coarseS p=(20,p.cat):=by
       unfold coarseS;rw [if_neg h0,if_neg (by rintro(q|q);exact h1 q;exact h2 q),if_pos (.inr (.inr ⟨h3,h4⟩))]
      have fin:=Lib.hid (hR.out _ (set2k (q:=w.heap.size+1) (Nat.le_succ _) b3 (.int .i64 (20)) (.int .i64 (p.cat))));rw [hq]at fin;clear hR b3 cL hq;go_wp2_with fail
      refine bodyPost_ret ?_ rfl fin.out;simp [results,Tryz.results237,go_sem,m0,m1]
abbrev wV(e z m:Int):Value:=.agg #[.int .i64 e,.int .i64 z,.int .i64 m]
theorem with15_calls(e z m e' z':Int)(w:World)(R:Ending→World→Prop)(hR:Hid (∀w',Below w.heap.size w w'→R (.returned (wV e' z' m)) w')):Calls Tryz.prog 165 #[wV e z m,.int .i64 e',.int .i64 z'] w R:=by
 have b1:=(Below.refl w.heap.size w).alloc (Nat.le_refl _) (.cells #[.int .i64 e,.int .i64 z,.int .i64 m] 183);have b2:=b1.alloc b1.size (.cells #[.int .i64 e',.int .i64 z',.int .i64 m] 183);have hz:(w.alloc (.cells #[.int .i64 e,.int .i64 z,.int .i64 m] 183)).heap.size=w.heap.size+1:=by simp
 have hN:=heap_alloc_new (w.alloc (.cells #[.int .i64 e,.int .i64 z,.int .i64 m] 183)) (.cells #[.int .i64 e',.int .i64 z',.int .i64 m] 183);rw [hz]at hN;have n0:=(Lib.cell_of_heap hN 0).trans rfl;have n1:=(Lib.cell_of_heap hN 1).trans rfl;have n2:=(Lib.cell_of_heap hN 2).trans rfl;have fin:=Lib.hid (hR.out _ b2);clear hR b1 b2 hN hz;go_enter Tryz.func165,Tryz.ntmps165
 go_wp2_with fail
 refine bodyPost_ret ?_ rfl fin.out;simp [results,Tryz.results165,go_sem,n0,n1,n2]
def WrongQ(f:Ft):Prop:=∀(h:TH)(nv pv:Value)(m d:Nat)(w:World),m≤512→d≤25→GoodH h→f.len≤maxLen→f.All GoodH GoodL→RdY w h f nv pv→∀R:Ending→World→Prop,
Hid (∀w',Below w.heap.size w w'→R (.returned (wV (wrB h f (wrF f) d m).1 (wrB h f (wrF f) d m).2.1 (wrB h f (wrF f) d m).2.2)) w')→Calls Tryz.prog 97 #[wV 0 0 m,tyV h nv pv,.int .i64 d] w R
structure RW(V:World)(B:Nat)(m:Nat)(h:TH)(nv pv:Value):Prop where
h0:V.heap[B]?=some (.cells #[.int .i64 0,.int .i64 0,.int .i64 m] 183)
h1:TB V (B+1) h nv pv
h2:V.heap[B+2]?=some (.cells #[.int .i64 0,.int .i64 0,.int .i64 0] 183)
theorem RW.below{V V':World}{B m:Nat}{h:TH}{nv pv:Value}(q:RW V B m h nv pv)(b:Below V.heap.size V V'):RW V' B m h nv pv:=⟨(b.block _ (blt_of q.h0)).trans q.h0,q.h1.below b,(b.block _ (blt_of q.h2)).trans q.h2⟩
theorem set3k{b q:Nat}{w W:World}(hq:b≤q)(n:Below b w W)(a0 a1 a2:Value):Below b w (((W.setCell ⟨q,0,none⟩ a0).setCell ⟨q,1,none⟩ a1).setCell ⟨q,2,none⟩ a2):=((n.setCell (p:=⟨q,0,none⟩) hq a0).setCell (p:=⟨q,1,none⟩) hq a1).setCell (p:=⟨q,2,none⟩) hq a2
theorem TB.base{w w':World}{B b:Nat}{h:TH}{nv pv:Value}(q:TB w B h nv pv)(hb:Below b w w')(hB:B<b):TB w' B h nv pv:=by
 have k:=fun j=>hb.cell (p:=⟨B,j,none⟩) hB
 exact⟨Nat.lt_of_lt_of_le q.lt hb.size,(k 0).trans q.k0,(k 1).trans q.k1,(k 2).trans q.k2,(k 3).trans q.k3,(k 4).trans q.k4,(k 5).trans q.k5,(k 6).trans q.k6,(k 7).trans q.k7,(k 8).trans q.k8⟩
theorem RW.base{V V':World}{B m b:Nat}{h:TH}{nv pv:Value}(q:RW V B m h nv pv)(hb:Below b V V')(hB:B+2<b):RW V' B m h nv pv:=⟨(hb.block _ (by omega)).trans q.h0,q.h1.base hb (by omega),(hb.block _ hB).trans q.h2⟩
theorem TB.sets{w:World}{B q:Nat}{h:TH}{nv pv:Value}(t:TB w B h nv pv)(hq:B≠q)(a b c:Value):TB (((w.setCell ⟨q,0,none⟩ a).setCell ⟨q,1,none⟩ b).setCell ⟨q,2,none⟩ c) B h nv pv:=by
 have e:(((w.setCell ⟨q,0,none⟩ a).setCell ⟨q,1,none⟩ b).setCell ⟨q,2,none⟩ c).heap[B]?=w.heap[B]?:=(set_neK hq).trans ((set_neK hq).trans (set_neK hq));have k:=fun j=>World.cell?_of_block (a:=⟨B,j,none⟩) e
 exact⟨by simp [World.setCell];exact t.lt,(k 0).trans t.k0,(k 1).trans t.k1,(k 2).trans t.k2,(k 3).trans t.k3,(k 4).trans t.k4,(k 5).trans t.k5,(k 6).trans t.k6,(k 7).trans t.k7,(k 8).trans t.k8⟩
theorem parts15_calls7(f:Ft)(ih:Fo.AllK WrongQ f)(h:TH)(nv pv:Value)(m d:Nat)(w:World)(hm:m≤512)(hd:d≤24)(hk:h.kind=7)(gh:GoodH h)(hfl:f.len≤maxLen)(hga:f.All GoodH GoodL)(hy:RdY w h f nv pv)(R:Ending→World→Prop)
  (hR:Hid (∀w',Below w.heap.size w w'→R (.returned (wV (partS h f d m).1 (partS h f d m).2.1 (partS h f d m).2.2)) w')):Calls Tryz.prog 169 #[wV 0 0 m,tyV h nv pv,.int .i64 d] w R:=by
 replace hfl:f.len≤9223372036854775807:=hfl;obtain⟨Ap,cp,rfl,hpl⟩:=hy.p.sl;obtain⟨An,cn,rfl,-,-⟩:=hy.n.op;have b1:=(Below.refl w.heap.size w).alloc (Nat.le_refl _) (.cells #[.int .i64 0,.int .i64 0,.int .i64 m] 183);have b2:=b1.alloc b1.size (.cells (tyL h (.slice An h.names.length cn) (.slice Ap f.len cp)).toArray 36);have b3:=b2.alloc b2.size (.cells #[.int .i64 0,.int .i64 0,.int .i64 0] 183);have z1:(w.alloc (.cells #[.int .i64 0,.int .i64 0,.int .i64 m] 183)).heap.size=w.heap.size+1:=by simp
 have z2:((w.alloc (.cells #[.int .i64 0,.int .i64 0,.int .i64 m] 183)).alloc (.cells (tyL h (.slice An h.names.length cn) (.slice Ap f.len cp)).toArray 36)).heap.size=w.heap.size+2:=by simp
 have g0:=(((Below.refl _ _).alloc (Nat.le_refl _) (.cells #[.int .i64 0,.int .i64 0,.int .i64 0] 183)).block w.heap.size (by omega)).trans ((((Below.refl _ _).alloc (Nat.le_refl _) (.cells (tyL h (.slice An h.names.length cn) (.slice Ap f.len cp)).toArray 36)).block w.heap.size (by omega)).trans (heap_alloc_new w (.cells #[.int .i64 0,.int .i64 0,.int .i64 m] 183)));have g1:=(TB.new (w.alloc (.cells #[.int .i64 0,.int .i64 0,.int .i64 m] 183)) h (.slice An h.names.length cn) (.slice Ap f.len cp) 36).below ((Below.refl _ _).alloc (Nat.le_refl _) (.cells #[.int .i64 0,.int .i64 0,.int .i64 0] 183));have g2:=heap_alloc_new ((w.alloc (.cells #[.int .i64 0,.int .i64 0,.int .i64 m] 183)).alloc (.cells (tyL h (.slice An h.names.length cn) (.slice Ap f.len cp)).toArray 36)) (.cells #[.int .i64 0,.int .i64 0,.int .i64 0] 183);rw [z1]at g1;rw [z2]at g2;have rw0:RW (((w.alloc (.cells #[.int .i64 0,.int .i64 0,.int .i64 m] 183)).alloc (.cells (tyL h (.slice An h.names.length cn) (.slice Ap f.len cp)).toArray 36)).alloc (.cells #[.int .i64 0,.int .i64 0,.int .i64 0] 183)) w.heap.size m h (.slice An h.names.length cn) (.slice Ap f.len cp):=⟨g0,g1,g2⟩;have hyw:=Lib.hid hy;replace hga:=Lib.hid hga;replace ih:=Lib.hid ih;replace hk:=Lib.hid hk;clear g0 g1 g2 z1 z2 b1 b2 hy;go_enter Tryz.func169,Tryz.ntmps169
 go_upto_region 1 with fail
 generalize((w.alloc (.cells #[.int .i64 0,.int .i64 0,.int .i64 m] 183)).alloc (.cells (tyL h (.slice An h.names.length cn) (.slice Ap f.len cp)).toArray 36)).alloc (.cells #[.int .i64 0,.int .i64 0,.int .i64 0] 183)=W3 at *;obtain⟨-,t0,t1,-,-,-,-,t6,-,-⟩:=rw0.h1;have k0:=(Lib.cell_of_heap rw0.h0 0).trans rfl;have k1:=(Lib.cell_of_heap rw0.h0 1).trans rfl;have k2:=(Lib.cell_of_heap rw0.h0 2).trans rfl;have nW:=Lib.hid b3;clear b3;have c8:¬(h.kind=8∧f.len=0):=by have:=hk.out;omega
 ·have hp:partS h f d m=if 64<f.len then(8,(wN (pnm f) 64).2,m)else wrF f (.parts h.kind (nms (pnm f)) 0) (d+1) m:=if_neg c8
  by_cases c64:64<f.len
  ·rw [if_pos c64]at hp
   obtain⟨p,x,kd,r,e⟩:=Fo.drop_lt c64;obtain⟨g,o,lv,cv,nx,px,rfl,hg,-,-,-,hc⟩:=(hyw.out).p.part e;have c1:=(nW.out.cell (p:=⟨g,o+64*18+1,none⟩) hg).trans (hc 1 _ rfl);rw [pnm_at 64 e]at hp;have i1:(64:Int)<(f.len:Int):=by omega
   rw [hk.out]at t0;clear hc;go_wp2_with fail
   have l0:=blt_of rw0.h0;have l1:=rw0.h1.lt;have hgW:g<W3.heap.size:=by omega
   have jr:∀y:GW W3 (w.heap.size+2) (w.heap.size+2),y.w.rangeAt w.heap.size 0 [.int .i64 0,.int .i64 0,.int .i64 m]:=fun y j v h=>by rw [Nat.zero_add,Lib.cell_of_heap ((y.b _ l0 (by omega) (by omega)).trans rw0.h0)];simpa using h
   have j6:=fun y:GW W3 (w.heap.size+2) (w.heap.size+2)=>y.cell (by omega) (by omega) (by omega) t6
   have jc:=fun y:GW W3 (w.heap.size+2) (w.heap.size+2)=>y.cell (by omega) (by omega) (by omega) c1
   clear k0 k1 k2 t0 t1 t6 c1;refine wp_region_mixG (w.heap.size+2) (w.heap.size+2) [([0,1,2,3,4,5,6],7),([],8)] [] (by kernel_rfl) (by kernel_rfl) (by kernel_rfl) (by kernel_rfl) (fun _ _ d _ _ h=>by cases d<;>exact h) ?_
   have gW:Below W3.heap.size W3 (W3.drewN 1):=⟨rfl,rfl,rfl,Nat.le_refl _,fun _ _=>rfl⟩;refine mix_cons (os:=[_,_,_,_,_,_,_]) (by simp only[pickO,List.filterMap_cons,List.filterMap_nil,List.getElem?_toArray,List.getElem?_cons_succ,List.getElem?_cons_zero];rfl) (fun Kp hKp=>?_)
   refine wpQuiet_load rfl _ _ rfl w.heap.size 0 rfl [.int .i64 0,.int .i64 0,.int .i64 m] _ (by rintro V ⟨y,rfl⟩;exact jr y) Tryz.underlying183 rfl (by kernel_rfl) ?_
   go_simp
   repeat (go_big_quiet_step (exact rfl))
   refine wpQuiet_nil ?_;refine hKp _ ?_;clear hKp;refine loud (by rfl) (by kernel_rfl) (fun K1 hK1=>?_);go_simp;refine with15_calls 0 0 m 8 p.at_ _ _ (Lib.hid fun wL nL=>?_);have gL:=gW.trans (nL.mono gW.size);refine hK1 _ _ (GW.bl gL) ?_;clear hK1;refine mix_cons (os:=[]) (by rfl) (fun Kp hKp=>?_);refine wpQuiet_nil ?_;refine hKp _ ?_;clear hKp;refine loud (by rfl) (by kernel_rfl) (fun K2 hK2=>?_);have rwL:=rw0.below gL;have y0:=(Lib.cell_of_heap rwL.h2 0).trans rfl;have yf0:=Lib.frozen_of_heap rwL.h2 0;have y1:=(Lib.cell_of_heap rwL.h2 1).trans rfl;have yf1:=Lib.frozen_of_heap rwL.h2 1;have y2:=(Lib.cell_of_heap rwL.h2 2).trans rfl;have yf2:=Lib.frozen_of_heap rwL.h2 2;go_simp;refine hK2 _ _ (GW.set (GW.set (GW.set (GW.bl gL) _) _) _) ?_;clear hK2;refine mix_nil (os:=[]) (by rfl) (fun Kp hKp=>?_);refine wpQuiet_nil ?_;refine hKp _ ?_;clear hKp;have fin:=Lib.hid (hR.out _ (set3k (q:=w.heap.size+2) (by omega) (nW.out.trans (gL.mono nW.out.size)) (.int .i64 8) (.int .i64 p.at_) (.int .i64 (m:Nat))));rw [hp]at fin;clear hR;go_wp2_with fail
   refine bodyPost_ret ?_ rfl fin.out;simp [results,Tryz.results169,go_sem,y0,y1,y2]
  ·rw [if_neg c64]at hp
   rw [hk.out]at t0;go_wp2_with fail
   go_loopg [7] f.len (fun g0 i wr=>∃(I c:Nat),i=.int .i64 I∧I+g0=f.len∧c≤512∧Hid (Below w.heap.size w wr)∧Hid (RW wr w.heap.size c h (.slice An h.names.length cn) (.slice Ap f.len cp))∧partS h f d m=wrF (f.drop I) (.parts h.kind (nms (pnm f)) I) (d+1) c)
   case atStart=>exact⟨0,m,rfl,by omega,hm,nW,Lib.hid rw0,hp⟩
   case round =>
    clear nW rw0 t0 t1 t6 k0 k1 k2 hp;obtain⟨I,c,rfl,e1,hc5,nb,rw1,e2⟩:=hrel;obtain⟨-,t0,t1,-,-,-,-,t6,-,-⟩:=rw1.out.h1;rw [hk.out]at t0
    by_cases hI:I<f.len
    ·obtain⟨p,x,kd,r,e⟩:=Fo.drop_lt hI
     obtain⟨g,o,lv,cv,nx,px,rfl,hg,hlv,hcv,hyx,hc⟩:=(hyw.out).p.part e;obtain⟨A1,n1,rfl,-,-⟩:=hlv.op;obtain⟨A2,n2,rfl,-,-⟩:=hcv.op;obtain⟨A5,n5,rfl,-,-⟩:=hyx.n.op;obtain⟨A7,n7,rfl,hk7⟩:=hyx.p.sl;obtain⟨gp,gx,gk',ga2⟩:=all_at I hga.out e;have ihK:=Lib.hid ((ih.out).at_ e);rw [e]at e2;have d1:=Fo.drop_succ I e;have i0:(0:Int)≤(I:Int):=by omega
     have i1:(I:Int)<(f.len:Int):=by omega
     have rg:wr.rangeAt g (o+I*18) [.string p.name,.int .i64 p.at_,.bool p.bare,.slice A1 p.label.length n1,.int .i64 p.wide,.int .i64 p.ck,.int .i64 p.cn,.int .i64 p.cat,.slice A2 p.cl.length n2,.int .i64 x.kind,.int .i64 x.at_,.int .i64 x.lo,.int .i64 x.hi,.int .i64 x.most,.slice A5 x.names.length n5,.slice A7 kd.len n7,.string x.name,.int .i64 x.nat]:=fun j v h=>(nb.out.cell (p:=⟨g,o+I*18+j,none⟩) hg).trans (hc j v h)
     have bP:=(Below.refl wr.heap.size wr).alloc (Nat.le_refl _) (.cells #[.string p.name,.int .i64 p.at_,.bool p.bare,.slice A1 p.label.length n1,.int .i64 p.wide,.int .i64 p.ck,.int .i64 p.cn,.int .i64 p.cat,.slice A2 p.cl.length n2,.int .i64 x.kind,.int .i64 x.at_,.int .i64 x.lo,.int .i64 x.hi,.int .i64 x.most,.slice A5 x.names.length n5,.slice A7 kd.len n7,.string x.name,.int .i64 x.nat] 127);have hb:=heap_alloc_new wr (.cells #[.string p.name,.int .i64 p.at_,.bool p.bare,.slice A1 p.label.length n1,.int .i64 p.wide,.int .i64 p.ck,.int .i64 p.cn,.int .i64 p.cat,.slice A2 p.cl.length n2,.int .i64 x.kind,.int .i64 x.at_,.int .i64 x.lo,.int .i64 x.hi,.int .i64 x.most,.slice A5 x.names.length n5,.slice A7 kd.len n7,.string x.name,.int .i64 x.nat] 127);have hIl:I<(pnm f).length:=by rw [pnm_len];exact hI
     have gnm:∀y∈pnm f,GoodW y:=good_pnm hga.out;go_upto_region 9 with(first|(refine wpList_load_g (by rfl) _ _ rfl g (o+I*18) rfl [.string p.name,.int .i64 p.at_,.bool p.bare,.slice A1 p.label.length n1,.int .i64 p.wide,.int .i64 p.ck,.int .i64 p.cn,.int .i64 p.cat,.slice A2 p.cl.length n2,.int .i64 x.kind,.int .i64 x.at_,.int .i64 x.lo,.int .i64 x.hi,.int .i64 x.most,.slice A5 x.names.length n5,.slice A7 kd.len n7,.string x.name,.int .i64 x.nat] _ rg Tryz.underlying127 rfl (by kernel_rfl) ?_;go_simp)|(refine wpList_copy #[.string p.name,.int .i64 p.at_,.bool p.bare,.slice A1 p.label.length n1,.int .i64 p.wide,.int .i64 p.ck,.int .i64 p.cn,.int .i64 p.cat,.slice A2 p.cl.length n2,.int .i64 x.kind,.int .i64 x.at_,.int .i64 x.lo,.int .i64 x.hi,.int .i64 x.most,.slice A5 x.names.length n5,.slice A7 kd.len n7,.string x.name,.int .i64 x.nat] ⟨rfl,rfl,rfl⟩ ⟨rfl,rfl,rfl⟩ part_alloc (by kernel_rfl) ⟨rfl,by simp [Value.oneCell']⟩ (fun _=>⟨rfl,rfl⟩) ?_;go_simp))
     have nbV:=Lib.hid (nb.out.trans (bP.mono nb.out.size));have rwV:=Lib.hid (rw1.out.below bP);generalize wr.alloc (.cells #[.string p.name,.int .i64 p.at_,.bool p.bare,.slice A1 p.label.length n1,.int .i64 p.wide,.int .i64 p.ck,.int .i64 p.cn,.int .i64 p.cat,.slice A2 p.cl.length n2,.int .i64 x.kind,.int .i64 x.at_,.int .i64 x.lo,.int .i64 x.hi,.int .i64 x.most,.slice A5 x.names.length n5,.slice A7 kd.len n7,.string x.name,.int .i64 x.nat] 127)=V at *;generalize wr.heap.size=B at *;have hbV:=Lib.hid hb;clear bP hb rg nb rw1 t0 t1 t6 hc;have t6:=rwV.out.h1.k6;have cN:=Lib.hid fun R hR=>names15_calls f (by omega) (.slice (some ⟨g,o,none⟩) f.len cp) V (hyw.out.below nbV.out).p R hR
     go_wp2_with fail
     refine cN.out _ (Lib.hid fun v4 w4 rd4 n4=>?_);have rw4:=Lib.hid ((rwV.out).below n4);have hb4:=Lib.hid ((n4.block _ (blt_of hbV.out)).trans hbV.out);have nb4:=Lib.hid (nbV.out.trans (n4.mono nbV.out.size));have cD:=Lib.hid fun R hR=>listed15_calls (pnm f) I hIl (by rw [pnm_len];unfold maxLen;omega) gnm v4 w4 rd4 R hR
     clear cN n4 rwV hbV nbV t6 rd4;go_wp2_with fail
     refine cD.out _ (Lib.hid fun w5 n5'=>?_);have n6:=n5';have rw6:=Lib.hid ((rw4.out).below n6);have hb6:=Lib.hid ((n6.block _ (blt_of hb4.out)).trans hb4.out);have nb6:=Lib.hid (nb4.out.trans (n6.mono nb4.out.size));clear cD n5' n6 rw4 hb4 nb4;have e3:=e2;unfold wrF at e3;generalize hE:listedS (nms (pnm f)) I=E at *;have k0:=(Lib.cell_of_heap (rw6.out).h0 0).trans rfl;have k1:=(Lib.cell_of_heap (rw6.out).h0 1).trans rfl;have k2:=(Lib.cell_of_heap (rw6.out).h0 2).trans rfl;have u1:=(Lib.cell_of_heap hb6.out 1).trans rfl;have u2:=(Lib.cell_of_heap hb6.out 2).trans rfl
     by_cases hE0:E=0
     ·have qE:(E != 0)=false:=by simpa using hE0
      rw [if_neg (by simpa using hE0)]at e3;clear hE0 hE;cases hbr:p.bare
      ·rw [hbr]at u2 e3
       simp only[Bool.false_eq_true,if_false]at e3;have bF:=(Below.refl w5.heap.size w5).alloc (Nat.le_refl _) (.cells #[.int .i64 0,.int .i64 0] 26);have hf:=heap_alloc_new w5 (.cells #[.int .i64 0,.int .i64 0] 26);clear k0 k1 k2 u1 u2;have u2:=(Lib.cell_of_heap hb6.out 2).trans rfl;rw [hbr]at u2;clear hbr;go_upto_region 16 with fail
       have rw7:=Lib.hid (rw6.out.below bF);have hb7:=Lib.hid ((bF.block _ (blt_of hb6.out)).trans hb6.out);have nb7:=Lib.hid (nb6.out.trans (bF.mono nb6.out.size));have hBw:=(blt_of rw6.out.h2);have hBb:=(blt_of hb6.out);generalize w5.alloc (.cells #[.int .i64 0,.int .i64 0] 26)=V7 at *;generalize w5.heap.size=BF at *;clear u2 rw6 hb6 nb6 bF;have k0:=(Lib.cell_of_heap (rw7.out).h0 0).trans rfl;have k1:=(Lib.cell_of_heap (rw7.out).h0 1).trans rfl;have k2:=(Lib.cell_of_heap (rw7.out).h0 2).trans rfl;have u1:=(Lib.cell_of_heap hb7.out 1).trans rfl;have u3:=(Lib.cell_of_heap hb7.out 3).trans rfl;have u4:=(Lib.cell_of_heap hb7.out 4).trans rfl;have y0:=(Lib.cell_of_heap rw7.out.h2 0).trans rfl;have yf0:=Lib.frozen_of_heap rw7.out.h2 0;have y1:=(Lib.cell_of_heap rw7.out.h2 1).trans rfl;have yf1:=Lib.frozen_of_heap rw7.out.h2 1;have y2:=(Lib.cell_of_heap rw7.out.h2 2).trans rfl;have yf2:=Lib.frozen_of_heap rw7.out.h2 2;have v0:=(Lib.cell_of_heap hf 0).trans rfl;have v1:=(Lib.cell_of_heap hf 1).trans rfl;have vf0:=Lib.frozen_of_heap hf 0;have vf1:=Lib.frozen_of_heap hf 1;have hF:=Lib.hid hf;have ne1:w.heap.size≠BF:=by omega
       have ne2:w.heap.size+2≠BF:=by omega
       have ne3:B≠BF:=by omega
       have hwB:w.heap.size≤BF:=by omega
       by_cases hw1:p.wide<0
       ·have hq:partS h f d m=(20,p.at_,c):=by rw [e3,if_pos (.inl hw1)]
        have fin:=Lib.hid (hR.out _ (set3k (q:=w.heap.size+2) (by omega) (set2k (q:=BF) hwB nb7.out (.int .i64 20) (.int .i64 p.at_)) (.int .i64 (20)) (.int .i64 (p.at_)) (.int .i64 (c:Nat))));rw [hq]at fin;clear hR;go_wp2_with fail
        refine bodyPost_ret ?_ rfl fin.out;simp [results,Tryz.results169,go_sem,y0,y1,y2]
       ·by_cases hw2:64<p.wide
        ·have hq:partS h f d m=(20,p.at_,c):=by rw [e3,if_pos (.inr hw2)]
         have fin:=Lib.hid (hR.out _ (set3k (q:=w.heap.size+2) (by omega) (set2k (q:=BF) hwB nb7.out (.int .i64 20) (.int .i64 p.at_)) (.int .i64 (20)) (.int .i64 (p.at_)) (.int .i64 (c:Nat))));rw [hq]at fin;clear hR;go_wp2_with fail
         refine bodyPost_ret ?_ rfl fin.out;simp [results,Tryz.results169,go_sem,y0,y1,y2]
        ·rw [if_neg (by rintro(q|q);exact hw1 q;exact hw2 q)]at e3
         have cL:=Lib.hid fun R hR=>label15_calls p.label gp.2.2.1 (.slice A1 p.label.length n1) V7 (hlv.below nb7.out) R hR
         clear hf v0 v1;have v0:=(Lib.cell_of_heap hF.out 0).trans rfl;go_wp2_with fail
         refine cL.out _ (Lib.hid fun w8 n8=>?_);have rw8:=Lib.hid ((rw7.out).below n8);have hb8:=Lib.hid ((n8.block _ (blt_of hb7.out)).trans hb7.out);have nb8:=Lib.hid (nb7.out.trans (n8.mono nb7.out.size));have hF8:=(n8.block _ (blt_of hF.out)).trans hF.out;clear v0 vf0 vf1 k0 k1 k2 u1 u3 u4 y0 y1 y2 yf0 yf1 yf2 cL n8;have v0:=(Lib.cell_of_heap hF8 0).trans rfl;have v1:=(Lib.cell_of_heap hF8 1).trans rfl;have vf0:=Lib.frozen_of_heap hF8 0;have vf1:=Lib.frozen_of_heap hF8 1;have k0:=(Lib.cell_of_heap (rw8.out).h0 0).trans rfl;have k1:=(Lib.cell_of_heap (rw8.out).h0 1).trans rfl;have k2:=(Lib.cell_of_heap (rw8.out).h0 2).trans rfl;have u1:=(Lib.cell_of_heap hb8.out 1).trans rfl;have y0:=(Lib.cell_of_heap rw8.out.h2 0).trans rfl;have yf0:=Lib.frozen_of_heap rw8.out.h2 0;have y1:=(Lib.cell_of_heap rw8.out.h2 1).trans rfl;have yf1:=Lib.frozen_of_heap rw8.out.h2 1;have y2:=(Lib.cell_of_heap rw8.out.h2 2).trans rfl;have yf2:=Lib.frozen_of_heap rw8.out.h2 2;clear rw7 hb7 nb7 hF
         by_cases hl:(labelS p.label).1=0
         ·rw [if_neg (by simpa using hl)]at e3
          have ql:((labelS p.label).1==0)=true:=by simpa using hl
          generalize(labelS p.label).2=lz at *;rw [hl];clear ql;clear k0 k1 k2 u1 y0 y1 y2 yf0 yf1 yf2;have hF9:=set_atK (set_atK hF8 0 (.int .i64 0)) 1 (.int .i64 lz);have bS:=set2k (q:=BF) (Nat.le_refl _) (Below.refl BF w8) (.int .i64 0) (.int .i64 lz);have hb9:=(bS.block B hBb).trans hb8.out;have rw9:=rw8.out.base bS hBw;have nb9:=Lib.hid (set2k (q:=BF) hwB nb8.out (.int .i64 0) (.int .i64 lz));have r0:((w8.setCell ⟨BF,0,none⟩ (.int .i64 0)).setCell ⟨BF,1,none⟩ (.int .i64 lz)).rangeAt B 0 [.string p.name,.int .i64 p.at_,.bool p.bare,.slice A1 p.label.length n1,.int .i64 p.wide,.int .i64 p.ck,.int .i64 p.cn,.int .i64 p.cat,.slice A2 p.cl.length n2,.int .i64 x.kind,.int .i64 x.at_,.int .i64 x.lo,.int .i64 x.hi,.int .i64 x.most,.slice A5 x.names.length n5,.slice A7 kd.len n7,.string x.name,.int .i64 x.nat]:=fun j v h=>by rw [Nat.zero_add,Lib.cell_of_heap hb9];simpa using h
          clear bS;go_upto_region 21 with fail
          generalize(w8.setCell ⟨BF,0,none⟩ (.int .i64 0)).setCell ⟨BF,1,none⟩ (.int .i64 lz)=V9 at *;have hF9':=Lib.hid hF9;have rw9':=Lib.hid rw9;have hb9':=Lib.hid hb9;clear v0 v1 vf0 vf1 hF8 rw8 hb8 nb8 hF9 rw9 hb9;have cC:=Lib.hid fun R hR=>coarse15_calls p x _ _ (.slice A5 x.names.length n5) (.slice A7 kd.len n7) V9 (hcv.below nb9.out) (hlv.below nb9.out) ⟨_,_,_,rfl⟩ ⟨_,_,_,rfl⟩ gp.2.2.2.2.2.2.2.1 R hR
          go_wp2_with (refine wpList_load_g (by rfl) _ _ rfl B 0 rfl [.string p.name,.int .i64 p.at_,.bool p.bare,.slice A1 p.label.length n1,.int .i64 p.wide,.int .i64 p.ck,.int .i64 p.cn,.int .i64 p.cat,.slice A2 p.cl.length n2,.int .i64 x.kind,.int .i64 x.at_,.int .i64 x.lo,.int .i64 x.hi,.int .i64 x.most,.slice A5 x.names.length n5,.slice A7 kd.len n7,.string x.name,.int .i64 x.nat] _ r0 Tryz.underlying127 rfl (by kernel_rfl) ?_;go_simp)
          refine cC.out _ (Lib.hid fun w10 n10=>?_);have rw10:=Lib.hid ((rw9'.out).below n10);have hb10:=Lib.hid ((n10.block _ (blt_of hb9'.out)).trans hb9'.out);have nb10:=Lib.hid (nb9.out.trans (n10.mono nb9.out.size));have hF10:=(n10.block _ (blt_of hF9'.out)).trans hF9'.out;clear r0 cC n10 rw9' hb9' nb9 hF9';have v0:=(Lib.cell_of_heap hF10 0).trans rfl;have v1:=(Lib.cell_of_heap hF10 1).trans rfl;have vf0:=Lib.frozen_of_heap hF10 0;have vf1:=Lib.frozen_of_heap hF10 1;have k0:=(Lib.cell_of_heap (rw10.out).h0 0).trans rfl;have k1:=(Lib.cell_of_heap (rw10.out).h0 1).trans rfl;have k2:=(Lib.cell_of_heap (rw10.out).h0 2).trans rfl;have u1:=(Lib.cell_of_heap hb10.out 1).trans rfl;have y0:=(Lib.cell_of_heap rw10.out.h2 0).trans rfl;have yf0:=Lib.frozen_of_heap rw10.out.h2 0;have y1:=(Lib.cell_of_heap rw10.out.h2 1).trans rfl;have yf1:=Lib.frozen_of_heap rw10.out.h2 1;have y2:=(Lib.cell_of_heap rw10.out.h2 2).trans rfl;have yf2:=Lib.frozen_of_heap rw10.out.h2 2
          by_cases hcs:(coarseS p).1=0
          ·rw [if_neg (by simpa using hcs)]at e3
           generalize(coarseS p).2=cz at *;rw [hcs];clear k0 k1 k2 u1 y0 y1 y2 yf0 yf1 yf2 v0 v1;have bS:=set2k (q:=BF) (Nat.le_refl _) (Below.refl BF w10) (.int .i64 0) (.int .i64 cz);have hb11:=(bS.block B hBb).trans hb10.out;have rw11:=rw10.out.base bS hBw;have nb11:=Lib.hid (set2k (q:=BF) hwB nb10.out (.int .i64 0) (.int .i64 cz));have v0:=(Lib.cell_of_heap hF10 0).trans rfl;have v1:=(Lib.cell_of_heap hF10 1).trans rfl;have r9:((w10.setCell ⟨BF,0,none⟩ (.int .i64 0)).setCell ⟨BF,1,none⟩ (.int .i64 cz)).rangeAt B 9 [.int .i64 x.kind,.int .i64 x.at_,.int .i64 x.lo,.int .i64 x.hi,.int .i64 x.most,.slice A5 x.names.length n5,.slice A7 kd.len n7,.string x.name,.int .i64 x.nat]:=fun j v h=>by rw [Lib.cell_of_heap hb11,List.getElem?_toArray,←List.getElem?_drop];exact h
           clear bS;go_upto_region 24 with fail
           generalize(w10.setCell ⟨BF,0,none⟩ (.int .i64 0)).setCell ⟨BF,1,none⟩ (.int .i64 cz)=V11 at *;clear v0 v1 vf0 vf1 hF10 rw10 hb10 nb10 hb11;have k0:=(Lib.cell_of_heap rw11.h0 0).trans rfl;have k1:=(Lib.cell_of_heap rw11.h0 1).trans rfl;have k2:=(Lib.cell_of_heap rw11.h0 2).trans rfl;replace rw11:=Lib.hid rw11;have cW:=Lib.hid fun R hR=>ihK.out x (.slice A5 x.names.length n5) (.slice A7 kd.len n7) c (d+1) V11 hc5 (by omega) gx gk' ga2 (hyx.below nb11.out) R hR
           rw [show((d+1:Nat):Int)=(d:Int)+1 from rfl]at cW;have hcnt:=wrB_cnt x kd _ (wrF_cnt kd) (d+1) c;have hzer:=wrB_zero x kd _ (wrF_zero kd) (d+1) c;generalize wrB x kd (wrF kd) (d+1) c=Rw at *;obtain⟨re,rz,rm⟩:=Rw;simp only at cW e3 hcnt hzer;go_wp2_with (refine wpList_load_g (by rfl) _ _ rfl B 9 rfl [.int .i64 x.kind,.int .i64 x.at_,.int .i64 x.lo,.int .i64 x.hi,.int .i64 x.most,.slice A5 x.names.length n5,.slice A7 kd.len n7,.string x.name,.int .i64 x.nat] _ r9 Tryz.underlying36 rfl (by kernel_rfl) ?_;go_simp)
           refine cW.out _ (Lib.hid fun w12 n12=>?_);have rw12:=Lib.hid ((rw11.out).below n12);have nb12:=Lib.hid (nb11.out.trans (n12.mono nb11.out.size));clear k0 k1 k2 r9 cW n12 rw11 nb11;have k0:=(Lib.cell_of_heap rw12.out.h0 0).trans rfl;have k1:=(Lib.cell_of_heap rw12.out.h0 1).trans rfl;have k2:=(Lib.cell_of_heap rw12.out.h0 2).trans rfl;have kf0:=Lib.frozen_of_heap rw12.out.h0 0;have kf1:=Lib.frozen_of_heap rw12.out.h0 1;have kf2:=Lib.frozen_of_heap rw12.out.h0 2
           by_cases hr0:re=0
           ·subst hr0
            obtain rfl:=hzer rfl;have hm2:=hcnt rfl;rw [if_neg (by simp),←d1]at e3;have hW13:=set_atK (set_atK (set_atK rw12.out.h0 0 (.int .i64 0)) 1 (.int .i64 0)) 2 (.int .i64 (rm:Nat));have rw13:=Lib.hid (RW.mk (nv:=.slice An h.names.length cn) (pv:=.slice (some ⟨g,o,none⟩) f.len cp) hW13 (rw12.out.h1.sets (by omega) _ _ _) (((set_neK (by omega)).trans ((set_neK (by omega)).trans (set_neK (by omega)))).trans rw12.out.h2));have nb13:=Lib.hid (set3k (q:=w.heap.size) (Nat.le_refl _) nb12.out (.int .i64 0) (.int .i64 0) (.int .i64 (rm:Nat)));clear hW13 rw12 nb12;go_wp2_with fail
            go_roundg (gk-1)
            case measure=>omega
            case rel=>exact⟨I+1,rm,by go_num,by omega,hm2,nb13,rw13,e3⟩
           ·rw [if_pos (by simpa using hr0)]at e3
            have qr:(re != 0)=true:=by simpa using hr0
            have y0:=(Lib.cell_of_heap rw12.out.h2 0).trans rfl;have yf0:=Lib.frozen_of_heap rw12.out.h2 0;have y1:=(Lib.cell_of_heap rw12.out.h2 1).trans rfl;have yf1:=Lib.frozen_of_heap rw12.out.h2 1;have y2:=(Lib.cell_of_heap rw12.out.h2 2).trans rfl;have yf2:=Lib.frozen_of_heap rw12.out.h2 2;have fin:=Lib.hid (hR.out _ (set3k (q:=w.heap.size+2) (by omega) (set3k (q:=w.heap.size) (Nat.le_refl _) nb12.out (.int .i64 re) (.int .i64 rz) (.int .i64 (rm:Nat))) (.int .i64 re) (.int .i64 rz) (.int .i64 (rm:Nat))));rw [e3]at fin;clear hR;go_wp2_with fail
            refine bodyPost_ret ?_ rfl fin.out;simp [results,Tryz.results169,go_sem,y0,y1,y2]
          ·rw [if_pos (by simpa using hcs)]at e3
           have qc:((coarseS p).1 != 0)=true:=by simpa using hcs
           generalize(coarseS p).2=cz at *;generalize(coarseS p).1=ce at *;have fin:=Lib.hid (hR.out _ (set3k (q:=w.heap.size+2) (by omega) (set2k (q:=BF) hwB nb10.out (.int .i64 ce) (.int .i64 cz)) (.int .i64 (ce)) (.int .i64 (cz)) (.int .i64 (c:Nat))));rw [e3]at fin;clear hR;go_wp2_with fail
           refine bodyPost_ret ?_ rfl fin.out;simp [results,Tryz.results169,go_sem,y0,y1,y2]
         ·rw [if_pos (by simpa using hl)]at e3
          have ql:((labelS p.label).1==0)=false:=by simpa using hl
          have ql2:((labelS p.label).1 != 0)=true:=by simpa using hl
          generalize(labelS p.label).2=lz at *;generalize(labelS p.label).1=le at *;have fin:=Lib.hid (hR.out _ (set3k (q:=w.heap.size+2) (by omega) (set2k (q:=BF) hwB nb8.out (.int .i64 le) (.int .i64 lz)) (.int .i64 (le)) (.int .i64 (lz)) (.int .i64 (c:Nat))));rw [e3]at fin;clear hR;go_wp2_with fail
          refine bodyPost_ret ?_ rfl fin.out;simp [results,Tryz.results169,go_sem,y0,y1,y2]
      ·rw [hbr]at u2 e3
       simp only[if_true]at e3;have hq:partS h f d m=(19,p.at_,c):=by rw [e3,if_pos (.inl hk.out)]
       have t0:=rw6.out.h1.k0;rw [hk.out]at t0;go_wp2_with fail
       refine with15_calls 0 0 c (19) (p.at_) _ _ (Lib.hid fun wL nL=>?_);have rwL:=(rw6.out).below nL;have y0:=(Lib.cell_of_heap rwL.h2 0).trans rfl;have yf0:=Lib.frozen_of_heap rwL.h2 0;have y1:=(Lib.cell_of_heap rwL.h2 1).trans rfl;have yf1:=Lib.frozen_of_heap rwL.h2 1;have y2:=(Lib.cell_of_heap rwL.h2 2).trans rfl;have yf2:=Lib.frozen_of_heap rwL.h2 2;have fin:=Lib.hid (hR.out _ (set3k (q:=w.heap.size+2) (by omega) (nb6.out.trans (nL.mono nb6.out.size)) (.int .i64 (19)) (.int .i64 (p.at_)) (.int .i64 (c:Nat))));rw [hq]at fin;clear hR rwL nL hq e3 e2;go_wp2_with fail
       refine bodyPost_ret ?_ rfl fin.out;simp [results,Tryz.results169,go_sem,y0,y1,y2]
     ·have qE:(E != 0)=true:=by simpa using hE0
      have hq:partS h f d m=(E,p.at_,c):=by rw [e3,if_pos (by simpa using hE0)]
      clear hE0;go_wp2_with fail
      refine with15_calls 0 0 c (E) (p.at_) _ _ (Lib.hid fun wL nL=>?_);have rwL:=(rw6.out).below nL;have y0:=(Lib.cell_of_heap rwL.h2 0).trans rfl;have yf0:=Lib.frozen_of_heap rwL.h2 0;have y1:=(Lib.cell_of_heap rwL.h2 1).trans rfl;have yf1:=Lib.frozen_of_heap rwL.h2 1;have y2:=(Lib.cell_of_heap rwL.h2 2).trans rfl;have yf2:=Lib.frozen_of_heap rwL.h2 2;have fin:=Lib.hid (hR.out _ (set3k (q:=w.heap.size+2) (by omega) (nb6.out.trans (nL.mono nb6.out.size)) (.int .i64 (E)) (.int .i64 (p.at_)) (.int .i64 (c:Nat))));rw [hq]at fin;clear hR rwL nL hq e3 e2;go_wp2_with fail
      refine bodyPost_ret ?_ rfl fin.out;simp [results,Tryz.results169,go_sem,y0,y1,y2]
    ·have e0:I=f.len:=by omega
     subst e0;rw [Fo.drop_all (Nat.le_refl _)]at e2;have e2':partS h f d m=(0,0,c):=e2;have k0:=(Lib.cell_of_heap rw1.out.h0 0).trans rfl;have k1:=(Lib.cell_of_heap rw1.out.h0 1).trans rfl;have k2:=(Lib.cell_of_heap rw1.out.h0 2).trans rfl;have y0:=(Lib.cell_of_heap rw1.out.h2 0).trans rfl;have yf0:=Lib.frozen_of_heap rw1.out.h2 0;have y1:=(Lib.cell_of_heap rw1.out.h2 1).trans rfl;have yf1:=Lib.frozen_of_heap rw1.out.h2 1;have y2:=(Lib.cell_of_heap rw1.out.h2 2).trans rfl;have yf2:=Lib.frozen_of_heap rw1.out.h2 2;have i1:¬((f.len:Int)<(f.len:Int)):=Int.lt_irrefl _;have fin:=Lib.hid (hR.out _ (set3k (q:=w.heap.size+2) (by omega) nb.out (.int .i64 0) (.int .i64 0) (.int .i64 (c:Nat))));rw [e2']at fin;clear hR e2 e2';go_wp2_with fail
     refine bodyPost_ret ?_ rfl fin.out;simp [results,Tryz.results169,go_sem,y0,y1,y2]
end Go.Proofs.YtabhkakomececaaGreat.Kin
