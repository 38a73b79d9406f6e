import Derived.Test.YtabhkakomececaaGreatQ6
import Derived.Deep.AppendLies
import Derived.Deep.DeepCutAuto
import Derived.Deep.RegionLaw
import Derived.Lib.OwnKind
set_option linter.all false
set_option maxRecDepth 100000
set_option maxHeartbeats 4000000
namespace Go.Proofs.YtabhkakomececaaGreat
namespace Nam
open Go.RowKit Go.Lib Utf
def fv(xs ds:List ByteArray):List Value:=ds.map fun d=>.int .i64 (findS xs d)
theorem fv_len(xs ds:List ByteArray):(fv xs ds).length=ds.length:=by simp [fv]
def RdT(w:World)(v:Value)(xs:List ByteArray):Prop:=∃p v1 v2,v=.pointer (some ⟨p,0,none⟩)∧p<w.heap.size∧w.cell? ⟨p,0,none⟩=some v1∧w.cell? ⟨p,1,none⟩=some v2∧RdS w v1 (sortS xs)∧RdAt w v2 1 (fv xs (sortS xs))∧(v1=.slice none 0 0∨∃g o n c,v1=.slice (some ⟨g,o,none⟩) n c)
theorem RdT.below{w w':World}{v:Value}{xs:List ByteArray}(h:RdT w v xs)(hb:Below w.heap.size w w'):RdT w' v xs:=by
 obtain⟨p,v1,v2,rfl,hp,h1,h2,h3,h4,h5⟩:=h;exact⟨p,v1,v2,rfl,Nat.lt_of_lt_of_le hp hb.size,(hb.cell (p:=⟨p,0,none⟩) hp).trans h1,(hb.cell (p:=⟨p,1,none⟩) hp).trans h2,h3.below hb,h4.below hb,h5⟩
def RdTN(w:World)(v:Value)(xs:List ByteArray)(base:Nat):Prop:=∃p v1 v2,v=.pointer (some ⟨p,0,none⟩)∧base≤p∧p<w.heap.size∧w.cell? ⟨p,0,none⟩=some v1∧w.cell? ⟨p,1,none⟩=some v2∧w.ownsRow base 9 1 v1 (sortS xs).length (sv (sortS xs))∧w.ownsRow base 3 1 v2 (sortS xs).length (fv xs (sortS xs))
def But(t B:Nat)(w w':World):Prop:=∀k,k<B→k≠t→w'.heap[k]?=w.heap[k]?
theorem But.refl(t B:Nat)(w:World):But t B w w:=fun _ _ _=>rfl
theorem But.below{t B:Nat}{w w' w'':World}(h:But t B w w')(hb:Below B w' w''):But t B w w'':=fun k hk ht=>(hb.block k hk).trans (h k hk ht)
theorem But.set{t B:Nat}{w w':World}(h:But t B w w')(o:Nat)(v:Value):But t B w (w'.setCell ⟨t,o,none⟩ v):=fun k hk ht=>by
 rw [Below.heap_setCell _ _ _ _ (by simp only;omega)];exact h k hk ht
theorem But.cell{t B:Nat}{w w':World}(h:But t B w w'){g o:Nat}(hg:g<B)(ht:g≠t):w'.cell? ⟨g,o,none⟩=w.cell? ⟨g,o,none⟩:=World.cell?_of_block (a:=⟨g,o,none⟩) (h g hg ht)
theorem own_ne'{w:World}{B B':Nat}{e e':TypeId}{size size' n n':Nat}{v v':Value}{xs xs':List Value}(h:w.ownsRow B e size v n xs)(h':w.ownsRow B' e' size' v' n' xs')(hne:e≠e'):v.ownBlock=none∨v.ownBlock≠v'.ownBlock:=by
 cases hv:v.ownBlock with
 | none=>exact .inl rfl
 | some g =>
  refine .inr fun e1=>?_
  obtain⟨c,fz,h1⟩:=ownsRow_kind h g hv;obtain⟨c',fz',h2⟩:=ownsRow_kind h' g e1.symm;rw [h1]at h2;cases h2
  exact hne rfl
theorem own_len{w:World}{base:Nat}{e:TypeId}{n:Nat}{v:Value}{xs:List Value}(h:w.ownsRow base e 1 v n xs):∃A c,v=.slice A n c:=by
 obtain⟨-,⟨rfl,rfl⟩|⟨g,cap,cur,rfl,-⟩⟩:=h<;>exact⟨_,_,rfl⟩
theorem own_nils{w:World}{base:Nat}{e:TypeId}{n:Nat}{v:Value}{xs:List Value}(h:w.ownsRow base e 1 v n xs):v=.slice none 0 0∨∃g o n c,v=.slice (some ⟨g,o,none⟩) n c:=by
 obtain⟨-,⟨rfl,rfl⟩|⟨g,cap,cur,rfl,-⟩⟩:=h
 ·exact .inl rfl
 ·exact .inr ⟨g,0,n,cap,rfl⟩
theorem own_lt{w:World}{base t:Nat}{e:TypeId}{n:Nat}{v:Value}{xs:List Value}(h:w.ownsRow base e 1 v n xs)(ht:t<base):some t≠v.ownBlock:=fun e1=>by
 have:=(h.lt t e1.symm).1;omega
theorem grown_drew{w w':World}{row:Option Nat}(h:w.drew.grownBy w' row):w.grownBy w' row:=⟨h.os,h.tape,h.output,h.size,h.block⟩
structure Tb(t B:Nat)(w1:World)(n1:Nat)(l1:List Value)(v1:Value)(n2:Nat)(l2:List Value)(v2:Value)(wr:World):Prop where
but:But t B w1 wr
size:B≤wr.heap.size
tlt:t<B
c0:wr.cell? ⟨t,0,none⟩=some v1
c1:wr.cell? ⟨t,1,none⟩=some v2
f0:wr.frozen? ⟨t,0,none⟩=false
f1:wr.frozen? ⟨t,1,none⟩=false
o1:wr.ownsRow B 9 1 v1 n1 l1
o2:wr.ownsRow B 3 1 v2 n2 l2
theorem Tb.drewN{t B:Nat}{w1 wr:World}{n1 n2:Nat}{l1 l2:List Value}{v1 v2:Value}(h:Tb t B w1 n1 l1 v1 n2 l2 v2 wr)(n:Nat):Tb t B w1 n1 l1 v1 n2 l2 v2 (wr.drewN n) :=
have b:=below_drewN (Below.refl wr.heap.size wr) n
⟨h.but.below (b.mono h.size),h.size,h.tlt,h.c0,h.c1,h.f0,h.f1,own_below h.o1 b,own_below h.o2 b⟩
theorem grown_c{W w2:World}{row:Option Nat}(h:W.grownBy w2 row){g x:Nat}{u:Value}(hg:g<W.heap.size)(hr:some g≠row)(hc:W.cell? ⟨g,x,none⟩=some u):w2.cell? ⟨g,x,none⟩=some u:=(h.cell_far ⟨g,x,none⟩ hg hr).trans hc
theorem grown_f{W w2:World}{row:Option Nat}(h:W.grownBy w2 row){g x:Nat}{u:Bool}(hg:g<W.heap.size)(hr:some g≠row)(hc:W.frozen? ⟨g,x,none⟩=u):w2.frozen? ⟨g,x,none⟩=u:=(h.frozen_far ⟨g,x,none⟩ hg hr).trans hc
theorem Tb.put1{t B:Nat}{w1 W w2:World}{n1 n2 n':Nat}{l1 l2 l':List Value}{v1 v2 v':Value}(T:Tb t B w1 n1 l1 v1 n2 l2 v2 W)(hg:W.grownBy w2 v1.ownBlock)(own:w2.ownsRow B 9 1 v' n' l') :
  Tb t B w1 n' l' v' n2 l2 v2 (w2.setCell ⟨t,0,none⟩ v')∧∀w,Below t w W→Below t w (w2.setCell ⟨t,0,none⟩ v'):=by
 have ht:t<W.heap.size:=Nat.lt_of_lt_of_le T.tlt T.size;have r:=own_lt T.o1 T.tlt;have b:Below B W w2:=(Below.refl _ _).grown hg T.size fun k hk=>(T.o1.lt k hk).1
 have c0:=grown_c hg ht r T.c0;refine⟨⟨(T.but.below b).set 0 _,by simpa [World.setCell]using Nat.le_trans T.size b.size,T.tlt,World.cell?_setCell_same _ _ _ c0,?_,set_keepF (grown_f hg ht r T.f0),set_keepF (grown_f hg ht r T.f1),ownsRow_setCell_below own T.tlt _,ownsRow_setCell_below (T.o2.kept hg (own_ne' T.o2 T.o1 (by decide))) T.tlt _⟩,fun w h=>(h.trans (b.mono (Nat.le_of_lt T.tlt))).setCell (p:=⟨t,0,none⟩) (Nat.le_refl _) _⟩;rw [World.cell?_setCell_other _ _ _ _ (by intro e;simp at e)];exact grown_c hg ht r T.c1
theorem Tb.put2{t B:Nat}{w1 W w2:World}{n1 n2 n':Nat}{l1 l2 l':List Value}{v1 v2 v':Value}(T:Tb t B w1 n1 l1 v1 n2 l2 v2 W)(hg:W.grownBy w2 v2.ownBlock)(own:w2.ownsRow B 3 1 v' n' l') :
  Tb t B w1 n1 l1 v1 n' l' v' (w2.setCell ⟨t,1,none⟩ v')∧∀w,Below t w W→Below t w (w2.setCell ⟨t,1,none⟩ v'):=by
 have ht:t<W.heap.size:=Nat.lt_of_lt_of_le T.tlt T.size;have r:=own_lt T.o2 T.tlt;have b:Below B W w2:=(Below.refl _ _).grown hg T.size fun k hk=>(T.o2.lt k hk).1
 have c1:=grown_c hg ht r T.c1;refine⟨⟨(T.but.below b).set 1 _,by simpa [World.setCell]using Nat.le_trans T.size b.size,T.tlt,?_,World.cell?_setCell_same _ _ _ c1,set_keepF (grown_f hg ht r T.f0),set_keepF (grown_f hg ht r T.f1),ownsRow_setCell_below (T.o1.kept hg (own_ne' T.o1 T.o2 (by decide))) T.tlt _,ownsRow_setCell_below own T.tlt _⟩,fun w h=>(h.trans (b.mono (Nat.le_of_lt T.tlt))).setCell (p:=⟨t,1,none⟩) (Nat.le_refl _) _⟩;rw [World.cell?_setCell_other _ _ _ _ (by intro e;simp at e)];exact grown_c hg ht r T.c0
theorem RdTN.rd{w:World}{v:Value}{xs:List ByteArray}{base:Nat}(h:RdTN w v xs base):RdT w v xs:=by
 obtain⟨p,v1,v2,rfl,-,hp,h1,h2,h3,h4⟩:=h;exact⟨p,v1,v2,rfl,hp,h1,h2,RdS.of_own h3,RdAt.of_own h4,own_nils h3⟩
theorem RdTN.below{w w':World}{v:Value}{xs:List ByteArray}{base:Nat}(h:RdTN w v xs base)(hb:Below w.heap.size w w'):RdTN w' v xs base:=by
 obtain⟨p,v1,v2,rfl,hq,hp,h1,h2,h3,h4⟩:=h;exact⟨p,v1,v2,rfl,hq,Nat.lt_of_lt_of_le hp hb.size,(hb.cell (p:=⟨p,0,none⟩) hp).trans h1,(hb.cell (p:=⟨p,1,none⟩) hp).trans h2,own_below h3 hb,own_below h4 hb⟩
theorem RdTN.set{w:World}{v:Value}{xs:List ByteArray}{base:Nat}(h:RdTN w v xs base){H:Nat}(hH:H<base)(o:Nat)(u:Value):RdTN (w.setCell ⟨H,o,none⟩ u) v xs base:=by
 obtain⟨p,v1,v2,rfl,hq,hp,h1,h2,h3,h4⟩:=h;have e:∀j,(w.setCell ⟨H,o,none⟩ u).cell? ⟨p,j,none⟩=w.cell? ⟨p,j,none⟩:=fun j=>World.cell?_of_block (a:=⟨p,j,none⟩) (Below.heap_setCell _ _ _ _ (by simp only;omega))
 exact⟨p,v1,v2,rfl,hq,by simpa [World.setCell]using hp,(e 0).trans h1,(e 1).trans h2,ownsRow_setCell_below h3 (a:=⟨H,o,none⟩) hH u,ownsRow_setCell_below h4 (a:=⟨H,o,none⟩) hH u⟩
theorem newx_calls(xs:List ByteArray)(lv:Value)(w:World)(h0:xs.length≤1000000)(hx:RdS w lv xs)(R:Ending→World→Prop)
  (hR:Hid (∀v w',RdTN w' v xs w.heap.size→Below w.heap.size w w'→R (.returned v) w')):Calls Tryz.prog 62 #[lv] w R:=by
 obtain⟨A,c,rfl,hlc,hr0⟩:=hx.open;obtain⟨i0,hI,hz0,hz1,hz2⟩:=info_parts infoStr;obtain⟨j0,hJ,yz0,yz1,yz2⟩:=info_parts infoInt;have b1:=(Below.refl w.heap.size w).alloc (Nat.le_refl _) (.cells #[.slice none 0 0,.slice none 0 0] 220);have hx1:=hx.below b1;have z1:(w.alloc (.cells #[.slice none 0 0,.slice none 0 0] 220)).heap.size=w.heap.size+1:=by simp
 have k0:(w.alloc (.cells #[.slice none 0 0,.slice none 0 0] 220)).cell? ⟨w.heap.size,0,none⟩=some (.slice none 0 0):=by rw [World.cell?_alloc_new];rfl
 have k1:(w.alloc (.cells #[.slice none 0 0,.slice none 0 0] 220)).cell? ⟨w.heap.size,1,none⟩=some (.slice none 0 0):=by rw [World.cell?_alloc_new];rfl
 have y0:(w.alloc (.cells #[.slice none 0 0,.slice none 0 0] 220)).frozen? ⟨w.heap.size,0,none⟩=false:=by simp
 have y1:(w.alloc (.cells #[.slice none 0 0,.slice none 0 0] 220)).frozen? ⟨w.heap.size,1,none⟩=false:=by simp
 replace hr0:=Lib.hid hr0;replace hx1:=Lib.hid hx1;clear hx;go_enter Tryz.func62,Tryz.ntmps62
 go_wp2_with fail
 generalize w.alloc (.cells #[.slice none 0 0,.slice none 0 0] 220)=W0 at *;refine sorted_calls xs _ _ h0 hx1.out _ (Lib.hid fun ix v1 w1 i1 i2 i3 n1=>?_);obtain⟨A1,c1,rfl,hl1,hr1⟩:=i2.open;have hlen:=i1.len;have hlt:w.heap.size<w1.heap.size:=by have:=n1.size;omega
 have hT:Tb w.heap.size w1.heap.size w1 0 [] (.slice none 0 0) 0 [] (.slice none 0 0) w1 :=
  ⟨But.refl _ _ _,Nat.le_refl _,hlt,(n1.cell (p:=⟨w.heap.size,0,none⟩) (by simp only;omega)).trans k0,(n1.cell (p:=⟨w.heap.size,1,none⟩) (by simp only;omega)).trans k1,
   (n1.frozen (p:=⟨w.heap.size,0,none⟩) (by simp only;omega)).trans y0,(n1.frozen (p:=⟨w.heap.size,1,none⟩) (by simp only;omega)).trans y1,World.ownsRow_nil _ _ _ _,World.ownsRow_nil _ _ _ _⟩
 have nT:=b1.trans (n1.mono b1.size);have hfar:∀g o,A1=some ⟨g,o,none⟩→g≠w.heap.size:=fun g o e=>by have:=i3 g o _ _ (by rw [e]);omega
 replace hfar:=Lib.hid hfar;replace hr1:=Lib.hid hr1;replace i1:=Lib.hid i1;clear i2 i3 n1 k0 k1 y0 y1 hx1 b1;generalize hB:w1.heap.size=B at *;generalize ht:w.heap.size=t at *;go_wp2_with fail
 go_loopg [12] ix.length (fun k i wr=>∃(K:Nat) (ds:List ByteArray) (v1 v2:Value),i=.int .i64 K∧K+k=ix.length∧Tb t B w1 ds.length (sv ds) v1 ds.length (fv xs ds) v2 wr∧Below t w wr∧Hid (Dist xs ix K ds))
 case atStart=>exact⟨0,[],_,_,rfl,by omega,hT,nT,Lib.hid (Dist.start xs ix)⟩
 case round =>
  obtain⟨K,ds,v1,v2,rfl,d1,T,nR,D⟩:=hrel
  by_cases hK:K<ix.length
  ·have hi:=i1.out.lt hK
   obtain⟨g,o,rfl,hg,hca⟩:=hr1.out (by omega);obtain⟨g2,o2,rfl,hg2,hca2⟩:=hr0.out (by omega);have f1:=(T.but.cell (by omega) (hfar.out g o rfl)).trans (hca K hK);have f2:=(nR.cell (p:=⟨g2,o2+ix.getD K 0,none⟩) hg2).trans (hca2 _ hi);rw [show xs.getD (ix.getD K 0) ByteArray.empty=at_ xs (ix.getD K 0)from rfl]at f2;have q1:(0<K∧at_ xs (ix.getD (K-1) 0)=at_ xs (ix.getD K 0))→Dist xs ix (K+1) ds:=fun h=>D.out.skip h.1 h.2
   have q2:¬(0<K∧at_ xs (ix.getD (K-1) 0)=at_ xs (ix.getD K 0))→Dist xs ix (K+1) (ds++[at_ xs (ix.getD K 0)])∧findS xs (at_ xs (ix.getD K 0))=(ix.getD K 0:Nat):=fun h=>D.out.put i1.out hK h
   have q3:=D.out.last;have q4:=D.out.len;obtain⟨A3,c3,e3⟩:=own_len T.o1;subst e3;obtain⟨A4,c4,e4⟩:=own_len T.o2;subst e4;have T0:=T.c0;have hlt1:=T.size;have hown:=T.o1;replace T:=Lib.hid T;replace nR:=Lib.hid nR;clear hca hca2 D;generalize at_ xs (ix.getD K 0)=s at *;generalize ix.getD K 0=i at *;obtain⟨G,hG⟩:∃G:Bool,(G=true↔(0<K∧at_ xs (ix.getD (K-1) 0)=s)):=⟨decide (0<K∧at_ xs (ix.getD (K-1) 0)=s),decide_eq_true_iff⟩;rw [←hG]at q1 q2;replace q1:=Lib.hid q1;replace q2:=Lib.hid q2;replace q3:=Lib.hid q3;replace hG:=Lib.hid hG;replace hown:=Lib.hid hown;obtain⟨L,hL⟩:∃L:Int,(ds.length:Int)-1=L:=⟨_,rfl⟩;go_wp2_with fail
   replace hL:=Lib.hid hL;go_cut [37] (fun v wx=>∃q,v=.bool G∧wx=wr.drewN q)
   case first =>
    rcases q3.out with⟨rfl,rfl⟩|⟨hz,cs,e⟩
    ·obtain rfl:G=false:=by
      cases G
      ·rfl
      ·have:=(hG.out.1 rfl).1;omega
     obtain rfl:L=-1:=hL.out.symm;go_quiet (fail);go_wp2_with fail
     go_meet;exact⟨_,rfl,rfl⟩
    ·obtain⟨n,hn⟩:∃n,n=cs.length:=⟨_,rfl⟩
     have hn1:ds.length=n+1:=by rw [e,hn];simp
     obtain rfl:L=(n:Int):=by rw [←hL.out,hn1];omega
     obtain⟨g3,cap3,e3,-,-,-,hcells⟩:=own_at hown.out (by omega);simp only[Value.slice.injEq]at e3;obtain⟨rfl,-,rfl⟩:=e3;have k1:=hcells n (by omega);rw [e,hn,sv_at,←hn]at k1;have hi0:(0:Int)≤(n:Int):=by omega
     have hi1:(n:Int)<(ds.length:Int):=by omega
     have hG':=hG.out;replace hn1:=Lib.hid hn1;replace e:=Lib.hid e;replace hcells:=Lib.hid hcells;replace hn:=Lib.hid hn;generalize at_ xs (ix.getD (K-1) 0)=y at *
     by_cases hs:y=s
     ·obtain rfl:G=true:=hG'.2 ⟨hz,hs⟩
      have hq:=seq_t hs;clear hs hG';go_quiet (fail);go_wp2_with fail
      go_meet;exact⟨_,rfl,rfl⟩
     ·obtain rfl:G=false:=by
       cases G
       ·rfl
       ·exact absurd (hG'.1 rfl).2 hs
      have hq:=seq_f hs;clear hs hG';go_quiet (fail);go_wp2_with fail
      go_meet;exact⟨_,rfl,rfl⟩
   case rest =>
    obtain⟨q,rfl,rfl⟩:=hcut;have T':=Lib.hid (T.out.drewN q);have nR':=Lib.hid (below_drewN nR.out q);have g1:(wr.drewN q).cell? ⟨g2,o2+i,none⟩=some (.string s):=f2;clear T nR f1 f2 T0 hown hL q3 hG hlt1;generalize wr.drewN q=W at *;cases G
    ·obtain⟨p1,p2⟩:=q2.out (by decide)
     replace p1:=Lib.hid p1;have U0:=T'.out.c0;have U2:=T'.out.f0;have hBW:=T'.out.size;have htB:=T'.out.tlt;have hown:=T'.out.o1;have hg2B:g2<W.heap.size:=by omega
     have ht2:t<W.heap.size:=by omega
     have r1:=own_lt T'.out.o1 htB;have r2:some g2≠(Value.slice A3 ds.length c3).ownBlock:=own_lt T'.out.o1 (by omega);have hne:g2≠t:=by omega
     have hn2:ds.length+1≤1000000:=by omega
     go_wp2_with fail
     go_region_law
      ((refine step_append_lies _ (by rfl) _ _ _ (by rfl) B 9 i0 _ 1 16 Tryz.underlying60 hI hz0 hz1 hz2 rfl (by omega) _ ds.length (sv ds) (by rfl) ((hown.alloc _).drew) ⟨W.heap.size,0,none⟩ 1 1 [.string s] (by rfl) (by rfl) (World.news_of_block (cs:=#[.string s]) (t:=9) (fr:=(0,0)) (heap_alloc_new W _)) (by simp [Value.oneCell']) (by omega) (by unfold maxLen;omega) (by omega) (by simp;omega) (W.heap.size+1) (by simp) ?_;intro gg cap w2 hown2 hgrow hat hlt2;have V0:=grown_keep hgrow ht2 r1 U0;have V9:=grown_keepF hgrow ht2 r1 U2))
     all_goals
      obtain⟨T7,n7⟩:=T'.out.put1 (grown_step (grown_drew hgrow)) hown2;have n8:=Lib.hid (n7 w nR'.out);clear n7 hown2 hgrow hat hlt2 V0 V9;have V0:=T7.c1;have V1:=T7.f1;have V2:=T7.size;have V3:=T7.o2;replace T7:=Lib.hid T7;generalize w2.setCell ⟨t,0,none⟩ _=W7 at *;have ht7:t<W7.heap.size:=Nat.lt_of_lt_of_le htB V2;go_wp2_with (at_builtin;refine app1 W7 (.int .i64 i) 3 rfl _ _ 82 rfl B j0 (.int .i64 0) 8 Tryz.underlying82 hJ yz0 yz1 yz2 rfl (.slice A4 ds.length c4) _ _ rfl V3 rfl rfl (by unfold maxLen;omega) (by omega) V2 ?_;intro v' w3 hown3 hg3 hb3;have X0:=grown_c hg3 ht7 (own_lt V3 htB) V0;have X1:=grown_f hg3 ht7 (own_lt V3 htB) V1;obtain⟨A9,c9,rfl⟩:=own_len hown3)
      obtain⟨T9,n9⟩:=T7.out.put2 hg3 hown3;have n10:=n9 w n8.out;rw [show sv ds++[Value.string s]=sv (ds++[s])by simp [sv],show fv xs ds++[Value.int .i64 i]=fv xs (ds++[s])by simp [fv,p2]]at T9;go_roundg (gk-1)
      case measure=>omega
      case rel =>
       refine⟨K+1,ds++[s],.slice (some ⟨gg,0,none⟩) (ds.length+1) cap,.slice A9 (ds.length+1) c9,by go_num,by omega,?_,n10,p1⟩;rw [show(ds++[s]).length=ds.length+1 by simp];exact T9
    ·have p:=Lib.hid (q1.out rfl)
     go_wp2_with fail
     go_roundg (gk-1)
     case measure=>omega
     case rel=>exact⟨K+1,ds,_,_,by go_num,by omega,T'.out,nR'.out,p⟩
  ·obtain rfl:K=ix.length:=by omega
   obtain rfl:=D.out.fin i1.out;have htr:t<wr.heap.size:=Nat.lt_of_lt_of_le T.tlt T.size;have rT:RdTN wr (.pointer (some ⟨t,0,none⟩)) xs t:=⟨t,v1,v2,rfl,Nat.le_refl _,htr,T.c0,T.c1,own_mono T.o1 (Nat.le_of_lt T.tlt),own_mono T.o2 (Nat.le_of_lt T.tlt)⟩;replace rT:=Lib.hid rT;clear T D;go_wp2_with fail
   exact hR.out _ _ rT.out nR
theorem new_calls(xs:List ByteArray)(lv:Value)(w:World)(h0:xs.length≤1000000)(hx:RdS w lv xs)(R:Ending→World→Prop)
 (hR:Hid (∀v w',RdT w' v xs→Below w.heap.size w w'→R (.returned v) w')):Calls Tryz.prog 62 #[lv] w R :=
newx_calls xs lv w h0 hx R (Lib.hid fun v w' h hb=>hR.out v w' h.rd hb)
end Nam
namespace Nam
open Go.RowKit Go.Lib Utf Go.Shelf
theorem search_calls(ds:List ByteArray)(x:ByteArray)(v:Value)(w:World)(hd:RdS w v ds)(hi:Inc ds)(hl:ds.length≤1000000)(R:Ending→World→Prop)
  (hR:Hid (∀(k nq:Nat) (b:Bool),(b=true↔k<ds.length∧at_ ds k=x)→(x∈ds↔k<ds.length∧at_ ds k=x)→R (.returned (.tuple #[.int .i64 k,.bool b])) (w.drewN nq))) :
  Calls Tryz.prog 238 #[v,.string x] w R:=by
 obtain⟨A,c,rfl,hlc,hr⟩:=hd.open;rcases Nat.eq_zero_or_pos ds.length with hz|hz
 ·obtain rfl:=List.eq_nil_of_length_eq_zero hz
  have:=Any2.slices_BinarySearch_string_empty YtabhkakomececaaGreat.searchStr A c x w
  change Calls Tryz.prog 238 _ _ _ at this
  refine this.mono ?_
  rintro e w' ⟨rfl,rfl⟩
  exact hR.out 0 0 false (by simp) (by simp)
 ·obtain⟨g,o,rfl,hg,hca⟩:=hr hz
  obtain⟨k,h1,h2,h3⟩:=inc_split hi x;have:=Any2.slices_BinarySearch_string YtabhkakomececaaGreat.searchStr g o ds.length c (fun j=>at_ ds j) x w (by omega) hca
  change Calls Tryz.prog 238 _ _ _ at this
  have e:Lib.bsGo (fun t=>Go.Op.bytesLess (at_ ds t).toList x.toList) ds.length 0 ds.length=k:=by
   have e1:∀f lo hi',hi'≤ds.length→Lib.bsGo (fun t=>Go.Op.bytesLess (at_ ds t).toList x.toList) f lo hi'=Lib.bsGo (fun t=>decide (t<k)) f lo hi':=by
    intro f
    induction f with
    | zero=>intro lo hi' _;rfl
    | succ f ih =>
     intro lo hi' hh;unfold Lib.bsGo
     by_cases hlt:lo<hi'
     ·rw [if_pos hlt,if_pos hlt]
      have:Go.Op.bytesLess (at_ ds ((lo+hi')/2)).toList x.toList=decide ((lo+hi')/2<k):=by
       by_cases hm:(lo+hi')/2<k
       ·rw [decide_eq_true hm];exact h2 _ hm
       ·rw [decide_eq_false hm];exact h3 _ (by omega) (by omega)
      rw [this,ih _ _ hh,ih _ _ (by omega)]
     ·rw [if_neg hlt,if_neg hlt]
   rw [e1 _ _ _ (Nat.le_refl _)];exact Lib.bsGo_spec _ k (fun t ht=>decide_eq_true ht) (fun t ht=>decide_eq_false (by omega)) _ _ _ (by omega) (Nat.zero_le _) h1
  refine this.mono ?_
  rintro e' w' ⟨rfl,q,rfl⟩
  rw [e];exact hR.out k q _ decide_eq_true_iff (split_mem h2 h3 hi)
def finS(xs:List ByteArray)(x:ByteArray):Int×Bool:=if findS xs x<0 then(0,false)else(findS xs x,true)
theorem findS_mem(xs:List ByteArray)(x:ByteArray):0≤findS xs x↔x∈sortS xs:=by
 rw [sort_mem];rcases find_cases xs x with⟨h1,h2⟩|⟨k,h1,h2,-,h4⟩
 ·exact⟨fun h=>by omega,fun h=>absurd h h2⟩
 ·exact⟨fun _=>List.mem_of_getElem? h2,fun _=>by omega⟩
theorem fv_get(xs ds:List ByteArray)(k:Nat)(h:k<ds.length):(fv xs ds)[k]?=some (.int .i64 (findS xs (at_ ds k))):=by
 simp [fv,at_some h]
theorem find_calls(xs:List ByteArray)(x:ByteArray)(v:Value)(w:World)(h0:xs.length≤1000000)(hT:RdT w v xs)(R:Ending→World→Prop)
  (hR:Hid (∀nq,R (.returned (.tuple #[.int .i64 (finS xs x).1,.bool (finS xs x).2])) (w.drewN nq))):Calls Tryz.prog 171 #[v,.string x] w R:=by
 obtain⟨p,v1,v2,rfl,hp,c0,c1,r1,r2,-⟩:=hT;have hl:=sort_len xs;have hm:=findS_mem xs x;have cS:=fun R hR=>search_calls (sortS xs) x v1 w r1 (sort_inc xs) (by omega) R hR
 obtain⟨A2,n2,d2,rfl,hl2,hn2,hc2⟩:=r2;have hz:=fv_len xs (sortS xs);rw [hz,Nat.mul_one]at hl2;subst hl2;have hF:∀k,k<(sortS xs).length→at_ (sortS xs) k=x→(fv xs (sortS xs))[k]?=some (.int .i64 (findS xs x)):=fun k h e=>by rw [fv_get xs _ k h,e]
 obtain⟨A1,d1,e1,-,-⟩:=r1.open;subst e1;unfold finS at hR;generalize findS xs x=f at *;rw [hz]at hc2;generalize fv xs (sortS xs)=F at *;generalize sortS xs=ds at *;clear r1 hz;replace cS:=Lib.hid cS;replace hF:=Lib.hid hF;replace hc2:=Lib.hid hc2;replace hm:=Lib.hid hm
 by_cases hf:f<0
 ·rw [if_pos hf]at hR
  simp only at hR;go_enter Tryz.func171,Tryz.ntmps171
  go_wp2_with fail
  refine cS.out _ (Lib.hid fun k nq b e1 e2=>?_)
  have hb:b=false:=by
   cases b
   ·rfl
   ·have:=hm.out.2 (e2.2 (e1.1 rfl));omega
  subst hb;replace e1:=Lib.hid e1;replace e2:=Lib.hid e2;go_wp2_with fail
  exact hR.out _
 ·rw [if_neg hf]at hR
  simp only at hR;go_enter Tryz.func171,Tryz.ntmps171
  go_wp2_with fail
  refine cS.out _ (Lib.hid fun k nq b e1 e2=>?_);obtain⟨hk,hx⟩:=e2.1 (hm.out.1 (by omega));have hb:b=true:=e1.2 ⟨hk,hx⟩;subst hb;have hg:=hF.out k hk hx;obtain⟨g,o,rfl,hg1,hca⟩:=hc2.out (by omega);have hc:=hca k _ hg;clear hca hg;replace e1:=Lib.hid e1;replace e2:=Lib.hid e2;replace hx:=Lib.hid hx;go_wp2_with fail
  exact hR.out _
end Nam
end Go.Proofs.YtabhkakomececaaGreat
