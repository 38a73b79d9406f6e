import Derived.Test.YtabhkakomececaaGreatQ35
set_option linter.all false
set_option maxRecDepth 100000
set_option maxHeartbeats 4000000
namespace Go.Proofs.YtabhkakomececaaGreat
namespace Inh
open Go.RowKit Go.Lib Res Nam Lat Kin Unp Rel Lab
def xP:PH:=⟨⟨#[120]⟩,0,false,[],0,0,0,0,[]⟩
def nP:PH:=⟨⟨#[]⟩,0,false,[],0,0,0,0,[]⟩
def rT_:TH:=⟨9,0,0,0,0,[],⟨#[116]⟩,0⟩
def rU_:TH:=⟨9,0,0,0,0,[],⟨#[117]⟩,0⟩
def oT_:TH:=⟨6,0,0,0,0,[],⟨#[]⟩,0⟩
def cT_:TH:=⟨7,0,0,0,0,[],⟨#[]⟩,0⟩
def bT_:TH:=⟨1,0,0,0,0,[],⟨#[]⟩,0⟩
def tF_:Ft:=.cons xP rT_ .nil .nil
def oF_:Ft:=.cons nP rU_ .nil .nil
def uF_:Ft:=.cons xP oT_ oF_ .nil
def sc19:Sc:=([(⟨#[97]⟩,0)],[],[((⟨#[116]⟩,0),cT_,tF_),((⟨#[117]⟩,0),cT_,uF_)],bT_,.nil)
theorem listed_zero{ns:List ByteArray}(h:rightS (ns.getD 0 ByteArray.empty)=true):listedS ns 0=0:=by
 unfold listedS;rw [if_neg (by rw [h];decide),if_neg (by simp)]
theorem kinds_none(s:BS){h:TH}{f:Ft}(e:(wcS h f).1=0):kindsS s h f=if 512<wrap64 (s.total+cW f 1)then((8,h.at_),{ s with total:=wrap64 (s.total+cW f 1) })else((0,0),{ s with total:=wrap64 (s.total+cW f 1) }):=by
 unfold kindsS;rw [if_neg (by rw [e];decide)]
theorem w19(k:Int)(hk:I64 k)(x:ByteArray)(hx:x.size≤maxLen):GoodH ⟨k,0,0,0,0,[],x,0⟩:=⟨hk,i64_z,i64_z,i64_z,i64_z,by simp,hx,i64_z,by simp⟩
end Inh
namespace Eff
open Go.RowKit Go.Lib Utf Nam Res Kin Unp Rel Lab Inh Lat Pat
def wLo:Wr:=(⟨#[108,111,119]⟩,0)
def wHi:Wr:=(⟨#[104,105,103,104]⟩,0)
def pX20:PH:=⟨⟨#[120]⟩,0,false,[wHi],0,0,0,0,[]⟩
def rT20:TH:=⟨7,0,0,0,0,[],⟨#[]⟩,0⟩
def bT20:TH:=⟨1,0,0,0,0,[],⟨#[]⟩,0⟩
def f20:Ft:=.cons pX20 bT20 .nil .nil
def sc20:Sc:=([wLo,wHi],[(wLo,wHi)],[],rT20,f20)
theorem wc_20:(wcS rT20 f20).1=0:=by
 have e:wcS rT20 f20=wcF f20 (.parts 7 [⟨#[120]⟩] 0) 2 1:=by kernel_rfl
 rw [e];unfold f20 wcF;rw [if_neg (by rw [listed_zero (by kernel_rfl)];decide)]
 rfl
theorem b20:bldS sc20=(0,0):=by
 have e3:kindsS bs0 rT20 f20=((0,0),{ bs0 with total:=2 }):=(kinds_none _ wc_20).trans (by kernel_rfl);have ea:eachS kindsS bs0 sc20.2.2.1 rT20 f20=((0,0),{ bs0 with total:=2 }):=e3;have h1:wrongS sc20.1 sc20.2.1=(0,0):=by kernel_rfl
 have h2:nmC sc20.2.2.1=(0,0):=by kernel_rfl
 unfold bldS;rw [h1,if_neg (by decide),h2,if_neg (by decide)];unfold chkB;rw [show sc20.2.2.2.1=rT20 from rfl,show sc20.2.2.2.2=f20 from rfl,ea,if_neg (by decide)];rfl
theorem gs20:GoodS sc20 where
l:=fun x hx=>by
 rcases List.mem_cons.1 hx with rfl|hx
 ·exact⟨by decide,i64_z⟩
 ·obtain rfl:=List.mem_singleton.1 hx
  exact⟨by decide,i64_z⟩
ll:=by decide
o:=fun x hx=>by
 obtain rfl:=List.mem_singleton.1 hx;exact⟨⟨by decide,i64_z⟩,⟨by decide,i64_z⟩⟩
ol:=by decide
t:=fun x hx=>by cases hx
tl:=by decide
h:=w19 7 ⟨by decide,by decide⟩ _ (by decide)
g:=⟨⟨by decide,i64_z,fun x hx=>by
 obtain rfl:=List.mem_singleton.1 hx;exact⟨by decide,i64_z⟩,i64_z,i64_z,i64_z,i64_z,by simp [pX20],by show(1:Nat)≤maxLen;decide,by show(0:Nat)≤maxLen;decide⟩,w19 1 ⟨by decide,by decide⟩ _ (by decide),by decide,trivial,trivial⟩
gl:=by decide
theorem o20:OkS sc20:=OkS.of (by rw [b20])
theorem wk20a:walkS (joinS 2 (leqF sc20.1 sc20.2.1)) selI (plS sc20).1 [(1,0,⟨#[120]⟩)] ((plS sc20).2.1,((0:Nat):Int))=(1,1):=by kernel_rfl
theorem le20:leqF sc20.1 sc20.2.1 1 0=false:=by kernel_rfl
theorem wk20(t:Nat)(ht:t<2)(h:∀a,a<2→leqF sc20.1 sc20.2.1 t a=true):walkS (joinS 2 (leqF sc20.1 sc20.2.1)) selI (plS sc20).1 [(1,0,⟨#[120]⟩)] ((plS sc20).2.1,(t:Int))=(1,1):=by
 have:t=0∨t=1:=by omega
 rcases this with rfl|rfl
 ·exact wk20a
 ·exact absurd (h 0 (by decide)) (by rw [le20];decide)
theorem ck20:chkNs (chkE (plS sc20).1 (leqF sc20.1 sc20.2.1)) (plS sc20).1=(0,0):=by kernel_rfl
theorem example20_calls(w:World)(R:Ending→World→Prop)(hR:Hid (∀w' lv ov tv nv pv,RdSc w' sc20 lv ov tv nv pv→Below w.heap.size w w'→R (.returned (scV sc20 lv ov tv nv pv)) w')):Calls Tryz.prog 76 #[] w R:=by
 have m0:=F0.z w;obtain⟨V1,e1,m1,z1⟩:=m0.new (.cells #[.slice none 0 0,.slice none 0 0,.slice none 0 0,.int .i64 0,.int .i64 0,.int .i64 0,.int .i64 0,.int .i64 0,.slice none 0 0,.slice none 0 0,.string ⟨#[]⟩,.int .i64 0] 38);obtain⟨V2,e2,m2,z2⟩:=m1.new (.cells #[.string ⟨#[]⟩,.int .i64 0] 34);obtain⟨V3,e3,m3,z3⟩:=m2.new (.cells #[.string ⟨#[]⟩,.int .i64 0] 34);have hG1:=m3.b 1 rfl;obtain⟨V4,e4,m4⟩:=m3.row (j:=1) rfl #[.string ⟨#[108,111,119]⟩,.int .i64 0];have hG2:=m4.b 0 rfl;obtain⟨V5,e5,m5⟩:=m4.row (j:=0) rfl #[.string ⟨#[104,105,103,104]⟩,.int .i64 0];have r1:=m5.rg 1 rfl;have r2:=m5.rg 0 rfl;obtain⟨V6,e6,m6,z6⟩:=m5.new (.cells #[.string ⟨#[104,105,103,104]⟩,.int .i64 0] 34);obtain⟨V7,e7,m7,z7⟩:=m6.new (.cells #[.string ⟨#[120]⟩,.int .i64 0,.bool false,.slice (some ⟨V5.heap.size,0,none⟩) 1 1,.int .i64 0,.int .i64 0,.int .i64 0,.int .i64 0,.slice none 0 0,.int .i64 1,.int .i64 0,.int .i64 0,.int .i64 0,.int .i64 0,.slice none 0 0,.slice none 0 0,.string ⟨#[]⟩,.int .i64 0] 127);have s1:=m7.rg 3 rfl;have s2:=m7.rg 2 rfl;obtain⟨V8,e8,m8,z8⟩:=m7.new (.cells #[.string ⟨#[108,111,119]⟩,.int .i64 0,.string ⟨#[104,105,103,104]⟩,.int .i64 0] 34);have s3:=m8.rg 4 rfl;have s4:=m8.rg 3 rfl;obtain⟨V9,e9,m9,z9⟩:=m8.new (.cells #[.string ⟨#[108,111,119]⟩,.int .i64 0,.string ⟨#[104,105,103,104]⟩,.int .i64 0] 142);have s5:=m9.rg 2 rfl;obtain⟨V10,e10,n,z10⟩:=m9.new (.cells #[.string ⟨#[120]⟩,.int .i64 0,.bool false,.slice (some ⟨V5.heap.size,0,none⟩) 1 1,.int .i64 0,.int .i64 0,.int .i64 0,.int .i64 0,.slice none 0 0,.int .i64 1,.int .i64 0,.int .i64 0,.int .i64 0,.int .i64 0,.slice none 0 0,.slice none 0 0,.string ⟨#[]⟩,.int .i64 0] 127);have hG3:=n.b 7 rfl;obtain⟨V11,e11,n8⟩:=n.row (j:=7) rfl #[.slice (some ⟨V7.heap.size,0,none⟩) 2 2,.slice (some ⟨V8.heap.size,0,none⟩) 1 1,.slice none 0 0,.int .i64 7,.int .i64 0,.int .i64 0,.int .i64 0,.int .i64 0,.slice none 0 0,.slice (some ⟨V9.heap.size,0,none⟩) 1 1,.string ⟨#[]⟩,.int .i64 0];have w0_:=n8.c 7 0 rfl rfl;have w1_:=n8.c 7 1 rfl rfl;have w2_:=n8.c 7 2 rfl rfl;have w3_:=n8.c 7 3 rfl rfl;have w4_:=n8.c 7 4 rfl rfl;have w5_:=n8.c 7 5 rfl rfl;have w6_:=n8.c 7 6 rfl rfl;have w7_:=n8.c 7 7 rfl rfl;have w8_:=n8.c 7 8 rfl rfl;have w9_:=n8.c 7 9 rfl rfl;have w10_:=n8.c 7 10 rfl rfl;have w11_:=n8.c 7 11 rfl rfl
 have rd:RdSc V11 sc20 (.slice (some ⟨V7.heap.size,0,none⟩) 2 2) (.slice (some ⟨V8.heap.size,0,none⟩) 1 1) (.slice none 0 0) (.slice none 0 0) (.slice (some ⟨V9.heap.size,0,none⟩) 1 1) :=
  ⟨⟨_,2,2,rfl,rfl,Nat.le_refl _,fun _=>⟨_,0,rfl,n8.lt 2 rfl,fun j u e=>n8.rg 2 rfl j u e⟩⟩,⟨_,1,1,rfl,rfl,Nat.le_refl _,fun _=>⟨_,0,rfl,n8.lt 1 rfl,fun j u e=>n8.rg 1 rfl j u e⟩⟩,⟨none,0,rfl,Nat.le_refl _,fun h=>absurd h (by decide)⟩,⟨RdG.none0 _ _ _,_,1,rfl,Nat.le_refl _,fun _=>⟨_,_,rfl,n8.lt 0 rfl,RdFo.mk [.string ⟨#[120]⟩,.int .i64 0,.bool false,.slice (some ⟨V5.heap.size,0,none⟩) 1 1,.int .i64 0,.int .i64 0,.int .i64 0,.int .i64 0,.slice none 0 0] [.int .i64 1,.int .i64 0,.int .i64 0,.int .i64 0,.int .i64 0,.slice none 0 0,.slice none 0 0,.string ⟨#[]⟩,.int .i64 0] rfl (fun j v e=>n8.rg 0 rfl j v e) ⟨_,_,rfl,⟨_,1,1,rfl,rfl,Nat.le_refl _,fun _=>⟨_,0,rfl,n8.lt 4 rfl,fun j u e=>n8.rg 4 rfl j u e⟩⟩,RdG.none0 _ _ _⟩ ⟨rfl,_,⟨_,rfl,RdG.none0 _ _ _⟩,RdSl.nil _ _ _⟩ trivial⟩⟩⟩
 have fin:=Lib.hid (hR.out V11 _ _ _ _ _ rd (F0.bel n8));clear m0 m1 m2 m3 m4 m5 m6 m7 m8 m9 n n8 rd hR z1 z2 z3 z6 z7 z8 z9 z10;go_enter Tryz.func76,Tryz.ntmps76
 go_upto_region 1 with fail
 go_upto_region 2 with(first|(refine wpList_store_row (by rfl) 34 _ _ (by rfl) V1.heap.size #[.string ⟨#[108,111,119]⟩,.int .i64 0] (by rfl) (by rfl) 34 _ hG1 (by kernel_rfl) rfl (by simp [Value.oneCell']) ?_;refine cast_w e4 ?_;go_simp)|(refine wpList_store_row (by rfl) 34 _ _ (by rfl) V2.heap.size #[.string ⟨#[104,105,103,104]⟩,.int .i64 0] (by rfl) (by rfl) 34 _ hG2 (by kernel_rfl) rfl (by simp [Value.oneCell']) ?_;refine cast_w e5 ?_;go_simp))
 clear e1 e2 e3 hG1 hG2 e4 e5;go_upto_region 3 with(first|(refine wpList_load_g (by rfl) 34 _ rfl V2.heap.size 0 rfl _ _ r2 Tryz.underlying34 rfl (by kernel_rfl) ?_;go_simp)|(refine wpList_copy #[.string ⟨#[120]⟩,.int .i64 0,.bool false,.slice (some ⟨V5.heap.size,0,none⟩) 1 1,.int .i64 0,.int .i64 0,.int .i64 0,.int .i64 0,.slice none 0 0,.int .i64 1,.int .i64 0,.int .i64 0,.int .i64 0,.int .i64 0,.slice none 0 0,.slice none 0 0,.string ⟨#[]⟩,.int .i64 0] ⟨rfl,rfl,rfl⟩ ⟨rfl,rfl,rfl⟩ part_alloc (by kernel_rfl) ⟨rfl,by simp [Value.oneCell']⟩ (fun _=>⟨rfl,rfl⟩) ?_;go_simp))
 clear r1 r2 e6 e7;go_wp2_with (first|(refine wpList_load_g (by rfl) 34 _ rfl V1.heap.size 0 rfl _ _ s1 Tryz.underlying34 rfl (by kernel_rfl) ?_;go_simp)|(refine wpList_load_g (by rfl) 34 _ rfl V2.heap.size 0 rfl _ _ s2 Tryz.underlying34 rfl (by kernel_rfl) ?_;go_simp)|(refine wpList_load_g (by rfl) 34 _ rfl V1.heap.size 0 rfl _ _ s3 Tryz.underlying34 rfl (by kernel_rfl) ?_;go_simp)|(refine wpList_load_g (by rfl) 34 _ rfl V2.heap.size 0 rfl _ _ s4 Tryz.underlying34 rfl (by kernel_rfl) ?_;go_simp)|(refine wpList_load_g (by rfl) 127 _ rfl V6.heap.size 0 rfl _ _ s5 Tryz.underlying127 rfl (by kernel_rfl) ?_;go_simp)|(refine wpList_store_row (by rfl) 38 _ _ (by rfl) w.heap.size #[.slice (some ⟨V7.heap.size,0,none⟩) 2 2,.slice (some ⟨V8.heap.size,0,none⟩) 1 1,.slice none 0 0,.int .i64 7,.int .i64 0,.int .i64 0,.int .i64 0,.int .i64 0,.slice none 0 0,.slice (some ⟨V9.heap.size,0,none⟩) 1 1,.string ⟨#[]⟩,.int .i64 0] (by rfl) (by rfl) 38 _ hG3 (by kernel_rfl) rfl (by simp [Value.oneCell']) ?_;refine cast_w e11 ?_;go_simp))
 first|refine bodyPost_ret ?_ rfl fin.out|refine bodyPost_end ?_ rfl fin.out
 simp [results,Tryz.results76,go_sem,w0_,w1_,w2_,w3_,w4_,w5_,w6_,w7_,w8_,w9_,w10_,w11_,scV,sc20,rT20]
theorem lives20_calls(w:World)(R:Ending→World→Prop)(hR:Hid (∀w',Below w.heap.size w w'→R (.returned (.bool true)) w')):Calls Tryz.prog 36 #[] w R:=by
 have cE:=Lib.hid fun R hR=>example20_calls w R hR
 go_enter Tryz.func36,Tryz.ntmps36
 go_wp2_with fail
 refine cE.out _ (Lib.hid fun W0 lv ov tv nv pv rd m0=>?_);clear cE;have cB:=Lib.hid fun R h1 h2=>build18_calls sc20 gs20 (by decide) _ _ _ _ _ W0 rd R h1 h2
 go_wp2_with fail
 refine cB.out _ (Lib.hid fun W v hz pl m=>?_) (Lib.hid fun W hz m=>?_)
 case refine_2=>exact absurd (by rw [b20]) hz
 clear cB rd;have n0:=(F0.z w).bl (m0.trans (m.mono m0.size));obtain⟨qq,hq⟩:∃q:Int×Int,q=(0,0):=⟨_,rfl⟩;rw [←hq];obtain⟨q0,q1⟩:=qq;replace hq:=Lib.hid hq;obtain⟨W1,e5,n1,z5⟩:=n0.new (.cells #[.int .i64 q0,.int .i64 q1] 26);have m1:Below W.heap.size W W1:=e5▸(Below.refl _ _).alloc (Nat.le_refl _) _;have pl1:PlanP W1 v (nms sc20.1) (leqF sc20.1 sc20.2.1) (nms (tw sc20.2.2.1)) (plS sc20):=PlanP.below pl m1;obtain⟨W2,e6,n2,z6⟩:=n1.new (.cells #[.int .i64 1,.int .i64 0,.string ⟨#[120]⟩] 159);have m2:Below W1.heap.size W1 W2:=e6▸(Below.refl _ _).alloc (Nat.le_refl _) _;have pl2:=pl1.below m2;have rp:Pat.RdP W2 (.slice (some ⟨W1.heap.size,0,none⟩) 1 1) [(1,0,⟨#[120]⟩)]:=⟨_,1,1,rfl,rfl,Nat.le_refl _,fun _=>⟨_,0,rfl,n2.lt 0 rfl,fun j u e=>n2.rg 0 rfl j u e⟩⟩;have hLt:Latt (nms sc20.1).length (leqF sc20.1 sc20.2.1):=plan_latt pl1
 have cW:=Lib.hid fun R hR=>walk20_calls pl2 (good_bd o20.good) o20.good o20.inn.1 (o20.ed hLt) o20.inn.2 o20.num [(1,0,⟨#[120]⟩)] (fun s hs=>by
  obtain rfl:=List.mem_singleton.1 hs;exact⟨⟨by decide,by decide⟩,⟨by decide,by decide⟩,by show(1:Nat)≤maxLen;decide⟩) _ rp (by decide) R hR
 have hLt2:=Lib.hid (o20.ed hLt);replace pl2:=Lib.hid pl2;clear pl pl1 rp hLt m m0 m1 m2 n0 z5 z6 hz;go_upto_region 2 with fail
 clear e5;go_wp2_with fail
 refine cW.out _ (Lib.hid fun t W3 ht hb m3=>?_);clear cW e6;rw [show(nms sc20.1).length=2 from rfl]at ht hb ⊢;rw [wk20 t ht hb];have n3:=n2.bl m3;have cC:=Lib.hid fun R hR=>check20_calls (pl2.out.below m3) (good_bd o20.good) hLt2.out o20.num.2 R hR
 rw [ck20]at cC;clear n1 n2 m3 pl2 hLt2 ht hb;replace n3:=Lib.hid n3;go_wp2_with fail
 refine cC.out _ (Lib.hid fun W4 m4=>?_);have fin:=Lib.hid (hR.out W4 (F0.bel (n3.out.bl m4)));clear cC n3 m4 hR;go_wp2_with fail
 exact fin.out
end Eff
end Go.Proofs.YtabhkakomececaaGreat
