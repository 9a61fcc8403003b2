import Derived.Test.YtgnfknjopafngaaGreatDoorKuat
set_option maxRecDepth 100000
set_option maxHeartbeats 16000000
namespace Go.Proofs.YtgnfknjopafngaaGreatDoor
open Go.RowKit Go.Maps
theorem Zgo{w:World}{j:Nat}{t:TypeId}{a b c:Int}{N:ByteArray}(h:w.heap[j]? = some (.cells #[.int .i64 a,.int .i64 b,.int .i64 c,.string N] t (0,0)))(f:M.Fa):
 ((((w.setCell ⟨j,0,none⟩ (.int .i64 f.kind)).setCell ⟨j,1,none⟩ (.int .i64 f.which)).setCell ⟨j,2,none⟩ (.int .i64 f.line)).setCell ⟨j,3,none⟩ (.string ⟨f.name.toArray⟩)).heap[j]? = some (.cells (fC f) t (0,0))/\
 Chg (fun i=>i=j) w ((((w.setCell ⟨j,0,none⟩ (.int .i64 f.kind)).setCell ⟨j,1,none⟩ (.int .i64 f.which)).setCell ⟨j,2,none⟩ (.int .i64 f.line)).setCell ⟨j,3,none⟩ (.string ⟨f.name.toArray⟩)):=by
 have h1:=heap_setCell_same w j 0 _ _ (.int .i64 f.kind) h
 have h2:=heap_setCell_same _ j 1 _ _ (.int .i64 f.which) h1
 have h3:=heap_setCell_same _ j 2 _ _ (.int .i64 f.line) h2
 have h4:=heap_setCell_same _ j 3 _ _ (.string ⟨f.name.toArray⟩) h3
 refine⟨h4,?_⟩
 have g:∀ (X:World) (o:Nat) (v:Value),Chg (fun i=>i=j) X (X.setCell ⟨j,o,none⟩ v):=fun X o v=>Chg.grown (Zax X j o v) (fun i e _=>(Option.some.inj e).symm)
 exact(((g _ _ _).then (g _ _ _) (fun _ _ e=>e)).then (g _ _ _) (fun _ _ e=>e)).then (g _ _ _) (fun _ _ e=>e)
theorem Zec{w:World}{b:Nat}{t:TypeId}{f:M.Fa}(h:w.heap[b]? = some (.cells (fC f) t (0,0))):w.cell? ⟨b,0,none⟩=some (.int .i64 f.kind)/\w.cell? ⟨b,1,none⟩=some (.int .i64 f.which)/\w.cell? ⟨b,2,none⟩=some (.int .i64 f.line)/\w.cell? ⟨b,3,none⟩=some (.string ⟨f.name.toArray⟩)/\∀ o,w.frozen? ⟨b,o,none⟩=false:=
 ⟨(cell_of_row w _ 0 _ _ (0,0) h).trans rfl,(cell_of_row w _ 1 _ _ (0,0) h).trans rfl,(cell_of_row w _ 2 _ _ (0,0) h).trans rfl,(cell_of_row w _ 3 _ _ (0,0) h).trans rfl,fun o=>frozen_of_row w _ o _ _ h⟩
def SeB(K:Prop)(W:World)(F:Nat->Prop)(x n:Nat)(l m:List M.Pk)(lb:Bool):Prop:=(lb=false/\∃ D,(K->M.Zfl D)/\Live W F x n D l)\/(lb=true/\¬ K/\Gone W F x n (fun q=>q=l\/(lb=true/\q=m)))
theorem SeB.at{K:Prop}{W:World}{F:Nat->Prop}{x n:Nat}{l m:List M.Pk}{lb:Bool}(h:SeB K W F x n l m lb):Ztp K W F x n l m lb:=by
 rcases h with h|⟨_,h⟩
 ·exact .inl h
 ·exact .inr h
theorem SeB.lost{K:Prop}{W:World}{F:Nat->Prop}{x n:Nat}{l m:List M.Pk}{lb:Bool}(h:SeB K W F x n l m lb):Calls Tryz.prog 32 #[.pointer (some ⟨x,0,none⟩)] W fun e w'=>e=.returned (.bool lb)/\W=w':=by
 rcases h with ⟨rfl,D,_,h⟩|⟨rfl,_,h⟩
 ·exact h.lost
 ·exact h.lost
theorem SeB.chg{K:Prop}{W W':World}{F G:Nat->Prop}{x n:Nat}{l m:List M.Pk}{lb:Bool}(h:SeB K W F x n l m lb)(hc:Chg G W W')(ht:Zbm G W)(hu:Ztd G W)(hh:∀ j,G j->1<j)(hd:∀ j,F j->¬ G j):SeB K W' F x n l m lb:=by
 rcases h with ⟨h0,D,hk,h⟩|⟨h0,hk,h⟩
 ·exact .inl ⟨h0,D,hk,h.chg hc ht hu hh hd⟩
 ·exact .inr ⟨h0,hk,h.chg hc hu hh hd⟩
structure Mid (K:Prop) (W:World) (B wb x n:Nat) (F:Nat->Prop) (av tv ov hv xv:Value) (all qQ:List M.Pk) (qK lb:Bool) (qJ:List ByteArray):Prop where
 sb:SeB K W F x n all qQ lb
 lr:Lr K W B x n F av tv all qQ lb
 blk:W.heap[wb]? = some (.cells (wC x n tv ov qK hv) 79 (0,0))
 own:W.ownsRow B 9 1 hv qJ.length (qJ.map Value.string)
 hz:qJ.length=0->hv=.slice none 0 0
 wB:B<=wb
 hi:1<B
 xs:Za8 W xv qJ
theorem Live.noStr{W:World}{F:Nat->Prop}{x n:Nat}{D:M.Dk}{l:List M.Pk}(h:Live W F x n D l):Yav F W:=by
 obtain⟨d,s,k,b,qY,hv,sv,lv,h1,h2⟩:=h
 exact fun j hj=>h1.noStr j ((h2 j).1 hj)
theorem Lw.turned{K:Prop}{w W3 w4:World}{B wb x n:Nat}{F:Nat->Prop}{tv ov hv xv av:Value}{qQ orl all:List M.Pk}{qK:Bool}{qJ:List ByteArray}{D:M.Dk}(h:Lw K w B wb x n F tv ov hv qQ orl qK qJ)(hl:Live w F x n D qQ)(hk:K->M.Zfl D)(hx:Za8 w xv qJ)(hB3:Below w.heap.size w W3)(hp:Zbc W3 av all)(ht:Zjt W3 av all)(hs:SeTo (.inr all) F x n D qQ W3 w4):
 (∃ F' lb,Mid K w4 B wb x n F' av tv ov hv xv all qQ qK lb qJ)/\Below B w w4/\∀ (j:Nat) (c:Array Value) (t:TypeId) (f:Nat × Nat),W3.heap[j]? = some (.cells c t f)->¬ Ycg t->w4.heap[j]? = some (.cells c t f):=by
 obtain⟨F',hc,hF,q1,q2,hse⟩:=hs
 have h3:=h.below hB3
 have hBw:B<=w.heap.size:=by have:=h.lt;have:=h.wB;omega
 obtain⟨⟨a1,a2⟩,_,a5,a6,a7⟩:=h3.around hc
 have hnt:=h3.se.noText
 have hxs:=Zso (hx.below hB3) hc (hl.below hB3).noStr
 have hFB:∀ j,F' j->B<=j:=fun j hj=>by
  rcases hF j hj with e|e
  ·exact h.FB j e
  ·have:=hB3.size;omega
 refine⟨?_,(hB3.mono hBw).trans a7,fun j c t f hj hty=>h3.beside hc hj hty⟩
 have hpa:=hp.chg ht hc hnt (fun p hp=>(q1.back p hp).few)
 have hta:=ht.chg hc hnt
 have mk:∀ lb,SeB K w4 F' x n all qQ lb->Mid K w4 B wb x n F' av tv ov hv xv all qQ qK lb qJ:=fun lb hb=>⟨hb,⟨hb.at,hpa,hta,a1,a2,q1,q2,h.tog,h.room,h.n1,h.n2,hFB⟩,a5,a6,h.hz,h.wB,h.hi,hxs⟩
 rcases hse with ⟨D',hs1,hL⟩|⟨hs1,hG⟩
 ·exact⟨F',false,mk _ (.inl ⟨rfl,D',fun k=>hs1 (hk k),hL⟩)⟩
 ·refine⟨F',true,mk _ (.inr ⟨rfl,fun k=>hs1 (hk k),?_⟩)⟩
  simpa using hG
theorem Mid.beside{K:Prop}{W W':World}{B wb x n j:Nat}{F:Nat->Prop}{av tv ov hv xv:Value}{all qQ:List M.Pk}{qK lb:Bool}{qJ:List ByteArray}{a b c:Int}{N:ByteArray}(h:Mid K W B wb x n F av tv ov hv xv all qQ qK lb qJ)(hj:W.heap[j]? = some (.cells #[.int .i64 a,.int .i64 b,.int .i64 c,.string N] 23 (0,0)))(hB:B<=j)(hc:Chg (fun i=>i=j) W W'):Mid K W' B wb x n F av tv ov hv xv all qQ qK lb qJ:=by
 have h0:W.cell? ⟨j,0,none⟩=some (.int .i64 a):=(cell_of_row W _ 0 _ _ (0,0) hj).trans rfl
 have hnt:Zbm (fun i=>i=j) W:=Zbm.one hj (fun s e=>by cases e) (fun a n p e=>by cases e)
 have hu:Ztd (fun i=>i=j) W:=Zjn hj (by decide)
 have hh:∀ i,i=j->1<i:=fun i e=>by have:=h.hi;omega
 have hd:∀ i,F i->¬ i=j:=fun i hi e=>by
  subst e
  exact h.lr.se.off hj (by decide) hi
 refine⟨h.sb.chg hc hnt hu hh hd,h.lr.chg hc hnt hu hh hd,(hc.block _ (ges.1 h.blk).1 (Zfx h.blk hj (by decide))).trans h.blk,?_,h.hz,h.wB,h.hi,Zso h.xs hc (fun k e s e2=>?_)⟩
 ·refine hc.own h.own (fun g hg e=>?_)
  by_cases hm:qJ.length=0
  ·rw[h.hz hm] at hg;cases hg
  ·obtain⟨g2,cap,cur,_,hg',_,hb'⟩:=Zc8 h.own (by omega)
   rw[hb'] at hg
   cases hg
   exact Zfx hg' hj (by decide) e
 ·subst e
  rw[h0] at e2
  cases e2
theorem SeB.wb{K:Prop}{W:World}{F:Nat->Prop}{wb x n:Nat}{l m:List M.Pk}{lb:Bool}{c:Array Value}(h:SeB K W F x n l m lb)(hb:W.heap[wb]? = some (.cells c 79 (0,0)))(h0:c[0]? = some (.pointer (some ⟨x,0,none⟩)))(hhi:1<wb)(o:Nat)(v:Value):SeB K (W.setCell ⟨wb,o,none⟩ v) F x n l m lb:=by
 have hc:Chg (fun j=>j=wb) W (W.setCell ⟨wb,o,none⟩ v):=Chg.grown (Zax W wb o v) (fun i e _=>(Option.some.inj e).symm)
 refine h.chg hc (Zbm.one hb (fun s e=>?_) (fun a m p e=>?_)) (Zjn hb (by decide)) (fun j e=>by rw[e];exact hhi) (fun j hj e=>?_)
 ·rw[h0] at e;cases e
 ·rw[h0] at e;cases e
 ·subst e
  exact h.at.off hb (by decide) hj
theorem Yan{W:World}{wb x n:Nat}{tv ov hv xv:Value}{qK:Bool}{qJ:List ByteArray}(hb:W.heap[wb]? = some (.cells (wC x n tv ov qK hv) 79 (0,0)))(h:Za8 W xv qJ)(o:Nat)(v:Value):Za8 (W.setCell ⟨wb,o,none⟩ v) xv qJ:=by
 have hc:Chg (fun j=>j=wb) W (W.setCell ⟨wb,o,none⟩ v):=Chg.grown (Zax W wb o v) (fun i e _=>(Option.some.inj e).symm)
 refine Zso h hc (fun k e s e2=>?_)
 subst e
 have e3:W.cell? ⟨k,0,none⟩=some (.pointer (some ⟨x,0,none⟩)):=(cell_of_row W _ 0 _ _ (0,0) hb).trans rfl
 rw[e3] at e2
 cases e2
theorem Mid.set{K:Prop}{W:World}{B wb x n:Nat}{F:Nat->Prop}{av tv ov hv xv tv' ov':Value}{all qQ:List M.Pk}{qK lb maybe':Bool}{qJ:List ByteArray}{o:Nat}{v:Value}(h:SeB K W F x n all qQ lb/\Lr K W B x n F av tv all qQ lb/\W.heap[wb]? = some (.cells (wC x n tv' ov qK hv) 79 (0,0))/\W.ownsRow B 9 1 hv qJ.length (qJ.map Value.string)/\Za8 W xv qJ)(hz:qJ.length=0->hv=.slice none 0 0)(hhi:1<wb){tv2:Value}(he:(W.setCell ⟨wb,o,none⟩ v).heap[wb]? = some (.cells (wC x n tv2 ov' maybe' hv) 79 (0,0))):
 SeB K (W.setCell ⟨wb,o,none⟩ v) F x n all qQ lb/\Lr K (W.setCell ⟨wb,o,none⟩ v) B x n F av tv all qQ lb/\(W.setCell ⟨wb,o,none⟩ v).heap[wb]? = some (.cells (wC x n tv2 ov' maybe' hv) 79 (0,0))/\(W.setCell ⟨wb,o,none⟩ v).ownsRow B 9 1 hv qJ.length (qJ.map Value.string)/\Za8 (W.setCell ⟨wb,o,none⟩ v) xv qJ:=by
 obtain⟨h1,h2,h3,h4,h5⟩:=h
 exact⟨h1.wb h3 rfl hhi o v,h2.wb h3 rfl hhi o v,he,Zz4 h3 h4 hz o v,Yan h3 h5 o v⟩
theorem Mid.becomes{K:Prop}{W:World}{B wb x n:Nat}{F:Nat->Prop}{ov hv xv:Value}{all qQ:List M.Pk}{qK lb:Bool}{qJ:List ByteArray}{a c tn tc:Nat}{aa ta:Option Addr}(h:Mid K W B wb x n F (.slice aa a c) (.slice ta tn tc) ov hv xv all qQ qK lb qJ):
 Calls Tryz.prog 107 #[.pointer (some ⟨wb,0,none⟩),.slice aa a c] W fun e w'=>(∃ v,e=.returned v)/\Lw K w' B wb x n F (.slice aa a c) (.slice ta tn tc) hv all qQ lb qJ/\SeB K w' F x n all qQ lb/\Za8 w' xv qJ/\Below B W w'/\∀ j,j≠wb->w'.heap[j]? = W.heap[j]?:=by
 have hhi:1<wb:=by have:=h.hi;have:=h.wB;omega
 have g1:=Mid.set (o:=3) (v:=.slice ta tn tc) ⟨h.sb,h.lr,h.blk,h.own,h.xs⟩ h.hz hhi (maybe':=qK) (ov':=.slice ta tn tc) (tv2:=.slice ta tn tc) (heap_setCell_same W _ 3 _ _ _ h.blk)
 have g2:=Mid.set (o:=2) (v:=.slice aa a c) g1 h.hz hhi (maybe':=qK) (ov':=.slice ta tn tc) (tv2:=.slice aa a c) (heap_setCell_same _ _ 2 _ _ _ g1.2.2.1)
 have g3:=Mid.set (o:=4) (v:=.bool lb) g2 h.hz hhi (maybe':=lb) (ov':=.slice ta tn tc) (tv2:=.slice aa a c) (heap_setCell_same _ _ 4 _ _ _ g2.2.2.1)
 refine(Zx1 a c aa ta tn tc rfl lb h.blk (fun W1 e=>?_)).mono ?_
 ·rw[e]
  exact g2.1.lost
 ·rintro e w' ⟨he,rfl⟩
  obtain⟨k1,k2,k3,k4,k5⟩:=g3
  refine⟨he,⟨k2,k3,k4,h.hz,h.wB,h.hi⟩,k1,k5,(((Below.refl _ W).setCell h.wB _).setCell h.wB _).setCell h.wB _,fun j hj=>?_⟩
  rw[Below.heap_setCell _ _ _ _ hj,Below.heap_setCell _ _ _ _ hj,Below.heap_setCell _ _ _ _ hj]
theorem Zos{K:Prop}{w:World}{B wb x n:Nat}{F:Nat->Prop}{tv ov hv:Value}{qQ orl:List M.Pk}{qK:Bool}{qJ:List ByteArray}{D:M.Dk}(h:Lw K w B wb x n F tv ov hv qQ orl qK qJ)(hl:Live w F x n D qQ)(hk:K->M.Zfl D)(xa:Option Addr)(xc:Nat)(hx:Za8 w (.slice xa qJ.length xc) qJ)(hxn:qJ.length<=10000)(hxs:∀ t∈qJ,t.size<=8192):
 Calls Tryz.prog 65 #[.pointer (some ⟨wb,0,none⟩),.int .i64 3,.slice xa qJ.length xc] w (Zh9 K w B wb x n qJ):=by
 have hBw:B<=w.heap.size:=by have:=h.lt;have:=h.wB;omega
 obtain⟨c0,c1,c2,-,-,-,-⟩:=h.cells
 obtain⟨ta,tc,et⟩:=h.tp.form
 subst et
 obtain⟨ah,ch,eh⟩:=Zac h.own
 subst eh
 have cI:=fun wx (hb:Below w.heap.size w wx)=>Zyx (h.tp.below hb) h.tog (Zhl h.tog h.room h.n2).1 h.n2 (hx.below hb) hxn hxs
 have cX:=fun wx (hb:Below w.heap.size w wx)=>(hl.below hb).install (.slice xa qJ.length xc) qJ (hx.below hb).txts hxn hxs
 have HD:=hid h
 have HX:Hid (Za8 w (.slice xa qJ.length xc) qJ/\Live w F x n D qQ/\(K->M.Zfl D)):=⟨hx,hl,hk⟩
 have HKI:Hid ((∀ f,M.Zap qQ (qJ.map fun t=>t.data.toList) (24*((n:Int)-8))=.inl f->(Zh1 (M.Zap qQ (qJ.map fun t=>t.data.toList) (24*((n:Int)-8)))).kind≠0)/\∀ all,M.Zap qQ (qJ.map fun t=>t.data.toList) (24*((n:Int)-8))=.inr all->(Zh1 (M.Zap qQ (qJ.map fun t=>t.data.toList) (24*((n:Int)-8)))).kind=0):=⟨fun f e=>by rw[e];have:=(Zt9 e).1;show f.kind≠0;omega,fun all e=>by rw[e];rfl⟩
 have hb1:Below w.heap.size w w.drew:=Zae w 1
 have hb2:Below w.heap.size w (w.alloc (.cells #[.int .i64 0,.int .i64 0,.int .i64 0,.string ⟨#[]⟩] 34)).drew:=bt ((Below.refl _ w).alloc ler _) (Zae _ 1)
 have hz0:(w.alloc (.cells #[.int .i64 0,.int .i64 0,.int .i64 0,.string ⟨#[]⟩] 34)).drew.heap[w.heap.size]? = some (.cells okC 34 (0,0)):=heap_alloc_new w _
 have hfew:∀ all,M.Zap qQ (qJ.map fun t=>t.data.toList) (24*((n:Int)-8))=.inr all->∀ p∈all,∀ y∈p.needs,y.length<=15:=fun all e p hp=>by
  obtain⟨_,_,_,_,_,q1,_,_⟩:=M.Zi3 e h.tog.back h.tog.apart
  exact(q1.back p hp).few
 generalize M.Zap qQ (qJ.map fun t=>t.data.toList) (24*((n:Int)-8))=R at cI cX hfew HKI
 unfold faV at cI cX
 generalize Zh1 R=f0 at cI cX HKI
 have hwlt:wb<w.heap.size:=h.lt
 clear h hl hx hxs hk
 go_enter Tryz.func65,Tryz.ntmps65
 go_wp2
 go_region_with (go_at_call 105;first|(refine(cI _ hb1).mono ?_;rintro e w1 ⟨aa,an,ac,rfl,hall,hB1⟩)|(refine(cI _ hb2).mono ?_;rintro e w1 ⟨aa,an,ac,rfl,hall,hB1⟩;have hz:=(hB1.block _ (by simp)).trans hz0;obtain⟨z0,z1,z2,z3,zf⟩:=Zcl hz))
 all_goals
  first
  | (obtain⟨W2,hW2⟩:∃ W2,W2=w1.alloc (.cells (fC f0) 34):=⟨_,rfl⟩
     have hBW:Below w.heap.size w W2:=by rw[hW2];exact bt hb1 (bt hB1 ((Below.refl _ w1).alloc ler _))
     have hfb:W2.heap[w1.heap.size]? = some (.cells (fC f0) 34 (0,0)):=by rw[hW2];exact heap_alloc_new w1 _
     have hall2:∀ all,R=.inr all->Zbc W2 (.slice aa an ac) all/\Zjt W2 (.slice aa an ac) all:=fun all e=>by
      rw[hW2]
      exact⟨(hall all e).1.below ((Below.refl _ w1).alloc ler _),(hall all e).2.below ((Below.refl _ w1).alloc ler _)⟩
     rw[show w1.alloc (.cells #[.int .i64 f0.kind,.int .i64 f0.which,.int .i64 f0.line,.string ⟨f0.name.toArray⟩] 34)=W2 from hW2.symm]
     generalize w1.heap.size=fb at hfb ⊢)
  | (obtain⟨s1,s2⟩:=Zgo hz f0
     obtain⟨W2,hW2⟩:∃ W2,W2=((((w1.setCell ⟨w.heap.size,0,none⟩ (.int .i64 f0.kind)).setCell ⟨w.heap.size,1,none⟩ (.int .i64 f0.which)).setCell ⟨w.heap.size,2,none⟩ (.int .i64 f0.line)).setCell ⟨w.heap.size,3,none⟩ (.string ⟨f0.name.toArray⟩)):=⟨_,rfl⟩
     rw[<-hW2] at s1 s2 ⊢
     have hB1':=bt hb2 hB1
     have hBW:Below w.heap.size w W2:=⟨s2.os.trans hB1'.os,s2.tape.trans hB1'.tape,s2.output.trans hB1'.output,Nat.le_trans hB1'.size s2.size,fun j hj=>(s2.block j (by have:=hB1'.size;omega) (fun e=>by omega)).trans (hB1'.block j hj)⟩
     have hfb:=s1
     have hnt:Zbm (fun i=>i=w.heap.size) w1:=Zbm.one hz (fun s e=>by cases e) (fun a n p e=>by cases e)
     have hall2:∀ all,R=.inr all->Zbc W2 (.slice aa an ac) all/\Zjt W2 (.slice aa an ac) all:=fun all e=>⟨(hall all e).1.chg (hall all e).2 s2 hnt (hfew all e),(hall all e).2.chg s2 hnt⟩
     clear z0 z1 z2 z3 zf hz s1 s2 hB1'
     generalize w.heap.size=fb at hfb ⊢)
  clear hW2
  obtain⟨W3,hW3⟩:∃ W3,W3=W2.alloc (.cells #[.int .i64 0,.int .i64 0,.int .i64 0,.string ⟨#[]⟩] 23):=⟨_,rfl⟩
  have hB23:Below W2.heap.size W2 W3:=by rw[hW3];exact(Below.refl _ W2).alloc ler _
  have hgb3:W3.heap[W2.heap.size]? = some (.cells okC 23 (0,0)):=by rw[hW3];exact heap_alloc_new W2 _
  have hfb3:=(hB23.block _ (ges.1 hfb).1).trans hfb
  have hB3:Below w.heap.size w W3:=bt hBW hB23
  have cX3:=cX W3 hB3
  have d0:W3.cell? ⟨wb,0,none⟩=some (.pointer (some ⟨x,0,none⟩)):=(hB3.cell (p:=⟨wb,0,none⟩) hwlt).trans c0
  rw[hW3] at d0
  have HW3:=hid hW3
  have H3:Hid (Below w.heap.size w W3/\(∀ all,R=.inr all->Zbc W3 (.slice aa an ac) all/\Zjt W3 (.slice aa an ac) all)/\W3.heap[W2.heap.size]? = some (.cells okC 23 (0,0))/\W3.heap[fb]? = some (.cells (fC f0) 34 (0,0))/\w.heap.size<=W2.heap.size):=⟨hB3,fun all e=>⟨(hall2 all e).1.below hB23,(hall2 all e).2.below hB23⟩,hgb3,hfb3,hBW.size⟩
  clear cI cX hfew hall hall2 hBW hfb hB23 hgb3 hfb3 hB3 hW3
 all_goals
  go_wp2_with fail
  rw[<-HW3.out]
  refine cX3.mono ?_
  rintro e w4 ⟨rfl,hSe⟩
  clear cX3 d0
  cases R with
  | inl f=>
   have hB4:Below W3.heap.size W3 w4:=hSe
   obtain⟨hB3,-,hgb3,hfb3,hsz⟩:=H3.out
   have hgb4:=(hB4.block _ (ges.1 hgb3).1).trans hgb3
   have hfb4:=(hB4.block _ (ges.1 hfb3).1).trans hfb3
   obtain⟨z0,z1,z2,z3,zf⟩:=Zcl hgb4
   obtain⟨y0,y1,y2,y3,yf⟩:=Zec hfb4
   obtain⟨s1,s2⟩:=Zgo hgb4 f0
   obtain⟨W5,hW5⟩:∃ W5,W5=((((w4.setCell ⟨W2.heap.size,0,none⟩ (.int .i64 f0.kind)).setCell ⟨W2.heap.size,1,none⟩ (.int .i64 f0.which)).setCell ⟨W2.heap.size,2,none⟩ (.int .i64 f0.line)).setCell ⟨W2.heap.size,3,none⟩ (.string ⟨f0.name.toArray⟩)):=⟨_,rfl⟩
   have HW5:=hid hW5
   rw[<-hW5] at s1 s2
   have hne:fb≠W2.heap.size:=Zfx hfb4 hgb4 (by decide)
   have hne2:wb≠W2.heap.size:=by omega
   have hB34:=bt hB3 hB4
   have hB5:Below w.heap.size w W5:=⟨s2.os.trans hB34.os,s2.tape.trans hB34.tape,s2.output.trans hB34.output,Nat.le_trans hB34.size s2.size,fun j hj=>(s2.block j (by have:=hB34.size;omega) (fun e=>by omega)).trans (hB34.block j hj)⟩
   have hfb5:=(s2.block fb (ges.1 hfb4).1 hne).trans hfb4
   have h5:=HD.out.below hB5
   have cL:=(HX.out.2.1.below hB5).lost
   have cS:=Zlg _ _ qJ qJ W5 (HX.out.1.below hB5) (Zkr h5.own) (by omega) (by omega)
   rw[decide_eq_true rfl] at cS
   have e0:w4.cell? ⟨wb,0,none⟩=some (.pointer (some ⟨x,0,none⟩)):=(hB34.cell (p:=⟨wb,0,none⟩) hwlt).trans c0
   obtain⟨d0,-,-,-,-,d5,-⟩:=h5.cells
   have hkq:((f0.kind:Int) == 0)=false:=by have:=HKI.out.1 f rfl;simp;omega
   have H5:Hid (Lw K W5 B wb x n F (.slice ta qQ.length tc) ov (.slice ah qJ.length ch) qQ orl qK qJ/\Below B w W5/\W5.heap[W2.heap.size]? = some (.cells (fC f0) 23 (0,0))/\W5.heap[fb]? = some (.cells (fC f0) 34 (0,0))):=⟨h5,hB5.mono hBw,s1,hfb5⟩
   clear hSe hB4 hB3 hgb3 hfb3 hgb4 hfb4 s1 s2 hW5 hB34 hB5 hfb5 h5 H3
   go_wp2_with fail
   rw[<-HW5.out]
   refine cL.mono ?_
   rintro e w5 ⟨rfl,e5⟩
   obtain rfl:=e5
   clear cL z0 z1 z2 z3 zf y0 y1 y2 y3 yf e0 d0
   go_wp2_with fail
   refine cS.mono ?_
   rintro e w6 ⟨rfl,hB6⟩
   obtain⟨k1,k2,k3,k4⟩:=H5.out
   obtain⟨z0,z1,z2,z3,zf⟩:=Zec ((hB6.block _ (ges.1 k3).1).trans k3)
   obtain⟨y0,y1,y2,y3,yf⟩:=Zec ((hB6.block _ (ges.1 k4).1).trans k4)
   have H6:Hid (∀ w7,Below w6.heap.size w6 w7->Lw K w7 B wb x n F (.slice ta qQ.length tc) ov (.slice ah qJ.length ch) qQ orl qK qJ/\Below B w w7):=fun w7 hb=>⟨k1.below (bt hB6 hb),k2.trans ((bt hB6 hb).mono (Nat.le_trans hBw k2.size))⟩
   clear cS d5 hB6 k1 k2 k3 k4
   go_wp2_with fail
   refine(Zfd _ _ _ _ w6).mono ?_
   rintro e w7 ⟨rfl,hB7⟩
   have H7:Hid _:=H6.out w7 hB7
   clear hB7 H6 z0 z1 z2 z3 zf y0 y1 y2 y3 yf
   go_wp2
   go_ret
   exact⟨rfl,H7.out.2,_,_,_,_,_,_,_,H7.out.1⟩
  | inr all=>
   obtain⟨hB3,hall3,hgb3,hfb3,hsz⟩:=H3.out
   obtain⟨⟨F',lb,hM⟩,hBB,hkeep⟩:=HD.out.turned HX.out.2.1 HX.out.2.2 HX.out.1 hB3 (hall3 all rfl).1 (hall3 all rfl).2 hSe
   have hgb4:=hkeep _ _ _ _ hgb3 (by decide)
   have hfb4:=hkeep _ _ _ _ hfb3 (by decide)
   obtain⟨z0,z1,z2,z3,zf⟩:=Zcl hgb4
   obtain⟨y0,y1,y2,y3,yf⟩:=Zec hfb4
   obtain⟨s1,s2⟩:=Zgo hgb4 f0
   obtain⟨W5,hW5⟩:∃ W5,W5=((((w4.setCell ⟨W2.heap.size,0,none⟩ (.int .i64 f0.kind)).setCell ⟨W2.heap.size,1,none⟩ (.int .i64 f0.which)).setCell ⟨W2.heap.size,2,none⟩ (.int .i64 f0.line)).setCell ⟨W2.heap.size,3,none⟩ (.string ⟨f0.name.toArray⟩)):=⟨_,rfl⟩
   have HW5:=hid hW5
   rw[<-hW5] at s1 s2
   have hne:fb≠W2.heap.size:=Zfx hfb4 hgb4 (by decide)
   have hne2:wb≠W2.heap.size:=by omega
   have hM5:=hM.beside hgb4 (by omega) s2
   have hB5:Below B w W5:=⟨s2.os.trans hBB.os,s2.tape.trans hBB.tape,s2.output.trans hBB.output,Nat.le_trans hBB.size s2.size,fun j hj=>(s2.block j (by have:=hBB.size;omega) (fun e=>by omega)).trans (hBB.block j hj)⟩
   have hfb5:=(s2.block fb (ges.1 hfb4).1 hne).trans hfb4
   have cB:=hM5.becomes
   have hwf:fb≠wb:=Zfx hfb5 hM5.blk (by decide)
   have hwg:W2.heap.size≠wb:=fun e=>hne2 e.symm
   have hkq:((f0.kind:Int) == 0)=true:=by have:=HKI.out.2 all rfl;simp;omega
   have H5:Hid (Below B w W5/\W5.heap[W2.heap.size]? = some (.cells (fC f0) 23 (0,0))/\W5.heap[fb]? = some (.cells (fC f0) 34 (0,0))):=⟨hB5,s1,hfb5⟩
   clear hSe hB3 hgb3 hfb3 hgb4 hfb4 s1 s2 hW5 hB5 hfb5 hM hBB hkeep hall3 H3 hM5
   go_wp2_with fail
   rw[<-HW5.out]
   refine cB.mono ?_
   rintro e w6 ⟨⟨v6,rfl⟩,hL6,hS6,hX6,hB6,hbl⟩
   have cL:=hS6.lost
   have cS:=Zlg _ _ qJ qJ w6 hX6 (Zkr hL6.own) (by omega) (by omega)
   rw[decide_eq_true rfl] at cS
   obtain⟨d0,-,-,-,-,d5,-⟩:=hL6.cells
   have H6:Hid (Lw K w6 B wb x n F' (.slice aa an ac) (.slice ta qQ.length tc) (.slice ah qJ.length ch) all qQ lb qJ/\Below B w w6/\w6.heap[W2.heap.size]? = some (.cells (fC f0) 23 (0,0))/\w6.heap[fb]? = some (.cells (fC f0) 34 (0,0))):=⟨hL6,H5.out.1.trans hB6,(hbl _ hwg).trans H5.out.2.1,(hbl _ hwf).trans H5.out.2.2⟩
   clear cB hL6 hS6 hX6 hB6 hbl z0 z1 z2 z3 zf y0 y1 y2 y3 yf
   go_wp2_with fail
   refine cL.mono ?_
   rintro e w7 ⟨rfl,e7⟩
   obtain rfl:=e7
   clear cL d0
   go_wp2_with fail
   refine cS.mono ?_
   rintro e w7 ⟨rfl,hB7⟩
   obtain⟨k1,k2,k3,k4⟩:=H6.out
   obtain⟨z0,z1,z2,z3,zf⟩:=Zec ((hB7.block _ (ges.1 k3).1).trans k3)
   obtain⟨y0,y1,y2,y3,yf⟩:=Zec ((hB7.block _ (ges.1 k4).1).trans k4)
   have H7:Hid (∀ w8,Below w7.heap.size w7 w8->Lw K w8 B wb x n F' (.slice aa an ac) (.slice ta qQ.length tc) (.slice ah qJ.length ch) all qQ lb qJ/\Below B w w8):=fun w8 hb=>⟨k1.below (bt hB7 hb),k2.trans ((bt hB7 hb).mono (Nat.le_trans hBw k2.size))⟩
   clear cS d5 hB7 k1 k2 k3 k4
   go_wp2_with fail
   refine(Zfd _ _ _ _ w7).mono ?_
   rintro e w8 ⟨rfl,hB8⟩
   have H8:Hid _:=H7.out w8 hB8
   clear hB8 H7 z0 z1 z2 z3 zf y0 y1 y2 y3 yf
   cases lb with
   | true=>
    go_wp2
    go_ret
    exact⟨rfl,H8.out.2,_,_,_,_,_,_,_,H8.out.1⟩
   | false=>
    go_wp2
    go_ret
    exact⟨rfl,H8.out.2,_,_,_,_,_,_,_,H8.out.1⟩
theorem Ya5{W:World}{tv xv:Value}{qQ:List M.Pk}{qJ:List ByteArray}(tp:Zbc W tv qQ)(tog:M.Tog qQ)(hl:qQ.length<=600)(hx:Za8 W xv qJ)(hxn:qJ.length<=10000):
 Calls Tryz.prog 106 #[tv,xv] W fun e w'=>∃ aa an ac,e=.returned (.tuple #[.slice aa an ac,faV (Zh1 (M.Za6 qQ (qJ.map fun t=>t.data.toList)))])/\(∀ all,M.Za6 qQ (qJ.map fun t=>t.data.toList)=.inr all->Zbc w' (.slice aa an ac) all/\Zjt w' (.slice aa an ac) all)/\Below W.heap.size W w':=by
 refine(Zx9 tv xv qQ qJ W tp hx (by omega) (by omega) (fun p hp=>(Zbb.of (tog.back p hp)).smallQ.1)).mono ?_
 rintro e w' ⟨hB,hm⟩
 cases hR:M.Za6 qQ (qJ.map fun t=>t.data.toList) with
 | inl f=>
  rw[hR] at hm
  exact⟨none,0,0,hm,(fun all e=>by cases e),hB⟩
 | inr all=>
  rw[hR] at hm
  obtain⟨av,rfl,h1,h2⟩:=hm
  obtain⟨a,c,rfl⟩:=h1.form
  exact⟨a,_,c,rfl,(fun all' e=>by cases e;exact⟨h1,h2⟩),hB⟩
theorem Zqg{K:Prop}{w:World}{B wb x n:Nat}{F:Nat->Prop}{tv ov hv:Value}{qQ orl:List M.Pk}{qK:Bool}{qJ:List ByteArray}{D:M.Dk}(h:Lw K w B wb x n F tv ov hv qQ orl qK qJ)(hl:Live w F x n D qQ)(hk:K->M.Zfl D)(xa:Option Addr)(xc:Nat)(hx:Za8 w (.slice xa qJ.length xc) qJ)(hxn:qJ.length<=10000)(hxs:∀ t∈qJ,t.size<=8192):
 Calls Tryz.prog 65 #[.pointer (some ⟨wb,0,none⟩),.int .i64 4,.slice xa qJ.length xc] w (Zh9 K w B wb x n qJ):=by
 have hBw:B<=w.heap.size:=by have:=h.lt;have:=h.wB;omega
 obtain⟨c0,c1,c2,-,-,-,-⟩:=h.cells
 obtain⟨ta,tc,et⟩:=h.tp.form
 subst et
 obtain⟨ah,ch,eh⟩:=Zac h.own
 subst eh
 have cI:=fun wx (hb:Below w.heap.size w wx)=>Zyx (h.tp.below hb) h.tog (Zhl h.tog h.room h.n2).1 h.n2 (hx.below hb) hxn hxs
 have cM:=fun wx (hb:Below w.heap.size w wx)=>Ya5 (h.tp.below hb) h.tog (Zhl h.tog h.room h.n2).1 (hx.below hb) hxn
 have cX:=fun wx (hb:Below w.heap.size w wx)=>(hl.below hb).remove (.slice xa qJ.length xc) qJ (hx.below hb).txts hxn hxs
 have HD:=hid h
 have HX:Hid (Za8 w (.slice xa qJ.length xc) qJ/\Live w F x n D qQ/\(K->M.Zfl D)):=⟨hx,hl,hk⟩
 have HKI:Hid ((∀ f,M.Za6 qQ (qJ.map fun t=>t.data.toList)=.inl f->(Zh1 (M.Za6 qQ (qJ.map fun t=>t.data.toList))).kind≠0)/\∀ all,M.Za6 qQ (qJ.map fun t=>t.data.toList)=.inr all->(Zh1 (M.Za6 qQ (qJ.map fun t=>t.data.toList))).kind=0):=⟨fun f e=>by rw[e];have:=(Zy4 e).1;show f.kind≠0;omega,fun all e=>by rw[e];rfl⟩
 have hb1:Below w.heap.size w w.drew:=Zae w 1
 have hb2:Below w.heap.size w (w.alloc (.cells #[.int .i64 0,.int .i64 0,.int .i64 0,.string ⟨#[]⟩] 34)).drew:=bt ((Below.refl _ w).alloc ler _) (Zae _ 1)
 have hz0:(w.alloc (.cells #[.int .i64 0,.int .i64 0,.int .i64 0,.string ⟨#[]⟩] 34)).drew.heap[w.heap.size]? = some (.cells okC 34 (0,0)):=heap_alloc_new w _
 have hfew:∀ all,M.Za6 qQ (qJ.map fun t=>t.data.toList)=.inr all->∀ p∈all,∀ y∈p.needs,y.length<=15:=fun all e p hp=>((M.Zl8 e h.tog).1.back p hp).few
 generalize M.Zap qQ (qJ.map fun t=>t.data.toList) (24*((n:Int)-8))=R1 at cI
 generalize M.Za6 qQ (qJ.map fun t=>t.data.toList)=R at cM cX hfew HKI
 unfold faV at cI cX cM
 generalize Zh1 R=f0 at cM cX HKI
 generalize Zh1 R1=f1 at cI
 have hwlt:wb<w.heap.size:=h.lt
 clear h hl hx hxs hk
 go_enter Tryz.func65,Tryz.ntmps65
 go_wp2
 go_region_with (go_at_call 105;first|(refine(cI _ hb1).mono ?_;rintro e w1 ⟨aa,an,ac,rfl,hall,hB1⟩)|(refine(cI _ hb2).mono ?_;rintro e w1 ⟨aa,an,ac,rfl,hall,hB1⟩;have hz:=(hB1.block _ (by simp)).trans hz0;obtain⟨z0,z1,z2,z3,zf⟩:=Zcl hz))
 all_goals
  first
  | (obtain⟨W2,hW2⟩:∃ W2,W2=w1.alloc (.cells (fC f1) 34):=⟨_,rfl⟩
     have hBV:Below w.heap.size w W2:=by rw[hW2];exact bt hb1 (bt hB1 ((Below.refl _ w1).alloc ler _))
     have hfv:W2.heap[w1.heap.size]? = some (.cells (fC f1) 34 (0,0)):=by rw[hW2];exact heap_alloc_new w1 _
     have hfw:w.heap.size<=w1.heap.size:=hB1.size
     rw[show w1.alloc (.cells #[.int .i64 f1.kind,.int .i64 f1.which,.int .i64 f1.line,.string ⟨f1.name.toArray⟩] 34)=W2 from hW2.symm]
     generalize w1.heap.size=fb at hfv hfw ⊢)
  | (obtain⟨s1,s2⟩:=Zgo hz f1
     obtain⟨W2,hW2⟩:∃ W2,W2=((((w1.setCell ⟨w.heap.size,0,none⟩ (.int .i64 f1.kind)).setCell ⟨w.heap.size,1,none⟩ (.int .i64 f1.which)).setCell ⟨w.heap.size,2,none⟩ (.int .i64 f1.line)).setCell ⟨w.heap.size,3,none⟩ (.string ⟨f1.name.toArray⟩)):=⟨_,rfl⟩
     rw[<-hW2] at s1 s2 ⊢
     have hB1':=bt hb2 hB1
     have hBV:Below w.heap.size w W2:=⟨s2.os.trans hB1'.os,s2.tape.trans hB1'.tape,s2.output.trans hB1'.output,Nat.le_trans hB1'.size s2.size,fun j hj=>(s2.block j (by have:=hB1'.size;omega) (fun e=>by omega)).trans (hB1'.block j hj)⟩
     have hfv:=s1
     have hfw:w.heap.size<=w.heap.size:=Nat.le_refl _
     clear z0 z1 z2 z3 zf hz s1 s2 hB1'
     obtain⟨fb,hfbe⟩:∃ fb,fb=w.heap.size:=⟨_,rfl⟩
     have hfw:w.heap.size<=fb:=by omega
     rw[<-hfbe] at hfv ⊢
     clear hfbe)
  clear hW2
  have v2:W2.cell? ⟨wb,2,none⟩=some (.slice ta qQ.length tc):=(hBV.cell (p:=⟨wb,2,none⟩) hwlt).trans c2
  have cM2:=cM W2 hBV
  clear cI cM hall
  go_wp2_with fail
  refine cM2.mono ?_
  rintro e wm ⟨aa,an,ac,rfl,hallm,hBm⟩
  clear cM2 v2
  have hfm:=(hBm.block _ (ges.1 hfv).1).trans hfv
  obtain⟨y0,y1,y2,y3,yf⟩:=Zec hfm
  obtain⟨s1,s2⟩:=Zgo hfm f0
  obtain⟨Wp,hWp⟩:∃ Wp,Wp=((((wm.setCell ⟨fb,0,none⟩ (.int .i64 f0.kind)).setCell ⟨fb,1,none⟩ (.int .i64 f0.which)).setCell ⟨fb,2,none⟩ (.int .i64 f0.line)).setCell ⟨fb,3,none⟩ (.string ⟨f0.name.toArray⟩)):=⟨_,rfl⟩
  rw[<-hWp] at s1 s2
  have hBm':=bt hBV hBm
  have hBW:Below w.heap.size w Wp:=⟨s2.os.trans hBm'.os,s2.tape.trans hBm'.tape,s2.output.trans hBm'.output,Nat.le_trans hBm'.size s2.size,fun j hj=>(s2.block j (by have:=hBm'.size;omega) (fun e=>by omega)).trans (hBm'.block j hj)⟩
  have hfb:=s1
  have hnt:Zbm (fun i=>i=fb) wm:=Zbm.one hfm (fun s e=>by cases e) (fun a n p e=>by cases e)
  have hall2:∀ all,R=.inr all->Zbc Wp (.slice aa an ac) all/\Zjt Wp (.slice aa an ac) all:=fun all e=>⟨(hallm all e).1.chg (hallm all e).2 s2 hnt (hfew all e),(hallm all e).2.chg s2 hnt⟩
  have hsp:Wp.heap.size=wm.heap.size:=by rw[hWp];simp
  clear s1 s2 hBm' hfm hallm hnt hfv hBV hBm
  obtain⟨W3,hW3⟩:∃ W3,W3=Wp.alloc (.cells #[.int .i64 0,.int .i64 0,.int .i64 0,.string ⟨#[]⟩] 23):=⟨_,rfl⟩
  have hB23:Below Wp.heap.size Wp W3:=by rw[hW3];exact(Below.refl _ Wp).alloc ler _
  have hgb3:W3.heap[wm.heap.size]? = some (.cells okC 23 (0,0)):=by rw[hW3,<-hsp];exact heap_alloc_new Wp _
  have hfb3:=(hB23.block _ (ges.1 hfb).1).trans hfb
  have hB3:Below w.heap.size w W3:=bt hBW hB23
  have cX3:=cX W3 hB3
  have d0:W3.cell? ⟨wb,0,none⟩=some (.pointer (some ⟨x,0,none⟩)):=(hB3.cell (p:=⟨wb,0,none⟩) hwlt).trans c0
  rw[hW3,hWp] at d0
  have HW3:Hid (W3=((((wm.setCell ⟨fb,0,none⟩ (.int .i64 f0.kind)).setCell ⟨fb,1,none⟩ (.int .i64 f0.which)).setCell ⟨fb,2,none⟩ (.int .i64 f0.line)).setCell ⟨fb,3,none⟩ (.string ⟨f0.name.toArray⟩)).alloc (.cells #[.int .i64 0,.int .i64 0,.int .i64 0,.string ⟨#[]⟩] 23)):=by rw[<-hWp];exact hW3
  have H3:Hid (Below w.heap.size w W3/\(∀ all,R=.inr all->Zbc W3 (.slice aa an ac) all/\Zjt W3 (.slice aa an ac) all)/\W3.heap[wm.heap.size]? = some (.cells okC 23 (0,0))/\W3.heap[fb]? = some (.cells (fC f0) 34 (0,0))/\w.heap.size<=wm.heap.size):=⟨hB3,fun all e=>⟨(hall2 all e).1.below hB23,(hall2 all e).2.below hB23⟩,hgb3,hfb3,by have:=hBW.size;omega⟩
  clear cX hfew hall2 hBW hfb hB23 hgb3 hfb3 hB3 hW3 hWp hsp
 all_goals
  go_wp2_with fail
  rw[<-HW3.out]
  refine cX3.mono ?_
  rintro e w4 ⟨rfl,hSe⟩
  clear cX3 d0 y0 y1 y2 y3 yf
  cases R with
  | inl f=>
   have hB4:Below W3.heap.size W3 w4:=hSe
   obtain⟨hB3,-,hgb3,hfb3,hsz⟩:=H3.out
   have hgb4:=(hB4.block _ (ges.1 hgb3).1).trans hgb3
   have hfb4:=(hB4.block _ (ges.1 hfb3).1).trans hfb3
   obtain⟨z0,z1,z2,z3,zf⟩:=Zcl hgb4
   obtain⟨y0,y1,y2,y3,yf⟩:=Zec hfb4
   obtain⟨s1,s2⟩:=Zgo hgb4 f0
   obtain⟨W5,hW5⟩:∃ W5,W5=((((w4.setCell ⟨wm.heap.size,0,none⟩ (.int .i64 f0.kind)).setCell ⟨wm.heap.size,1,none⟩ (.int .i64 f0.which)).setCell ⟨wm.heap.size,2,none⟩ (.int .i64 f0.line)).setCell ⟨wm.heap.size,3,none⟩ (.string ⟨f0.name.toArray⟩)):=⟨_,rfl⟩
   have HW5:=hid hW5
   rw[<-hW5] at s1 s2
   have hne:fb≠wm.heap.size:=Zfx hfb4 hgb4 (by decide)
   have hne2:wb≠wm.heap.size:=by omega
   have hB34:=bt hB3 hB4
   have hB5:Below w.heap.size w W5:=⟨s2.os.trans hB34.os,s2.tape.trans hB34.tape,s2.output.trans hB34.output,Nat.le_trans hB34.size s2.size,fun j hj=>(s2.block j (by have:=hB34.size;omega) (fun e=>by omega)).trans (hB34.block j hj)⟩
   have hfb5:=(s2.block fb (ges.1 hfb4).1 hne).trans hfb4
   have h5:=HD.out.below hB5
   have cL:=(HX.out.2.1.below hB5).lost
   have cS:=Zlg _ _ qJ qJ W5 (HX.out.1.below hB5) (Zkr h5.own) (by omega) (by omega)
   rw[decide_eq_true rfl] at cS
   have e0:w4.cell? ⟨wb,0,none⟩=some (.pointer (some ⟨x,0,none⟩)):=(hB34.cell (p:=⟨wb,0,none⟩) hwlt).trans c0
   obtain⟨d0,-,-,-,-,d5,-⟩:=h5.cells
   have hkq:((f0.kind:Int) == 0)=false:=by have:=HKI.out.1 f rfl;simp;omega
   have H5:Hid (Lw K W5 B wb x n F (.slice ta qQ.length tc) ov (.slice ah qJ.length ch) qQ orl qK qJ/\Below B w W5/\W5.heap[wm.heap.size]? = some (.cells (fC f0) 23 (0,0))/\W5.heap[fb]? = some (.cells (fC f0) 34 (0,0))):=⟨h5,hB5.mono hBw,s1,hfb5⟩
   clear hSe hB4 hB3 hgb3 hfb3 hgb4 hfb4 s1 s2 hW5 hB34 hB5 hfb5 h5 H3
   go_wp2_with fail
   rw[<-HW5.out]
   refine cL.mono ?_
   rintro e w5 ⟨rfl,e5⟩
   obtain rfl:=e5
   clear cL z0 z1 z2 z3 zf y0 y1 y2 y3 yf e0 d0
   go_wp2_with fail
   refine cS.mono ?_
   rintro e w6 ⟨rfl,hB6⟩
   obtain⟨k1,k2,k3,k4⟩:=H5.out
   obtain⟨z0,z1,z2,z3,zf⟩:=Zec ((hB6.block _ (ges.1 k3).1).trans k3)
   obtain⟨y0,y1,y2,y3,yf⟩:=Zec ((hB6.block _ (ges.1 k4).1).trans k4)
   have H6:Hid (∀ w7,Below w6.heap.size w6 w7->Lw K w7 B wb x n F (.slice ta qQ.length tc) ov (.slice ah qJ.length ch) qQ orl qK qJ/\Below B w w7):=fun w7 hb=>⟨k1.below (bt hB6 hb),k2.trans ((bt hB6 hb).mono (Nat.le_trans hBw k2.size))⟩
   clear cS d5 hB6 k1 k2 k3 k4
   go_wp2_with fail
   refine(Zfd _ _ _ _ w6).mono ?_
   rintro e w7 ⟨rfl,hB7⟩
   have H7:Hid _:=H6.out w7 hB7
   clear hB7 H6 z0 z1 z2 z3 zf y0 y1 y2 y3 yf
   go_wp2
   go_ret
   exact⟨rfl,H7.out.2,_,_,_,_,_,_,_,H7.out.1⟩
  | inr all=>
   obtain⟨hB3,hall3,hgb3,hfb3,hsz⟩:=H3.out
   obtain⟨⟨F',lb,hM⟩,hBB,hkeep⟩:=HD.out.turned HX.out.2.1 HX.out.2.2 HX.out.1 hB3 (hall3 all rfl).1 (hall3 all rfl).2 hSe
   have hgb4:=hkeep _ _ _ _ hgb3 (by decide)
   have hfb4:=hkeep _ _ _ _ hfb3 (by decide)
   obtain⟨z0,z1,z2,z3,zf⟩:=Zcl hgb4
   obtain⟨y0,y1,y2,y3,yf⟩:=Zec hfb4
   obtain⟨s1,s2⟩:=Zgo hgb4 f0
   obtain⟨W5,hW5⟩:∃ W5,W5=((((w4.setCell ⟨wm.heap.size,0,none⟩ (.int .i64 f0.kind)).setCell ⟨wm.heap.size,1,none⟩ (.int .i64 f0.which)).setCell ⟨wm.heap.size,2,none⟩ (.int .i64 f0.line)).setCell ⟨wm.heap.size,3,none⟩ (.string ⟨f0.name.toArray⟩)):=⟨_,rfl⟩
   have HW5:=hid hW5
   rw[<-hW5] at s1 s2
   have hne:fb≠wm.heap.size:=Zfx hfb4 hgb4 (by decide)
   have hne2:wb≠wm.heap.size:=by omega
   have hM5:=hM.beside hgb4 (by omega) s2
   have hB5:Below B w W5:=⟨s2.os.trans hBB.os,s2.tape.trans hBB.tape,s2.output.trans hBB.output,Nat.le_trans hBB.size s2.size,fun j hj=>(s2.block j (by have:=hBB.size;omega) (fun e=>by omega)).trans (hBB.block j hj)⟩
   have hfb5:=(s2.block fb (ges.1 hfb4).1 hne).trans hfb4
   have cB:=hM5.becomes
   have hwf:fb≠wb:=Zfx hfb5 hM5.blk (by decide)
   have hwg:wm.heap.size≠wb:=fun e=>hne2 e.symm
   have hkq:((f0.kind:Int) == 0)=true:=by have:=HKI.out.2 all rfl;simp;omega
   have H5:Hid (Below B w W5/\W5.heap[wm.heap.size]? = some (.cells (fC f0) 23 (0,0))/\W5.heap[fb]? = some (.cells (fC f0) 34 (0,0))):=⟨hB5,s1,hfb5⟩
   clear hSe hB3 hgb3 hfb3 hgb4 hfb4 s1 s2 hW5 hB5 hfb5 hM hBB hkeep hall3 H3 hM5
   go_wp2_with fail
   rw[<-HW5.out]
   refine cB.mono ?_
   rintro e w6 ⟨⟨v6,rfl⟩,hL6,hS6,hX6,hB6,hbl⟩
   have cL:=hS6.lost
   have cS:=Zlg _ _ qJ qJ w6 hX6 (Zkr hL6.own) (by omega) (by omega)
   rw[decide_eq_true rfl] at cS
   obtain⟨d0,-,-,-,-,d5,-⟩:=hL6.cells
   have H6:Hid (Lw K w6 B wb x n F' (.slice aa an ac) (.slice ta qQ.length tc) (.slice ah qJ.length ch) all qQ lb qJ/\Below B w w6/\w6.heap[wm.heap.size]? = some (.cells (fC f0) 23 (0,0))/\w6.heap[fb]? = some (.cells (fC f0) 34 (0,0))):=⟨hL6,H5.out.1.trans hB6,(hbl _ hwg).trans H5.out.2.1,(hbl _ hwf).trans H5.out.2.2⟩
   clear cB hL6 hS6 hX6 hB6 hbl z0 z1 z2 z3 zf y0 y1 y2 y3 yf
   go_wp2_with fail
   refine cL.mono ?_
   rintro e w7 ⟨rfl,e7⟩
   obtain rfl:=e7
   clear cL d0
   go_wp2_with fail
   refine cS.mono ?_
   rintro e w7 ⟨rfl,hB7⟩
   obtain⟨k1,k2,k3,k4⟩:=H6.out
   obtain⟨z0,z1,z2,z3,zf⟩:=Zec ((hB7.block _ (ges.1 k3).1).trans k3)
   obtain⟨y0,y1,y2,y3,yf⟩:=Zec ((hB7.block _ (ges.1 k4).1).trans k4)
   have H7:Hid (∀ w8,Below w7.heap.size w7 w8->Lw K w8 B wb x n F' (.slice aa an ac) (.slice ta qQ.length tc) (.slice ah qJ.length ch) all qQ lb qJ/\Below B w w8):=fun w8 hb=>⟨k1.below (bt hB7 hb),k2.trans ((bt hB7 hb).mono (Nat.le_trans hBw k2.size))⟩
   clear cS d5 hB7 k1 k2 k3 k4
   go_wp2_with fail
   refine(Zfd _ _ _ _ w7).mono ?_
   rintro e w8 ⟨rfl,hB8⟩
   have H8:Hid _:=H7.out w8 hB8
   clear hB8 H7 z0 z1 z2 z3 zf y0 y1 y2 y3 yf
   cases lb with
   | true=>
    go_wp2
    go_ret
    exact⟨rfl,H8.out.2,_,_,_,_,_,_,_,H8.out.1⟩
   | false=>
    go_wp2
    go_ret
    exact⟨rfl,H8.out.2,_,_,_,_,_,_,_,H8.out.1⟩
end Go.Proofs.YtgnfknjopafngaaGreatDoor
