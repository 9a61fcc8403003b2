import Derived.Test.YtgnfknjopafngabGreatDoorKaau
set_option maxRecDepth 100000
set_option maxHeartbeats 16000000
namespace Go.Proofs.YtgnfknjopafngabGreatDoor
open Go.RowKit Go.Maps
theorem Zos{K:Prop}{w:World}{B wb x n:Nat}{F:Nat->Prop}{tv ov hv:Value}{qQ orl:List M.Pk}{qK:Bool}{qJ:List ByteArray}{D:M.Dk}(h:Lw K w B wb x n F tv ov hv qQ orl qK qJ)(hl:Live w F x n D qQ)(hk:K->M.Zfl D)(xa:Option Addr)(xc:Nat)(hx:Za8 w (.slice xa qJ.length xc) qJ)(hxn:qJ.length<=10000)(hxs:∀ t∈qJ,t.size<=8192):
 Calls Tryz.prog 47 #[.pointer (some ⟨wb,0,none⟩),.int .i64 3,.slice xa qJ.length xc] w (Zh9 K w B wb x n qJ):=by
 have hBw:B<=w.heap.size:=by have:=h.lt;have:=h.wB;omega
 obtain⟨c0,c1,c2,-,-,-,-⟩:=h.cells
 obtain⟨ta,tc,et⟩:=h.tp.form
 subst et
 obtain⟨ah,ch,eh⟩:=Zac h.own
 subst eh
 have cI:=fun wx (hb:Below w.heap.size w wx)=>Zyx (h.tp.below hb) h.tog (Zhl h.tog h.room h.n2).1 h.n2 (hx.below hb) hxn hxs
 have cX:=fun wx (hb:Below w.heap.size w wx)=>(hl.below hb).install (.slice xa qJ.length xc) qJ (hx.below hb).txts hxn hxs
 have HD:=hid h
 have HX:Hid (Za8 w (.slice xa qJ.length xc) qJ/\Live w F x n D qQ/\(K->M.Zfl D)):=⟨hx,hl,hk⟩
 have HKI:Hid ((∀ f,M.Zap qQ (qJ.map fun t=>t.data.toList) (24*((n:Int)-8))=.inl f->(Zh1 (M.Zap qQ (qJ.map fun t=>t.data.toList) (24*((n:Int)-8)))).kind≠0)/\∀ all,M.Zap qQ (qJ.map fun t=>t.data.toList) (24*((n:Int)-8))=.inr all->(Zh1 (M.Zap qQ (qJ.map fun t=>t.data.toList) (24*((n:Int)-8)))).kind=0):=⟨fun f e=>by rw[e];have:=(Zt9 e).1;show f.kind≠0;omega,fun all e=>by rw[e];rfl⟩
 have hb1:Below w.heap.size w w.drew:=Zae w 1
 have hb2:Below w.heap.size w (w.alloc (.cells #[.int .i64 0,.int .i64 0,.int .i64 0,.string ⟨#[]⟩] 118)).drew:=bt ((Below.refl _ w).alloc ler _) (Zae _ 1)
 have hz0:(w.alloc (.cells #[.int .i64 0,.int .i64 0,.int .i64 0,.string ⟨#[]⟩] 118)).drew.heap[w.heap.size]? = some (.cells okC 118 (0,0)):=heap_alloc_new w _
 have hfew:∀ all,M.Zap qQ (qJ.map fun t=>t.data.toList) (24*((n:Int)-8))=.inr all->∀ p∈all,∀ y∈p.needs,y.length<=15:=fun all e p hp=>by
  obtain⟨_,_,_,_,_,q1,_,_⟩:=M.Zi3 e h.tog.back h.tog.apart
  exact(q1.back p hp).few
 generalize M.Zap qQ (qJ.map fun t=>t.data.toList) (24*((n:Int)-8))=R at cI cX hfew HKI
 unfold faV at cI cX
 generalize Zh1 R=f0 at cI cX HKI
 have hwlt:wb<w.heap.size:=h.lt
 clear h hl hx hxs hk
 go_enter Tryz.func47,Tryz.ntmps47
 go_wp2
 go_region_with (go_at_call 91;first|(refine(cI _ hb1).mono ?_;rintro e w1 ⟨aa,an,ac,rfl,hall,hB1⟩)|(refine(cI _ hb2).mono ?_;rintro e w1 ⟨aa,an,ac,rfl,hall,hB1⟩;have hz:=(hB1.block _ (by simp)).trans hz0;obtain⟨z0,z1,z2,z3,zf⟩:=Zcl hz))
 all_goals
  first
  | (obtain⟨W2,hW2⟩:∃ W2,W2=w1.alloc (.cells (fC f0) 118):=⟨_,rfl⟩
     have hBW:Below w.heap.size w W2:=by rw[hW2];exact bt hb1 (bt hB1 ((Below.refl _ w1).alloc ler _))
     have hfb:W2.heap[w1.heap.size]? = some (.cells (fC f0) 118 (0,0)):=by rw[hW2];exact heap_alloc_new w1 _
     have hall2:∀ all,R=.inr all->Zbc W2 (.slice aa an ac) all/\Zjt W2 (.slice aa an ac) all:=fun all e=>by
      rw[hW2]
      exact⟨(hall all e).1.below ((Below.refl _ w1).alloc ler _),(hall all e).2.below ((Below.refl _ w1).alloc ler _)⟩
     rw[show w1.alloc (.cells #[.int .i64 f0.kind,.int .i64 f0.which,.int .i64 f0.line,.string ⟨f0.name.toArray⟩] 118)=W2 from hW2.symm]
     generalize w1.heap.size=fb at hfb ⊢)
  | (obtain⟨s1,s2⟩:=Zgo hz f0
     obtain⟨W2,hW2⟩:∃ W2,W2=((((w1.setCell ⟨w.heap.size,0,none⟩ (.int .i64 f0.kind)).setCell ⟨w.heap.size,1,none⟩ (.int .i64 f0.which)).setCell ⟨w.heap.size,2,none⟩ (.int .i64 f0.line)).setCell ⟨w.heap.size,3,none⟩ (.string ⟨f0.name.toArray⟩)):=⟨_,rfl⟩
     rw[<-hW2] at s1 s2 ⊢
     have hB1':=bt hb2 hB1
     have hBW:Below w.heap.size w W2:=⟨s2.os.trans hB1'.os,s2.tape.trans hB1'.tape,s2.output.trans hB1'.output,Nat.le_trans hB1'.size s2.size,fun j hj=>(s2.block j (by have:=hB1'.size;omega) (fun e=>by omega)).trans (hB1'.block j hj)⟩
     have hfb:=s1
     have hnt:Zbm (fun i=>i=w.heap.size) w1:=Zbm.one hz (fun s e=>by cases e) (fun a n p e=>by cases e)
     have hall2:∀ all,R=.inr all->Zbc W2 (.slice aa an ac) all/\Zjt W2 (.slice aa an ac) all:=fun all e=>⟨(hall all e).1.chg (hall all e).2 s2 hnt (hfew all e),(hall all e).2.chg s2 hnt⟩
     clear z0 z1 z2 z3 zf hz s1 s2 hB1'
     generalize w.heap.size=fb at hfb ⊢)
  clear hW2
  obtain⟨W3,hW3⟩:∃ W3,W3=W2.alloc (.cells #[.int .i64 0,.int .i64 0,.int .i64 0,.string ⟨#[]⟩] 33):=⟨_,rfl⟩
  have hB23:Below W2.heap.size W2 W3:=by rw[hW3];exact(Below.refl _ W2).alloc ler _
  have hgb3:W3.heap[W2.heap.size]? = some (.cells okC 33 (0,0)):=by rw[hW3];exact heap_alloc_new W2 _
  have hfb3:=(hB23.block _ (ges.1 hfb).1).trans hfb
  have hB3:Below w.heap.size w W3:=bt hBW hB23
  have cX3:=cX W3 hB3
  have d0:W3.cell? ⟨wb,0,none⟩=some (.pointer (some ⟨x,0,none⟩)):=(hB3.cell (p:=⟨wb,0,none⟩) hwlt).trans c0
  rw[hW3] at d0
  have HW3:=hid hW3
  have H3:Hid (Below w.heap.size w W3/\(∀ all,R=.inr all->Zbc W3 (.slice aa an ac) all/\Zjt W3 (.slice aa an ac) all)/\W3.heap[W2.heap.size]? = some (.cells okC 33 (0,0))/\W3.heap[fb]? = some (.cells (fC f0) 118 (0,0))/\w.heap.size<=W2.heap.size):=⟨hB3,fun all e=>⟨(hall2 all e).1.below hB23,(hall2 all e).2.below hB23⟩,hgb3,hfb3,hBW.size⟩
  clear cI cX hfew hall hall2 hBW hfb hB23 hgb3 hfb3 hB3 hW3
 all_goals
  go_wp2_with fail
  rw[<-HW3.out]
  refine cX3.mono ?_
  rintro e w4 ⟨rfl,hSe⟩
  clear cX3 d0
  cases R with
  | inl f=>
   have hB4:Below W3.heap.size W3 w4:=hSe
   obtain⟨hB3,-,hgb3,hfb3,hsz⟩:=H3.out
   have hgb4:=(hB4.block _ (ges.1 hgb3).1).trans hgb3
   have hfb4:=(hB4.block _ (ges.1 hfb3).1).trans hfb3
   obtain⟨z0,z1,z2,z3,zf⟩:=Zcl hgb4
   obtain⟨y0,y1,y2,y3,yf⟩:=Zec hfb4
   obtain⟨s1,s2⟩:=Zgo hgb4 f0
   obtain⟨W5,hW5⟩:∃ W5,W5=((((w4.setCell ⟨W2.heap.size,0,none⟩ (.int .i64 f0.kind)).setCell ⟨W2.heap.size,1,none⟩ (.int .i64 f0.which)).setCell ⟨W2.heap.size,2,none⟩ (.int .i64 f0.line)).setCell ⟨W2.heap.size,3,none⟩ (.string ⟨f0.name.toArray⟩)):=⟨_,rfl⟩
   have HW5:=hid hW5
   rw[<-hW5] at s1 s2
   have hne:fb≠W2.heap.size:=Zfx hfb4 hgb4 (by decide)
   have hne2:wb≠W2.heap.size:=by omega
   have hB34:=bt hB3 hB4
   have hB5:Below w.heap.size w W5:=⟨s2.os.trans hB34.os,s2.tape.trans hB34.tape,s2.output.trans hB34.output,Nat.le_trans hB34.size s2.size,fun j hj=>(s2.block j (by have:=hB34.size;omega) (fun e=>by omega)).trans (hB34.block j hj)⟩
   have hfb5:=(s2.block fb (ges.1 hfb4).1 hne).trans hfb4
   have h5:=HD.out.below hB5
   have cL:=(HX.out.2.1.below hB5).lost
   have cS:=Zlg _ _ qJ qJ W5 (HX.out.1.below hB5) (Zkr h5.own) (by omega) (by omega)
   rw[decide_eq_true rfl] at cS
   have e0:w4.cell? ⟨wb,0,none⟩=some (.pointer (some ⟨x,0,none⟩)):=(hB34.cell (p:=⟨wb,0,none⟩) hwlt).trans c0
   obtain⟨d0,-,-,-,-,d5,-⟩:=h5.cells
   have hkq:((f0.kind:Int) == 0)=false:=by have:=HKI.out.1 f rfl;simp;omega
   have H5:Hid (Lw K W5 B wb x n F (.slice ta qQ.length tc) ov (.slice ah qJ.length ch) qQ orl qK qJ/\Below B w W5/\W5.heap[W2.heap.size]? = some (.cells (fC f0) 33 (0,0))/\W5.heap[fb]? = some (.cells (fC f0) 118 (0,0))):=⟨h5,hB5.mono hBw,s1,hfb5⟩
   clear hSe hB4 hB3 hgb3 hfb3 hgb4 hfb4 s1 s2 hW5 hB34 hB5 hfb5 h5 H3
   go_wp2_with fail
   rw[<-HW5.out]
   refine cL.mono ?_
   rintro e w5 ⟨rfl,e5⟩
   obtain rfl:=e5
   clear cL z0 z1 z2 z3 zf y0 y1 y2 y3 yf e0 d0
   go_wp2_with fail
   refine cS.mono ?_
   rintro e w6 ⟨rfl,hB6⟩
   obtain⟨k1,k2,k3,k4⟩:=H5.out
   obtain⟨z0,z1,z2,z3,zf⟩:=Zec ((hB6.block _ (ges.1 k3).1).trans k3)
   obtain⟨y0,y1,y2,y3,yf⟩:=Zec ((hB6.block _ (ges.1 k4).1).trans k4)
   have H6:Hid (∀ w7,Below w6.heap.size w6 w7->Lw K w7 B wb x n F (.slice ta qQ.length tc) ov (.slice ah qJ.length ch) qQ orl qK qJ/\Below B w w7):=fun w7 hb=>⟨k1.below (bt hB6 hb),k2.trans ((bt hB6 hb).mono (Nat.le_trans hBw k2.size))⟩
   clear cS d5 hB6 k1 k2 k3 k4
   go_wp2_with fail
   refine(Zfd _ _ _ _ w6).mono ?_
   rintro e w7 ⟨rfl,hB7⟩
   have H7:Hid _:=H6.out w7 hB7
   clear hB7 H6 z0 z1 z2 z3 zf y0 y1 y2 y3 yf
   go_wp2
   go_ret
   exact⟨rfl,H7.out.2,_,_,_,_,_,_,_,H7.out.1⟩
  | inr all=>
   obtain⟨hB3,hall3,hgb3,hfb3,hsz⟩:=H3.out
   obtain⟨⟨F',lb,hM⟩,hBB,hkeep⟩:=HD.out.turned HX.out.2.1 HX.out.2.2 HX.out.1 hB3 (hall3 all rfl).1 (hall3 all rfl).2 hSe
   have hgb4:=hkeep _ _ _ _ hgb3 (by decide)
   have hfb4:=hkeep _ _ _ _ hfb3 (by decide)
   obtain⟨z0,z1,z2,z3,zf⟩:=Zcl hgb4
   obtain⟨y0,y1,y2,y3,yf⟩:=Zec hfb4
   obtain⟨s1,s2⟩:=Zgo hgb4 f0
   obtain⟨W5,hW5⟩:∃ W5,W5=((((w4.setCell ⟨W2.heap.size,0,none⟩ (.int .i64 f0.kind)).setCell ⟨W2.heap.size,1,none⟩ (.int .i64 f0.which)).setCell ⟨W2.heap.size,2,none⟩ (.int .i64 f0.line)).setCell ⟨W2.heap.size,3,none⟩ (.string ⟨f0.name.toArray⟩)):=⟨_,rfl⟩
   have HW5:=hid hW5
   rw[<-hW5] at s1 s2
   have hne:fb≠W2.heap.size:=Zfx hfb4 hgb4 (by decide)
   have hne2:wb≠W2.heap.size:=by omega
   have hM5:=hM.beside hgb4 (by omega) s2
   have hB5:Below B w W5:=⟨s2.os.trans hBB.os,s2.tape.trans hBB.tape,s2.output.trans hBB.output,Nat.le_trans hBB.size s2.size,fun j hj=>(s2.block j (by have:=hBB.size;omega) (fun e=>by omega)).trans (hBB.block j hj)⟩
   have hfb5:=(s2.block fb (ges.1 hfb4).1 hne).trans hfb4
   have cB:=hM5.becomes
   have hwf:fb≠wb:=Zfx hfb5 hM5.blk (by decide)
   have hwg:W2.heap.size≠wb:=fun e=>hne2 e.symm
   have hkq:((f0.kind:Int) == 0)=true:=by have:=HKI.out.2 all rfl;simp;omega
   have H5:Hid (Below B w W5/\W5.heap[W2.heap.size]? = some (.cells (fC f0) 33 (0,0))/\W5.heap[fb]? = some (.cells (fC f0) 118 (0,0))):=⟨hB5,s1,hfb5⟩
   clear hSe hB3 hgb3 hfb3 hgb4 hfb4 s1 s2 hW5 hB5 hfb5 hM hBB hkeep hall3 H3 hM5
   go_wp2_with fail
   rw[<-HW5.out]
   refine cB.mono ?_
   rintro e w6 ⟨⟨v6,rfl⟩,hL6,hS6,hX6,hB6,hbl⟩
   have cL:=hS6.lost
   have cS:=Zlg _ _ qJ qJ w6 hX6 (Zkr hL6.own) (by omega) (by omega)
   rw[decide_eq_true rfl] at cS
   obtain⟨d0,-,-,-,-,d5,-⟩:=hL6.cells
   have H6:Hid (Lw K w6 B wb x n F' (.slice aa an ac) (.slice ta qQ.length tc) (.slice ah qJ.length ch) all qQ lb qJ/\Below B w w6/\w6.heap[W2.heap.size]? = some (.cells (fC f0) 33 (0,0))/\w6.heap[fb]? = some (.cells (fC f0) 118 (0,0))):=⟨hL6,H5.out.1.trans hB6,(hbl _ hwg).trans H5.out.2.1,(hbl _ hwf).trans H5.out.2.2⟩
   clear cB hL6 hS6 hX6 hB6 hbl z0 z1 z2 z3 zf y0 y1 y2 y3 yf
   go_wp2_with fail
   refine cL.mono ?_
   rintro e w7 ⟨rfl,e7⟩
   obtain rfl:=e7
   clear cL d0
   go_wp2_with fail
   refine cS.mono ?_
   rintro e w7 ⟨rfl,hB7⟩
   obtain⟨k1,k2,k3,k4⟩:=H6.out
   obtain⟨z0,z1,z2,z3,zf⟩:=Zec ((hB7.block _ (ges.1 k3).1).trans k3)
   obtain⟨y0,y1,y2,y3,yf⟩:=Zec ((hB7.block _ (ges.1 k4).1).trans k4)
   have H7:Hid (∀ w8,Below w7.heap.size w7 w8->Lw K w8 B wb x n F' (.slice aa an ac) (.slice ta qQ.length tc) (.slice ah qJ.length ch) all qQ lb qJ/\Below B w w8):=fun w8 hb=>⟨k1.below (bt hB7 hb),k2.trans ((bt hB7 hb).mono (Nat.le_trans hBw k2.size))⟩
   clear cS d5 hB7 k1 k2 k3 k4
   go_wp2_with fail
   refine(Zfd _ _ _ _ w7).mono ?_
   rintro e w8 ⟨rfl,hB8⟩
   have H8:Hid _:=H7.out w8 hB8
   clear hB8 H7 z0 z1 z2 z3 zf y0 y1 y2 y3 yf
   cases lb with
   | true=>
    go_wp2
    go_ret
    exact⟨rfl,H8.out.2,_,_,_,_,_,_,_,H8.out.1⟩
   | false=>
    go_wp2
    go_ret
    exact⟨rfl,H8.out.2,_,_,_,_,_,_,_,H8.out.1⟩
theorem Ya5{W:World}{tv xv:Value}{qQ:List M.Pk}{qJ:List ByteArray}(tp:Zbc W tv qQ)(tog:M.Tog qQ)(hl:qQ.length<=600)(hx:Za8 W xv qJ)(hxn:qJ.length<=10000):
 Calls Tryz.prog 92 #[tv,xv] W fun e w'=>∃ aa an ac,e=.returned (.tuple #[.slice aa an ac,faV (Zh1 (M.Za6 qQ (qJ.map fun t=>t.data.toList)))])/\(∀ all,M.Za6 qQ (qJ.map fun t=>t.data.toList)=.inr all->Zbc w' (.slice aa an ac) all/\Zjt w' (.slice aa an ac) all)/\Below W.heap.size W w':=by
 refine(Zx9 tv xv qQ qJ W tp hx (by omega) (by omega) (fun p hp=>(Zbb.of (tog.back p hp)).smallQ.1)).mono ?_
 rintro e w' ⟨hB,hm⟩
 cases hR:M.Za6 qQ (qJ.map fun t=>t.data.toList) with
 | inl f=>
  rw[hR] at hm
  exact⟨none,0,0,hm,(fun all e=>by cases e),hB⟩
 | inr all=>
  rw[hR] at hm
  obtain⟨av,rfl,h1,h2⟩:=hm
  obtain⟨a,c,rfl⟩:=h1.form
  exact⟨a,_,c,rfl,(fun all' e=>by cases e;exact⟨h1,h2⟩),hB⟩
theorem Zqg{K:Prop}{w:World}{B wb x n:Nat}{F:Nat->Prop}{tv ov hv:Value}{qQ orl:List M.Pk}{qK:Bool}{qJ:List ByteArray}{D:M.Dk}(h:Lw K w B wb x n F tv ov hv qQ orl qK qJ)(hl:Live w F x n D qQ)(hk:K->M.Zfl D)(xa:Option Addr)(xc:Nat)(hx:Za8 w (.slice xa qJ.length xc) qJ)(hxn:qJ.length<=10000)(hxs:∀ t∈qJ,t.size<=8192):
 Calls Tryz.prog 47 #[.pointer (some ⟨wb,0,none⟩),.int .i64 4,.slice xa qJ.length xc] w (Zh9 K w B wb x n qJ):=by
 have hBw:B<=w.heap.size:=by have:=h.lt;have:=h.wB;omega
 obtain⟨c0,c1,c2,-,-,-,-⟩:=h.cells
 obtain⟨ta,tc,et⟩:=h.tp.form
 subst et
 obtain⟨ah,ch,eh⟩:=Zac h.own
 subst eh
 have cI:=fun wx (hb:Below w.heap.size w wx)=>Zyx (h.tp.below hb) h.tog (Zhl h.tog h.room h.n2).1 h.n2 (hx.below hb) hxn hxs
 have cM:=fun wx (hb:Below w.heap.size w wx)=>Ya5 (h.tp.below hb) h.tog (Zhl h.tog h.room h.n2).1 (hx.below hb) hxn
 have cX:=fun wx (hb:Below w.heap.size w wx)=>(hl.below hb).remove (.slice xa qJ.length xc) qJ (hx.below hb).txts hxn hxs
 have HD:=hid h
 have HX:Hid (Za8 w (.slice xa qJ.length xc) qJ/\Live w F x n D qQ/\(K->M.Zfl D)):=⟨hx,hl,hk⟩
 have HKI:Hid ((∀ f,M.Za6 qQ (qJ.map fun t=>t.data.toList)=.inl f->(Zh1 (M.Za6 qQ (qJ.map fun t=>t.data.toList))).kind≠0)/\∀ all,M.Za6 qQ (qJ.map fun t=>t.data.toList)=.inr all->(Zh1 (M.Za6 qQ (qJ.map fun t=>t.data.toList))).kind=0):=⟨fun f e=>by rw[e];have:=(Zy4 e).1;show f.kind≠0;omega,fun all e=>by rw[e];rfl⟩
 have hb1:Below w.heap.size w w.drew:=Zae w 1
 have hb2:Below w.heap.size w (w.alloc (.cells #[.int .i64 0,.int .i64 0,.int .i64 0,.string ⟨#[]⟩] 118)).drew:=bt ((Below.refl _ w).alloc ler _) (Zae _ 1)
 have hz0:(w.alloc (.cells #[.int .i64 0,.int .i64 0,.int .i64 0,.string ⟨#[]⟩] 118)).drew.heap[w.heap.size]? = some (.cells okC 118 (0,0)):=heap_alloc_new w _
 have hfew:∀ all,M.Za6 qQ (qJ.map fun t=>t.data.toList)=.inr all->∀ p∈all,∀ y∈p.needs,y.length<=15:=fun all e p hp=>((M.Zl8 e h.tog).1.back p hp).few
 generalize M.Zap qQ (qJ.map fun t=>t.data.toList) (24*((n:Int)-8))=R1 at cI
 generalize M.Za6 qQ (qJ.map fun t=>t.data.toList)=R at cM cX hfew HKI
 unfold faV at cI cX cM
 generalize Zh1 R=f0 at cM cX HKI
 generalize Zh1 R1=f1 at cI
 have hwlt:wb<w.heap.size:=h.lt
 clear h hl hx hxs hk
 go_enter Tryz.func47,Tryz.ntmps47
 go_wp2
 go_region_with (go_at_call 91;first|(refine(cI _ hb1).mono ?_;rintro e w1 ⟨aa,an,ac,rfl,hall,hB1⟩)|(refine(cI _ hb2).mono ?_;rintro e w1 ⟨aa,an,ac,rfl,hall,hB1⟩;have hz:=(hB1.block _ (by simp)).trans hz0;obtain⟨z0,z1,z2,z3,zf⟩:=Zcl hz))
 all_goals
  first
  | (obtain⟨W2,hW2⟩:∃ W2,W2=w1.alloc (.cells (fC f1) 118):=⟨_,rfl⟩
     have hBV:Below w.heap.size w W2:=by rw[hW2];exact bt hb1 (bt hB1 ((Below.refl _ w1).alloc ler _))
     have hfv:W2.heap[w1.heap.size]? = some (.cells (fC f1) 118 (0,0)):=by rw[hW2];exact heap_alloc_new w1 _
     have hfw:w.heap.size<=w1.heap.size:=hB1.size
     rw[show w1.alloc (.cells #[.int .i64 f1.kind,.int .i64 f1.which,.int .i64 f1.line,.string ⟨f1.name.toArray⟩] 118)=W2 from hW2.symm]
     generalize w1.heap.size=fb at hfv hfw ⊢)
  | (obtain⟨s1,s2⟩:=Zgo hz f1
     obtain⟨W2,hW2⟩:∃ W2,W2=((((w1.setCell ⟨w.heap.size,0,none⟩ (.int .i64 f1.kind)).setCell ⟨w.heap.size,1,none⟩ (.int .i64 f1.which)).setCell ⟨w.heap.size,2,none⟩ (.int .i64 f1.line)).setCell ⟨w.heap.size,3,none⟩ (.string ⟨f1.name.toArray⟩)):=⟨_,rfl⟩
     rw[<-hW2] at s1 s2 ⊢
     have hB1':=bt hb2 hB1
     have hBV:Below w.heap.size w W2:=⟨s2.os.trans hB1'.os,s2.tape.trans hB1'.tape,s2.output.trans hB1'.output,Nat.le_trans hB1'.size s2.size,fun j hj=>(s2.block j (by have:=hB1'.size;omega) (fun e=>by omega)).trans (hB1'.block j hj)⟩
     have hfv:=s1
     have hfw:w.heap.size<=w.heap.size:=Nat.le_refl _
     clear z0 z1 z2 z3 zf hz s1 s2 hB1'
     obtain⟨fb,hfbe⟩:∃ fb,fb=w.heap.size:=⟨_,rfl⟩
     have hfw:w.heap.size<=fb:=by omega
     rw[<-hfbe] at hfv ⊢
     clear hfbe)
  clear hW2
  have v2:W2.cell? ⟨wb,2,none⟩=some (.slice ta qQ.length tc):=(hBV.cell (p:=⟨wb,2,none⟩) hwlt).trans c2
  have cM2:=cM W2 hBV
  clear cI cM hall
  go_wp2_with fail
  refine cM2.mono ?_
  rintro e wm ⟨aa,an,ac,rfl,hallm,hBm⟩
  clear cM2 v2
  have hfm:=(hBm.block _ (ges.1 hfv).1).trans hfv
  obtain⟨y0,y1,y2,y3,yf⟩:=Zec hfm
  obtain⟨s1,s2⟩:=Zgo hfm f0
  obtain⟨Wp,hWp⟩:∃ Wp,Wp=((((wm.setCell ⟨fb,0,none⟩ (.int .i64 f0.kind)).setCell ⟨fb,1,none⟩ (.int .i64 f0.which)).setCell ⟨fb,2,none⟩ (.int .i64 f0.line)).setCell ⟨fb,3,none⟩ (.string ⟨f0.name.toArray⟩)):=⟨_,rfl⟩
  rw[<-hWp] at s1 s2
  have hBm':=bt hBV hBm
  have hBW:Below w.heap.size w Wp:=⟨s2.os.trans hBm'.os,s2.tape.trans hBm'.tape,s2.output.trans hBm'.output,Nat.le_trans hBm'.size s2.size,fun j hj=>(s2.block j (by have:=hBm'.size;omega) (fun e=>by omega)).trans (hBm'.block j hj)⟩
  have hfb:=s1
  have hnt:Zbm (fun i=>i=fb) wm:=Zbm.one hfm (fun s e=>by cases e) (fun a n p e=>by cases e)
  have hall2:∀ all,R=.inr all->Zbc Wp (.slice aa an ac) all/\Zjt Wp (.slice aa an ac) all:=fun all e=>⟨(hallm all e).1.chg (hallm all e).2 s2 hnt (hfew all e),(hallm all e).2.chg s2 hnt⟩
  have hsp:Wp.heap.size=wm.heap.size:=by rw[hWp];simp
  clear s1 s2 hBm' hfm hallm hnt hfv hBV hBm
  obtain⟨W3,hW3⟩:∃ W3,W3=Wp.alloc (.cells #[.int .i64 0,.int .i64 0,.int .i64 0,.string ⟨#[]⟩] 33):=⟨_,rfl⟩
  have hB23:Below Wp.heap.size Wp W3:=by rw[hW3];exact(Below.refl _ Wp).alloc ler _
  have hgb3:W3.heap[wm.heap.size]? = some (.cells okC 33 (0,0)):=by rw[hW3,<-hsp];exact heap_alloc_new Wp _
  have hfb3:=(hB23.block _ (ges.1 hfb).1).trans hfb
  have hB3:Below w.heap.size w W3:=bt hBW hB23
  have cX3:=cX W3 hB3
  have d0:W3.cell? ⟨wb,0,none⟩=some (.pointer (some ⟨x,0,none⟩)):=(hB3.cell (p:=⟨wb,0,none⟩) hwlt).trans c0
  rw[hW3,hWp] at d0
  have HW3:Hid (W3=((((wm.setCell ⟨fb,0,none⟩ (.int .i64 f0.kind)).setCell ⟨fb,1,none⟩ (.int .i64 f0.which)).setCell ⟨fb,2,none⟩ (.int .i64 f0.line)).setCell ⟨fb,3,none⟩ (.string ⟨f0.name.toArray⟩)).alloc (.cells #[.int .i64 0,.int .i64 0,.int .i64 0,.string ⟨#[]⟩] 33)):=by rw[<-hWp];exact hW3
  have H3:Hid (Below w.heap.size w W3/\(∀ all,R=.inr all->Zbc W3 (.slice aa an ac) all/\Zjt W3 (.slice aa an ac) all)/\W3.heap[wm.heap.size]? = some (.cells okC 33 (0,0))/\W3.heap[fb]? = some (.cells (fC f0) 118 (0,0))/\w.heap.size<=wm.heap.size):=⟨hB3,fun all e=>⟨(hall2 all e).1.below hB23,(hall2 all e).2.below hB23⟩,hgb3,hfb3,by have:=hBW.size;omega⟩
  clear cX hfew hall2 hBW hfb hB23 hgb3 hfb3 hB3 hW3 hWp hsp
 all_goals
  go_wp2_with fail
  rw[<-HW3.out]
  refine cX3.mono ?_
  rintro e w4 ⟨rfl,hSe⟩
  clear cX3 d0 y0 y1 y2 y3 yf
  cases R with
  | inl f=>
   have hB4:Below W3.heap.size W3 w4:=hSe
   obtain⟨hB3,-,hgb3,hfb3,hsz⟩:=H3.out
   have hgb4:=(hB4.block _ (ges.1 hgb3).1).trans hgb3
   have hfb4:=(hB4.block _ (ges.1 hfb3).1).trans hfb3
   obtain⟨z0,z1,z2,z3,zf⟩:=Zcl hgb4
   obtain⟨y0,y1,y2,y3,yf⟩:=Zec hfb4
   obtain⟨s1,s2⟩:=Zgo hgb4 f0
   obtain⟨W5,hW5⟩:∃ W5,W5=((((w4.setCell ⟨wm.heap.size,0,none⟩ (.int .i64 f0.kind)).setCell ⟨wm.heap.size,1,none⟩ (.int .i64 f0.which)).setCell ⟨wm.heap.size,2,none⟩ (.int .i64 f0.line)).setCell ⟨wm.heap.size,3,none⟩ (.string ⟨f0.name.toArray⟩)):=⟨_,rfl⟩
   have HW5:=hid hW5
   rw[<-hW5] at s1 s2
   have hne:fb≠wm.heap.size:=Zfx hfb4 hgb4 (by decide)
   have hne2:wb≠wm.heap.size:=by omega
   have hB34:=bt hB3 hB4
   have hB5:Below w.heap.size w W5:=⟨s2.os.trans hB34.os,s2.tape.trans hB34.tape,s2.output.trans hB34.output,Nat.le_trans hB34.size s2.size,fun j hj=>(s2.block j (by have:=hB34.size;omega) (fun e=>by omega)).trans (hB34.block j hj)⟩
   have hfb5:=(s2.block fb (ges.1 hfb4).1 hne).trans hfb4
   have h5:=HD.out.below hB5
   have cL:=(HX.out.2.1.below hB5).lost
   have cS:=Zlg _ _ qJ qJ W5 (HX.out.1.below hB5) (Zkr h5.own) (by omega) (by omega)
   rw[decide_eq_true rfl] at cS
   have e0:w4.cell? ⟨wb,0,none⟩=some (.pointer (some ⟨x,0,none⟩)):=(hB34.cell (p:=⟨wb,0,none⟩) hwlt).trans c0
   obtain⟨d0,-,-,-,-,d5,-⟩:=h5.cells
   have hkq:((f0.kind:Int) == 0)=false:=by have:=HKI.out.1 f rfl;simp;omega
   have H5:Hid (Lw K W5 B wb x n F (.slice ta qQ.length tc) ov (.slice ah qJ.length ch) qQ orl qK qJ/\Below B w W5/\W5.heap[wm.heap.size]? = some (.cells (fC f0) 33 (0,0))/\W5.heap[fb]? = some (.cells (fC f0) 118 (0,0))):=⟨h5,hB5.mono hBw,s1,hfb5⟩
   clear hSe hB4 hB3 hgb3 hfb3 hgb4 hfb4 s1 s2 hW5 hB34 hB5 hfb5 h5 H3
   go_wp2_with fail
   rw[<-HW5.out]
   refine cL.mono ?_
   rintro e w5 ⟨rfl,e5⟩
   obtain rfl:=e5
   clear cL z0 z1 z2 z3 zf y0 y1 y2 y3 yf e0 d0
   go_wp2_with fail
   refine cS.mono ?_
   rintro e w6 ⟨rfl,hB6⟩
   obtain⟨k1,k2,k3,k4⟩:=H5.out
   obtain⟨z0,z1,z2,z3,zf⟩:=Zec ((hB6.block _ (ges.1 k3).1).trans k3)
   obtain⟨y0,y1,y2,y3,yf⟩:=Zec ((hB6.block _ (ges.1 k4).1).trans k4)
   have H6:Hid (∀ w7,Below w6.heap.size w6 w7->Lw K w7 B wb x n F (.slice ta qQ.length tc) ov (.slice ah qJ.length ch) qQ orl qK qJ/\Below B w w7):=fun w7 hb=>⟨k1.below (bt hB6 hb),k2.trans ((bt hB6 hb).mono (Nat.le_trans hBw k2.size))⟩
   clear cS d5 hB6 k1 k2 k3 k4
   go_wp2_with fail
   refine(Zfd _ _ _ _ w6).mono ?_
   rintro e w7 ⟨rfl,hB7⟩
   have H7:Hid _:=H6.out w7 hB7
   clear hB7 H6 z0 z1 z2 z3 zf y0 y1 y2 y3 yf
   go_wp2
   go_ret
   exact⟨rfl,H7.out.2,_,_,_,_,_,_,_,H7.out.1⟩
  | inr all=>
   obtain⟨hB3,hall3,hgb3,hfb3,hsz⟩:=H3.out
   obtain⟨⟨F',lb,hM⟩,hBB,hkeep⟩:=HD.out.turned HX.out.2.1 HX.out.2.2 HX.out.1 hB3 (hall3 all rfl).1 (hall3 all rfl).2 hSe
   have hgb4:=hkeep _ _ _ _ hgb3 (by decide)
   have hfb4:=hkeep _ _ _ _ hfb3 (by decide)
   obtain⟨z0,z1,z2,z3,zf⟩:=Zcl hgb4
   obtain⟨y0,y1,y2,y3,yf⟩:=Zec hfb4
   obtain⟨s1,s2⟩:=Zgo hgb4 f0
   obtain⟨W5,hW5⟩:∃ W5,W5=((((w4.setCell ⟨wm.heap.size,0,none⟩ (.int .i64 f0.kind)).setCell ⟨wm.heap.size,1,none⟩ (.int .i64 f0.which)).setCell ⟨wm.heap.size,2,none⟩ (.int .i64 f0.line)).setCell ⟨wm.heap.size,3,none⟩ (.string ⟨f0.name.toArray⟩)):=⟨_,rfl⟩
   have HW5:=hid hW5
   rw[<-hW5] at s1 s2
   have hne:fb≠wm.heap.size:=Zfx hfb4 hgb4 (by decide)
   have hne2:wb≠wm.heap.size:=by omega
   have hM5:=hM.beside hgb4 (by omega) s2
   have hB5:Below B w W5:=⟨s2.os.trans hBB.os,s2.tape.trans hBB.tape,s2.output.trans hBB.output,Nat.le_trans hBB.size s2.size,fun j hj=>(s2.block j (by have:=hBB.size;omega) (fun e=>by omega)).trans (hBB.block j hj)⟩
   have hfb5:=(s2.block fb (ges.1 hfb4).1 hne).trans hfb4
   have cB:=hM5.becomes
   have hwf:fb≠wb:=Zfx hfb5 hM5.blk (by decide)
   have hwg:wm.heap.size≠wb:=fun e=>hne2 e.symm
   have hkq:((f0.kind:Int) == 0)=true:=by have:=HKI.out.2 all rfl;simp;omega
   have H5:Hid (Below B w W5/\W5.heap[wm.heap.size]? = some (.cells (fC f0) 33 (0,0))/\W5.heap[fb]? = some (.cells (fC f0) 118 (0,0))):=⟨hB5,s1,hfb5⟩
   clear hSe hB3 hgb3 hfb3 hgb4 hfb4 s1 s2 hW5 hB5 hfb5 hM hBB hkeep hall3 H3 hM5
   go_wp2_with fail
   rw[<-HW5.out]
   refine cB.mono ?_
   rintro e w6 ⟨⟨v6,rfl⟩,hL6,hS6,hX6,hB6,hbl⟩
   have cL:=hS6.lost
   have cS:=Zlg _ _ qJ qJ w6 hX6 (Zkr hL6.own) (by omega) (by omega)
   rw[decide_eq_true rfl] at cS
   obtain⟨d0,-,-,-,-,d5,-⟩:=hL6.cells
   have H6:Hid (Lw K w6 B wb x n F' (.slice aa an ac) (.slice ta qQ.length tc) (.slice ah qJ.length ch) all qQ lb qJ/\Below B w w6/\w6.heap[wm.heap.size]? = some (.cells (fC f0) 33 (0,0))/\w6.heap[fb]? = some (.cells (fC f0) 118 (0,0))):=⟨hL6,H5.out.1.trans hB6,(hbl _ hwg).trans H5.out.2.1,(hbl _ hwf).trans H5.out.2.2⟩
   clear cB hL6 hS6 hX6 hB6 hbl z0 z1 z2 z3 zf y0 y1 y2 y3 yf
   go_wp2_with fail
   refine cL.mono ?_
   rintro e w7 ⟨rfl,e7⟩
   obtain rfl:=e7
   clear cL d0
   go_wp2_with fail
   refine cS.mono ?_
   rintro e w7 ⟨rfl,hB7⟩
   obtain⟨k1,k2,k3,k4⟩:=H6.out
   obtain⟨z0,z1,z2,z3,zf⟩:=Zec ((hB7.block _ (ges.1 k3).1).trans k3)
   obtain⟨y0,y1,y2,y3,yf⟩:=Zec ((hB7.block _ (ges.1 k4).1).trans k4)
   have H7:Hid (∀ w8,Below w7.heap.size w7 w8->Lw K w8 B wb x n F' (.slice aa an ac) (.slice ta qQ.length tc) (.slice ah qJ.length ch) all qQ lb qJ/\Below B w w8):=fun w8 hb=>⟨k1.below (bt hB7 hb),k2.trans ((bt hB7 hb).mono (Nat.le_trans hBw k2.size))⟩
   clear cS d5 hB7 k1 k2 k3 k4
   go_wp2_with fail
   refine(Zfd _ _ _ _ w7).mono ?_
   rintro e w8 ⟨rfl,hB8⟩
   have H8:Hid _:=H7.out w8 hB8
   clear hB8 H7 z0 z1 z2 z3 zf y0 y1 y2 y3 yf
   cases lb with
   | true=>
    go_wp2
    go_ret
    exact⟨rfl,H8.out.2,_,_,_,_,_,_,_,H8.out.1⟩
   | false=>
    go_wp2
    go_ret
    exact⟨rfl,H8.out.2,_,_,_,_,_,_,_,H8.out.1⟩
theorem Zte{K:Prop}{w:World}{B wb x n:Nat}{F:Nat->Prop}{tv ov hv:Value}{qQ orl:List M.Pk}{qK:Bool}{qJ:List ByteArray}(h:Lw K w B wb x n F tv ov hv qQ orl qK qJ)(A B':Int)(S:ByteArray)(hn:qJ.length<=10000)(hs:∀ t∈qJ,t.size<=8192):
 Calls Tryz.prog 29 #[.pointer (some ⟨wb,0,none⟩),.agg #[.int .i64 3,.int .i64 A,.int .i64 B',.string S]] w (Zh9 K w B wb x n qJ):=by
 generalize hA:w.alloc (.cells #[.int .i64 3,.int .i64 A,.int .i64 B',.string S] 80)=A0
 have hB0:Below w.heap.size w A0:=by rw[<-hA];exact(Below.refl _ w).alloc ler _
 have hb0:A0.heap[w.heap.size]? = some (.cells #[.int .i64 3,.int .i64 A,.int .i64 B',.string S] 80 (0,0)):=by rw[<-hA];exact heap_alloc_new w _
 have o0:A0.cell? ⟨w.heap.size,0,none⟩=some (.int .i64 3):=(cell_of_row A0 _ 0 _ _ (0,0) hb0).trans rfl
 have h0:=h.below hB0
 have hBw:B<=w.heap.size:=by have:=h.lt;have:=h.wB;omega
 obtain⟨c0,-,-,-,-,c5,-⟩:=h0.cells
 obtain⟨v1,w1,hr1,hs1,hB1⟩:=Zep 41 B hv qJ h0.own (by omega)
 obtain⟨ah,ch,eh⟩:=Zac h0.own
 subst eh
 obtain⟨a1,c1,e1⟩:=hs1.form
 subst e1
 have HR:=hid hr1
 have o1:w1.cell? ⟨w.heap.size,0,none⟩=some (.int .i64 3):=(hB1.cell (p:=⟨w.heap.size,0,none⟩) (World.block_lt_of_cell? _ _ o0)).trans o0
 have h1:=h0.below hB1
 have hB2:Below w.heap.size w w1:=bt hB0 hB1
 rcases h0.se with ⟨hmb,D,hkD,hlv⟩|⟨hnK,hg⟩
 ·have cL:=hlv.lost
  have cS:=(Zos h1 (hlv.below hB1) hkD a1 c1 hs1 hn hs).mono (fun e W hp=>hp.from (hB2.mono hBw))
  clear hb0 hr1 hs1 h h0 h1 hB0 hlv hB1 hs hkD
  go_enter Tryz.func29,Tryz.ntmps29
  go_wp2_with (first
   | (go_at_call 45;refine cL.mono ?_;rintro e w' ⟨rfl,rfl⟩)
   | (at_builtin;refine Zbr rfl (.const (.slice none 0 0)) (.tmp 66) 41 rfl _ _ _ _ rfl rfl HR.out ?_))
  refine cS.mono ?_
  rintro e w2 ⟨rfl,hp1,hp2⟩
  have HP:Hid (Below B w w2/\∃ F tv ov hv qQ orl qK,Lw K w2 B wb x n F tv ov hv qQ orl qK qJ):=⟨hp1,hp2⟩
  clear cS hp1 hp2 cL
  go_wp2
  go_ret
  exact⟨rfl,HP.out.1,HP.out.2⟩
 ·have cL:=hg.lost
  have H0:=hid h0
  have HB:=hid (hB0.mono hBw)
  clear hb0 hr1 hs1 h h0 h1 hB0 hg hB1 HR hs
  go_enter Tryz.func29,Tryz.ntmps29
  go_wp2_with (first
   | (go_at_call 45;refine cL.mono ?_;rintro e w' ⟨rfl,rfl⟩))
  go_ret
  exact⟨rfl,HB.out,_,_,_,_,_,_,_,H0.out⟩
theorem Zua{K:Prop}{w:World}{B wb x n:Nat}{F:Nat->Prop}{tv ov hv:Value}{qQ orl:List M.Pk}{qK:Bool}{qJ:List ByteArray}(h:Lw K w B wb x n F tv ov hv qQ orl qK qJ)(A B':Int)(S:ByteArray)(hn:qJ.length<=10000)(hs:∀ t∈qJ,t.size<=8192):
 Calls Tryz.prog 29 #[.pointer (some ⟨wb,0,none⟩),.agg #[.int .i64 4,.int .i64 A,.int .i64 B',.string S]] w (Zh9 K w B wb x n qJ):=by
 generalize hA:w.alloc (.cells #[.int .i64 4,.int .i64 A,.int .i64 B',.string S] 80)=A0
 have hB0:Below w.heap.size w A0:=by rw[<-hA];exact(Below.refl _ w).alloc ler _
 have hb0:A0.heap[w.heap.size]? = some (.cells #[.int .i64 4,.int .i64 A,.int .i64 B',.string S] 80 (0,0)):=by rw[<-hA];exact heap_alloc_new w _
 have o0:A0.cell? ⟨w.heap.size,0,none⟩=some (.int .i64 4):=(cell_of_row A0 _ 0 _ _ (0,0) hb0).trans rfl
 have h0:=h.below hB0
 have hBw:B<=w.heap.size:=by have:=h.lt;have:=h.wB;omega
 obtain⟨c0,-,-,-,-,c5,-⟩:=h0.cells
 obtain⟨v1,w1,hr1,hs1,hB1⟩:=Zep 41 B hv qJ h0.own (by omega)
 obtain⟨ah,ch,eh⟩:=Zac h0.own
 subst eh
 obtain⟨a1,c1,e1⟩:=hs1.form
 subst e1
 have HR:=hid hr1
 have o1:w1.cell? ⟨w.heap.size,0,none⟩=some (.int .i64 4):=(hB1.cell (p:=⟨w.heap.size,0,none⟩) (World.block_lt_of_cell? _ _ o0)).trans o0
 have h1:=h0.below hB1
 have hB2:Below w.heap.size w w1:=bt hB0 hB1
 rcases h0.se with ⟨hmb,D,hkD,hlv⟩|⟨hnK,hg⟩
 ·have cL:=hlv.lost
  have cS:=(Zqg h1 (hlv.below hB1) hkD a1 c1 hs1 hn hs).mono (fun e W hp=>hp.from (hB2.mono hBw))
  clear hb0 hr1 hs1 h h0 h1 hB0 hlv hB1 hs hkD
  go_enter Tryz.func29,Tryz.ntmps29
  go_wp2_with (first
   | (go_at_call 45;refine cL.mono ?_;rintro e w' ⟨rfl,rfl⟩)
   | (at_builtin;refine Zbr rfl (.const (.slice none 0 0)) (.tmp 66) 41 rfl _ _ _ _ rfl rfl HR.out ?_))
  refine cS.mono ?_
  rintro e w2 ⟨rfl,hp1,hp2⟩
  have HP:Hid (Below B w w2/\∃ F tv ov hv qQ orl qK,Lw K w2 B wb x n F tv ov hv qQ orl qK qJ):=⟨hp1,hp2⟩
  clear cS hp1 hp2 cL
  go_wp2
  go_ret
  exact⟨rfl,HP.out.1,HP.out.2⟩
 ·have cL:=hg.lost
  have H0:=hid h0
  have HB:=hid (hB0.mono hBw)
  clear hb0 hr1 hs1 h h0 h1 hB0 hg hB1 HR hs
  go_enter Tryz.func29,Tryz.ntmps29
  go_wp2_with (first
   | (go_at_call 45;refine cL.mono ?_;rintro e w' ⟨rfl,rfl⟩))
  go_ret
  exact⟨rfl,HB.out,_,_,_,_,_,_,_,H0.out⟩
def Zns(K:Prop)(w:World)(n:Nat)(ops:List OpD)(wb k:Nat)(W:World):Prop:=∃ x F tv ov hv qQ orl qK qJ,Lw K W w.heap.size wb x n F tv ov hv qQ orl qK qJ/\Below w.heap.size w W/\qJ.length<=k/\k<=ops.length/\∀ t∈qJ,t.size<=8192
theorem Z62{ops:List OpD}(h:ops.length+bytesOf ops<=8192){k:Nat}(hk:k<ops.length):ops[k].s.size<=8192:=by
 have h1:=Zrf hk
 have h2:=Zli ops (k+1)
 omega
def LNew(w:World)(n x:Nat)(w1:World):Prop:=∃ F D,Live w1 F x n D []/\M.Zfl D/\(∀ j,F j->w.heap.size<=j)/\Below w.heap.size w w1
theorem Z9n(s:Int)(w w1:World)(hb:Below w.heap.size w w1)(hR:Ready w):Calls Tryz.prog 11 #[.int .i64 s] w1 fun e w'=>∃ x,e=.returned (.tuple #[.pointer (some ⟨x,0,none⟩),okV])/\LNew w (Zb5 s) x w':=by
 refine(Z7j s w1 (hR.below hb)).mono ?_
 rintro e w' ⟨x,d,s,k,b,hv,sv,rfl,h1,h2,h3⟩
 exact⟨x,rfl,Zpr x d s k hv sv (.slice none 0 0),_,⟨d,s,k,b,0,hv,sv,_,h1,fun j=>Iff.rfl⟩,⟨rfl,rfl⟩,fun j hj=>Nat.le_trans hb.size (h2 j hj),bt hb h3⟩
theorem Z1z{K:Prop}{w w1 W0:World}{ops:List OpD}{x n:Nat}(h:LNew w n x w1)(hR:Ready w)(hb:Below w1.heap.size w1 W0):Zns K w n ops W0.heap.size 0 (W0.alloc (.cells #[.pointer (some ⟨x,0,none⟩),.int .i64 n,.slice none 0 0,.slice none 0 0,.bool false,.slice none 0 0] 78)):=by
 obtain⟨F,D,h1,h2,h3,h4⟩:=h
 have hB2:Below W0.heap.size W0 (W0.alloc (.cells #[.pointer (some ⟨x,0,none⟩),.int .i64 n,.slice none 0 0,.slice none 0 0,.bool false,.slice none 0 0] 78)):=(Below.refl _ W0).alloc ler _
 have hB3:=bt hb hB2
 have hl:=h1.below hB3
 have hl2:=hl
 obtain⟨d,s,k,b,qY,hv,sv,lv,g1,g2⟩:=hl2
 have hsz:=h4.size
 have hsz2:=hb.size
 refine⟨x,F,.slice none 0 0,.slice none 0 0,.slice none 0 0,[],[],false,[],⟨⟨.inl ⟨rfl,D,fun _=>h2,hl⟩,Zbc.none _,fun h0=>absurd rfl h0,Zbc.none _,fun h0=>absurd rfl h0,g1.tog,g1.room,g1.tog,g1.room,g1.n1,g1.n2,h3⟩,heap_alloc_new W0 _,World.ownsRow_nil _ _ _ _,fun _=>rfl,by omega,hR.lt⟩,bt h4 hB3,Nat.le_refl _,Nat.zero_le _,fun t ht=>by cases ht⟩
theorem Zns.next{K:Prop}{w W W':World}{n wb k x:Nat}{ops:List OpD}{qJ:List ByteArray}{e:Ending}(hp:Zh9 K W w.heap.size wb x n qJ e W')(hB:Below w.heap.size w W)(hl:qJ.length<=k+1)(hk:k<ops.length)(hs:∀ t∈qJ,t.size<=8192):e=.returned (.bool true)/\Zns K w n ops wb (k+1) W':=by
 obtain⟨he,h1,F,tv,ov,hv,qQ,orl,qK,h2⟩:=hp
 exact⟨he,x,F,tv,ov,hv,qQ,orl,qK,qJ,h2,hB.trans h1,hl,hk,hs⟩
theorem Yaq{K:Prop}{w:World}{n:Nat}{ops:List OpD}{wb k:Nat}{W:World}(hk:k<ops.length)(h8:ops.length+bytesOf ops<=8192)(h:Zns K w n ops wb k W)(hkd:ops[k].kind=1\/ops[k].kind=2\/ops[k].kind=3\/ops[k].kind=4\/ops[k].kind=6):
 Calls Tryz.prog 29 #[.pointer (some ⟨wb,0,none⟩),opV ops[k]] W fun e W'=>e=.returned (.bool true)/\Zns K w n ops wb (k+1) W':=by
 obtain⟨x,F,tv,ov,hv,qQ,orl,qK,qJ,hw,hB,hl,hkk,hs⟩:=h
 unfold opV
 have hsz:=Z62 h8 hk
 have hS:∀ t∈qJ++[ops[k].s],t.size<=8192:=fun t ht=>by
  rcases List.mem_append.1 ht with ht|ht
  ·exact hs t ht
  ·rw[List.mem_singleton.1 ht];exact hsz
 generalize ops[k].kind=J at hkd
 generalize ops[k].s=S at hS
 rcases hkd with rfl|rfl|rfl|rfl|rfl
 ·exact(Z25 hw _ _ S (by omega)).mono fun e W' hp=>Zns.next hp hB (by rw[List.length_append];exact Nat.succ_le_succ hl) hk hS
 ·exact(Zyb hw _ _ S).mono fun e W' hp=>Zns.next hp hB (Nat.zero_le _) hk (fun t ht=>by cases ht)
 ·exact(Zte hw _ _ S (by omega) hs).mono fun e W' hp=>Zns.next hp hB (by omega) hk hs
 ·exact(Zua hw _ _ S (by omega) hs).mono fun e W' hp=>Zns.next hp hB (by omega) hk hs
 ·exact(Z2d hw _ _ S (by omega)).mono fun e W' hp=>Zns.next hp hB (by omega) hk hs
end Go.Proofs.YtgnfknjopafngabGreatDoor
