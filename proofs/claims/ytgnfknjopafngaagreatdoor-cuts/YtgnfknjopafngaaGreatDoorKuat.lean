import Derived.Test.YtgnfknjopafngaaGreatDoorKuar
import Derived.Test.YtgnfknjopafngaaGreatDoorKuas
set_option maxRecDepth 100000
set_option maxHeartbeats 8000000
namespace Go.Proofs.YtgnfknjopafngaaGreatDoor
open Go.RowKit Go.Maps
theorem Live.packs{w:World}{F:Nat->Prop}{x n:Nat}{D:M.Dk}{l:List M.Pk}(h:Live w F x n D l):Calls Tryz.prog 22 #[.pointer (some ⟨x,0,none⟩)] w fun e w'=>∃ a c,e=.returned (.tuple #[.slice a l.length c,.bool true])/\Za8 w' (.slice a l.length c) (Zrg l)/\Below w.heap.size w w':=by
 obtain⟨d,s,k,b,qY,hv,sv,lv,h1,h3⟩:=h
 obtain⟨z1,z2⟩:=h1.size
 refine(Zsg x d s k b l w h1.sess h1.store h1.set (by omega) h1.reads (by omega)).mono ?_
 rintro e w' ⟨a,c,rfl,ho,hB⟩
 rw[<-M.Zc3] at ho
 exact⟨a,c,rfl,by rw[<-M.Zc3];exact Zty ho,hB⟩
theorem Zhl{l:List M.Pk}{n:Nat}(h:M.Tog l)(hr:(M.Zbn l:Int)<=24*((n:Int)-8))(hn:n<=256):l.length<=600/\M.Zbn l<=5952:=by
 have:=M.Zlm h.back
 omega
theorem Z5t{W:World}{tv:Value}{qQ:List M.Pk}(tp:Zbc W tv qQ)(tog:M.Tog qQ)(hl:qQ.length<=600):Calls Tryz.prog 71 #[tv] W fun e w'=>∃ a c,e=.returned (.slice a qQ.length c)/\Za8 w' (.slice a qQ.length c) (Zrg qQ)/\Below W.heap.size W w':=by
 refine(Z7e tv qQ W tp (by omega) (fun p hp=>Zbb.of (tog.back p hp)) tog.apart).mono ?_
 rintro e w' ⟨v,rfl,hr,hB⟩
 have hs:Za8 w' v (Zrg qQ):=by
  unfold Za8
  rw[Znr]
  unfold Zrg
  rw[<-Zya]
  exact hr
 obtain⟨a,c,rfl⟩:=hs.form
 rw[Znr] at hs ⊢
 exact⟨a,c,rfl,hs,hB⟩
theorem Zo6{W:World}{wb x n:Nat}{F:Nat->Prop}{D:M.Dk}{tv ov hv:Value}{qK:Bool}{m qQ:List M.Pk}(hw:W.heap[wb]? = some (.cells (wC x n tv ov qK hv) 79 (0,0)))(hl:Live W F x n D m)(tp:Zbc W tv qQ)(tog:M.Tog qQ)(hn:qQ.length<=600):
 Calls Tryz.prog 43 #[.pointer (some ⟨wb,0,none⟩)] W fun e w'=>e=.returned (.bool (decide (Zrg m=Zrg qQ)))/\Below W.heap.size W w':=by
 have hm:m.length<=600:=by obtain⟨d,s,k,b,qY,hv,sv,lv,h1,h3⟩:=hl;exact h1.size.2
 have c0:W.cell? ⟨wb,0,none⟩=some (.pointer (some ⟨x,0,none⟩)):=(cell_of_row W _ 0 _ _ (0,0) hw).trans rfl
 have cP:=hl.packs
 have cT:=fun wx (hb:Below W.heap.size W wx)=>Z5t (tp.below hb) tog hn
 obtain⟨at',ct,et⟩:=tp.form
 subst et
 have c2:W.cell? ⟨wb,2,none⟩=some (.slice at' qQ.length ct):=(cell_of_row W _ 2 _ _ (0,0) hw).trans rfl
 have hlt:wb<W.heap.size:=(ges.1 hw).1
 obtain⟨R,hR⟩:∃ R,R=decide (Zrg m=Zrg qQ):=⟨_,rfl⟩
 have HRR:=hid hR
 rw[<-hR]
 clear hw hl tp tog hR
 go_enter Tryz.func43,Tryz.ntmps43
 go_wp2_with fail
 refine cP.mono ?_
 rintro e w1 ⟨a1,c1,rfl,hs1,hB1⟩
 have d2:w1.cell? ⟨wb,2,none⟩=some (.slice at' qQ.length ct):=(hB1.cell (p:=⟨wb,2,none⟩) hlt).trans c2
 have HS1:=hid hs1
 clear cP hs1 c0 c2
 go_wp2_with fail
 refine(cT _ hB1).mono ?_
 rintro e w2 ⟨a2,c2,rfl,hs2,hB2⟩
 have cS:=Zlg _ _ _ _ w2 (HS1.out.below hB2) hs2 (by rw[Znr];omega) (by rw[Znr];omega)
 have hB3:=bt hB1 hB2
 rw[<-HRR.out] at cS
 clear HRR cT hs2 d2 hB1 hB2
 go_wp2_with fail
 refine cS.mono ?_
 rintro e w3 ⟨rfl,hB4⟩
 have hB5:=bt hB3 hB4
 clear cS hB3 hB4
 cases R with
 | true=>
  go_wp2
  go_ret
  exact⟨rfl,hB5⟩
 | false=>
  go_wp2
  go_ret
  exact⟨rfl,hB5⟩
theorem Z2d{K:Prop}{w:World}{B wb x n:Nat}{F:Nat->Prop}{tv ov hv:Value}{qQ orl:List M.Pk}{qK:Bool}{qJ:List ByteArray}(h:Lw K w B wb x n F tv ov hv qQ orl qK qJ)(A B':Int)(S:ByteArray)(hn:qJ.length<=1000000):
 Calls Tryz.prog 41 #[.pointer (some ⟨wb,0,none⟩),.agg #[.int .i64 6,.int .i64 A,.int .i64 B',.string S]] w (Zh9 K w B wb x n qJ):=by
 generalize hA:w.alloc (.cells #[.int .i64 6,.int .i64 A,.int .i64 B',.string S] 81)=A0
 have hB0:Below w.heap.size w A0:=by rw[<-hA];exact(Below.refl _ w).alloc ler _
 have hb0:A0.heap[w.heap.size]? = some (.cells #[.int .i64 6,.int .i64 A,.int .i64 B',.string S] 81 (0,0)):=by rw[<-hA];exact heap_alloc_new w _
 have o0:A0.cell? ⟨w.heap.size,0,none⟩=some (.int .i64 6):=(cell_of_row A0 _ 0 _ _ (0,0) hb0).trans rfl
 have h0:=h.below hB0
 have hBw:B<=w.heap.size:=by have:=h.lt;have:=h.wB;omega
 obtain⟨c0,-,-,-,-,c5,-⟩:=h0.cells
 obtain⟨v1,w1,hr1,hs1,hB1⟩:=Zep 43 B hv qJ h0.own (by omega)
 obtain⟨ah,ch,eh⟩:=Zac h0.own
 subst eh
 obtain⟨a1,c1,e1⟩:=hs1.form
 subst e1
 have HR:=hid hr1
 have o1:w1.cell? ⟨w.heap.size,0,none⟩=some (.int .i64 6):=(hB1.cell (p:=⟨w.heap.size,0,none⟩) (World.block_lt_of_cell? _ _ o0)).trans o0
 have h1:=h0.below hB1
 have H1:=hid h1
 have hB2:Below w.heap.size w w1:=bt hB0 hB1
 rcases h0.se with ⟨hmb,D,hkD,hlv⟩|⟨hnK,hg⟩
 ·have cL:=hlv.lost
  have cS:=Zo6 h1.blk (hlv.below hB1) h1.tp h1.tog (Zhl h1.tog h1.room h1.n2).1
  rw[decide_eq_true rfl] at cS
  clear hb0 hr1 hs1 h h0 h1 hB0 hlv hB1
  go_enter Tryz.func41,Tryz.ntmps41
  go_wp2_with (first
   | (go_at_call 32;refine cL.mono ?_;rintro e w' ⟨rfl,rfl⟩)
   | (at_builtin;refine Zbr rfl (.const (.slice none 0 0)) (.tmp 66) 43 rfl _ _ _ _ rfl rfl HR.out ?_))
  refine cS.mono ?_
  rintro e w2 ⟨rfl,hB3⟩
  have H2:Hid (Lw K w2 B wb x n F tv ov (.slice ah qJ.length ch) qQ orl qK qJ):=H1.out.below hB3
  have HB:Hid (Below B w w2):=(hB2.mono hBw).trans (hB3.mono (by have:=hB2.size;omega))
  clear cS hB3 cL
  go_wp2
  go_ret
  exact⟨rfl,HB.out,_,_,_,_,_,_,_,H2.out⟩
 ·have cL:=hg.lost
  have H0:=hid h0
  have HB:=hid (hB0.mono hBw)
  clear hb0 hr1 hs1 h h0 h1 hB0 hg hB1 HR
  go_enter Tryz.func41,Tryz.ntmps41
  go_wp2_with (first
   | (go_at_call 32;refine cL.mono ?_;rintro e w' ⟨rfl,rfl⟩))
  go_ret
  exact⟨rfl,HB.out,_,_,_,_,_,_,_,H0.out⟩
theorem Ztp.noText{K:Prop}{W:World}{F:Nat->Prop}{x n:Nat}{qQ orl:List M.Pk}{qK:Bool}(h:Ztp K W F x n qQ orl qK):Zbm F W:=by
 rcases h with ⟨_,D,_,d,s,k,b,qY,hv,sv,lv,h1,h2⟩|⟨_,d,s0,hv,sv,lv,D,h0,h1,h2⟩
 ·exact fun j hj=>h1.noText j ((h2 j).1 hj)
 ·intro j hj
  rcases(h2 j).1 hj with rfl|hj
  ·exact Zbm.one h1.sess (fun s e=>by cases e) (fun a n p e=>by cases e) (by decide) _ rfl
  ·exact h1.disk.noText (by rw[h1.held];exact h1.n1) (by rw[h1.seen];exact h1.n1) j hj
theorem Lw.around{K:Prop}{W W':World}{B wb x n:Nat}{F:Nat->Prop}{tv ov hv:Value}{qQ orl:List M.Pk}{qK:Bool}{qJ:List ByteArray}(h:Lw K W B wb x n F tv ov hv qQ orl qK qJ)(hc:Chg F W W'):
 (Zbc W' tv qQ/\Zjt W' tv qQ)/\(Zbc W' ov orl/\Zjt W' ov orl)/\W'.heap[wb]? = some (.cells (wC x n tv ov qK hv) 79 (0,0))/\W'.ownsRow B 9 1 hv qJ.length (qJ.map Value.string)/\Below B W W':=by
 have ht:=h.se.noText
 have hBW:B<=W.heap.size:=by have:=h.lt;have:=h.wB;omega
 refine⟨⟨h.tp.chg h.tt hc ht (fun p hp=>(h.tog.back p hp).few),h.tt.chg hc ht⟩,⟨h.op.chg h.ot hc ht (fun p hp=>(h.togo.back p hp).few),h.ot.chg hc ht⟩,?_,?_,?_⟩
 ·exact(hc.block _ h.lt (h.se.off h.blk (by decide))).trans h.blk
 ·refine hc.own h.own (fun g hg=>?_)
  by_cases hm:qJ.length=0
  ·rw[h.hz hm] at hg;cases hg
  ·obtain⟨g2,cap,cur,e,hg',_,hb'⟩:=Zc8 h.own (by omega)
   rw[hb'] at hg
   cases hg
   exact h.se.off hg' (by decide)
 ·exact⟨hc.os,hc.tape,hc.output,hc.size,fun j hj=>hc.block j (by omega) (fun e=>by have:=h.FB j e;omega)⟩
theorem Lw.beside{K:Prop}{W W':World}{B wb x n:Nat}{F:Nat->Prop}{tv ov hv:Value}{qQ orl:List M.Pk}{qK:Bool}{qJ:List ByteArray}(h:Lw K W B wb x n F tv ov hv qQ orl qK qJ)(hc:Chg F W W'){j:Nat}{c:Array Value}{t:TypeId}{f:Nat × Nat}(hj:W.heap[j]? = some (.cells c t f))(ht:¬ Ycg t):W'.heap[j]? = some (.cells c t f):=(hc.block _ (ges.1 hj).1 (h.se.off hj ht)).trans hj
theorem Live.cut{w:World}{F:Nat->Prop}{x n:Nat}{D:M.Dk}{l:List M.Pk}(h:Live w F x n D l)(m:Int)(hm:m<=9223372036854775807):
 Calls Tryz.prog 31 #[.pointer (some ⟨x,0,none⟩),.int .i64 m] w fun e w'=>(∃ v,e=.returned v)/\(∃ D',Live w' F x n D' l)/\Chg F w w':=by
 obtain⟨d,s,k,b,qY,hv,sv,lv,h1,h3⟩:=h
 refine(Z8z h1 m hm).mono ?_
 rintro e w' ⟨he,hs,hc⟩
 exact⟨he,⟨_,d,s,k,b,qY,hv,sv,lv,hs,h3⟩,hc.weak (fun j _ e=>(h3 j).2 e)⟩
theorem Gone.cut{w:World}{F:Nat->Prop}{x n:Nat}{Q:List M.Pk->Prop}(h:Gone w F x n Q)(m:Int):
 Calls Tryz.prog 31 #[.pointer (some ⟨x,0,none⟩),.int .i64 m] w fun e w'=>(∃ v,e=.returned v)/\Gone w' F x n Q/\Chg F w w':=by
 obtain⟨d,s0,hv,sv,lv,D,h0,h1,h3⟩:=h
 refine(Zti x d m _ hv sv lv D w h1.sess h1.disk).mono ?_
 rintro e w' ⟨he,hD,hg⟩
 have hc:Chg (fun j=>j=d) w w':=Chg.grown hg (fun j e _=>(Option.some.inj e).symm)
 have hxd:x≠d:=Zfx h1.sess h1.disk.blk (by decide)
 have hcF:Chg F w w':=hc.weak (fun j _ e=>(h3 j).2 (.inr (.inl e)))
 exact⟨he,⟨d,s0,hv,sv,lv,{ D with left:=max m (-1) },h0,{ h1 with ready:=h1.ready.chg hc (fun j e=>by subst e;exact h1.high j (.inr (.inl rfl))),sess:=h1.sess.chg hc hxd,disk:=hD },h3⟩,hcF⟩
theorem Ztp.cut{K:Prop}{w:World}{F:Nat->Prop}{x n:Nat}{qQ orl:List M.Pk}{qK:Bool}(h:Ztp K w F x n qQ orl qK)(m:Int)(hm:m<=9223372036854775807)(hK:¬ K):
 Calls Tryz.prog 31 #[.pointer (some ⟨x,0,none⟩),.int .i64 m] w fun e w'=>(∃ v,e=.returned v)/\Ztp K w' F x n qQ orl qK/\Chg F w w':=by
 rcases h with ⟨hm0,D,_,h⟩|⟨_,h⟩
 ·exact(h.cut m hm).mono fun e w' hp=>⟨hp.1,.inl ⟨hm0,hp.2.1.elim fun D' hD=>⟨D',fun k=>absurd k hK,hD⟩⟩,hp.2.2⟩
 ·exact(h.cut m).mono fun e w' hp=>⟨hp.1,.inr ⟨hK,hp.2.1⟩,hp.2.2⟩
theorem Z7c{K:Prop}{w:World}{B wb x n:Nat}{F:Nat->Prop}{tv ov hv:Value}{qQ orl:List M.Pk}{qK:Bool}{qJ:List ByteArray}(h:Lw K w B wb x n F tv ov hv qQ orl qK qJ)(A B':Int)(S:ByteArray)(hA1:A<=9223372036854775807)(hK:¬ K):
 Calls Tryz.prog 41 #[.pointer (some ⟨wb,0,none⟩),.agg #[.int .i64 10,.int .i64 A,.int .i64 B',.string S]] w (Zh9 K w B wb x n qJ):=by
 generalize hA:w.alloc (.cells #[.int .i64 10,.int .i64 A,.int .i64 B',.string S] 81)=A0
 have hB0:Below w.heap.size w A0:=by rw[<-hA];exact(Below.refl _ w).alloc ler _
 have hb0:A0.heap[w.heap.size]? = some (.cells #[.int .i64 10,.int .i64 A,.int .i64 B',.string S] 81 (0,0)):=by rw[<-hA];exact heap_alloc_new w _
 have o0:A0.cell? ⟨w.heap.size,0,none⟩=some (.int .i64 10):=(cell_of_row A0 _ 0 _ _ (0,0) hb0).trans rfl
 have o1:A0.cell? ⟨w.heap.size,1,none⟩=some (.int .i64 A):=(cell_of_row A0 _ 1 _ _ (0,0) hb0).trans rfl
 have h0:=h.below hB0
 have hBw:B<=w.heap.size:=by have:=h.lt;have:=h.wB;omega
 obtain⟨c0,-,-,-,-,-,-⟩:=h0.cells
 obtain⟨lb,cL⟩:=h0.se.lost
 have cC:=fun wx (hb:Below A0.heap.size A0 wx)=>(h0.below hb).se.cut A hA1 hK
 have hBd:Below A0.heap.size A0 A0.drew:=Zae A0 1
 have H0:=hid h0
 have HB0:=hid (hB0.mono hBw)
 clear hb0 h h0 hB0 hA1 hK
 go_enter Tryz.func41,Tryz.ntmps41
 go_wp2_with (first
  | (go_at_call 32;refine cL.mono ?_;rintro e w' ⟨rfl,rfl⟩))
 go_region_with (go_at_call 31;refine(cC _ hBd).mono ?_;rintro e w1 ⟨⟨v1,rfl⟩,hse,hc⟩)
 all_goals
  have hD:=H0.out.below hBd
  obtain⟨⟨a1,a2⟩,⟨a3,a4⟩,a5,a6,a7⟩:=hD.around hc
  have H1:Hid (Lw K w1 B wb x n F tv ov hv qQ orl qK qJ):=⟨{ hD.toLr with se:=hse,tp:=a1,tt:=a2,op:=a3,ot:=a4 },a5,a6,hD.hz,hD.wB,hD.hi⟩
  have HB1:Hid (Below B w w1):=(HB0.out.trans (hBd.mono (Nat.le_trans hBw HB0.out.size))).trans a7
  clear hse hc a1 a2 a3 a4 a5 a6 a7 hD
  go_wp2
  go_ret
  exact⟨rfl,HB1.out,_,_,_,_,_,_,_,H1.out⟩
theorem Live.perm{W:World}{F:Nat->Prop}{x n:Nat}{D:M.Dk}{l m:List M.Pk}(h:Live W F x n D l)(hm:M.Tog m)(hr:(M.Zbn m:Int)<=24*((n:Int)-8))(ht:Zrg l=Zrg m):Live W F x n D m:=by
 obtain⟨d,s,k,b,qY,hv,sv,lv,h1,h3⟩:=h
 have e:M.Za5 l=M.Za5 m:=by
  unfold Zrg at ht
  have:=congrArg (List.map fun t:ByteArray=>t.data.toList) ht
  rwa [List.map_map,List.map_map,show ((fun t:ByteArray=>t.data.toList) ∘ fun t:List UInt8=>(⟨t.toArray⟩:ByteArray))=id from rfl,List.map_id,List.map_id] at this
 have hp:=M.Z5i h1.tog.back h1.tog.apart hm.back hm.apart e
 have hk:M.packed l=M.packed m:=by unfold M.packed;rw[e]
 exact⟨d,s,k,b,qY,hv,sv,lv,{ h1 with set:=h1.set.perm hp,rest:=by rw[<-hk];exact h1.rest,tog:=hm,room:=hr },h3⟩
theorem Zz4{W:World}{B wb x n:Nat}{tv ov hv:Value}{qK:Bool}{qJ:List ByteArray}(hb:W.heap[wb]? = some (.cells (wC x n tv ov qK hv) 79 (0,0)))(ho:W.ownsRow B 9 1 hv qJ.length (qJ.map Value.string))(hz:qJ.length=0->hv=.slice none 0 0)(o:Nat)(v:Value):(W.setCell ⟨wb,o,none⟩ v).ownsRow B 9 1 hv qJ.length (qJ.map Value.string):=by
 have hc:Chg (fun j=>j=wb) W (W.setCell ⟨wb,o,none⟩ v):=Chg.grown (Zax W wb o v) (fun i e _=>(Option.some.inj e).symm)
 refine hc.own ho (fun g hg e=>?_)
 by_cases hm:qJ.length=0
 ·rw[hz hm] at hg;cases hg
 ·obtain⟨g2,cap,cur,_,hg',_,hb'⟩:=Zc8 ho (by omega)
  rw[hb'] at hg
  cases hg
  exact Zfx hg' hb (by decide) e
theorem Lw.reopen{K:Prop}{W:World}{B wb x n:Nat}{F:Nat->Prop}{tv ov hv:Value}{qQ orl:List M.Pk}{qK:Bool}{qJ:List ByteArray}(h:Lw K W B wb x n F tv ov hv qQ orl qK qJ)(mask after:Int)(ha:after<=9223372036854775807):
 Calls Tryz.prog 33 #[.pointer (some ⟨x,0,none⟩),.int .i64 mask,.int .i64 after] W fun e w'=>e=.returned okV/\∃ F' D' m,Live w' F' x n D' m/\(m=qQ\/(qK=true/\m=orl))/\Chg F W w'/\(∀ j,F' j->F j\/W.heap.size<=j):=by
 have hd:∃ d s0 hv' sv lv D,Dn W x d n s0 hv' sv lv D (fun m=>m=qQ\/(qK=true/\m=orl))/\∀ j,Ztf x d hv' sv lv j->F j:=by
  rcases h.se with ⟨_,D,_,d,s,k,b,qY,hv',sv,lv,h1,h2⟩|⟨_,d,s0,hv',sv,lv,D,h0,h1,h2⟩
  ·refine⟨d,_,hv',sv,lv,D,h1.dn _ (.inl rfl),fun j hj=>(h2 j).2 ?_⟩
   rcases hj with e|e
   ·exact .inl e
   ·exact .inr (.inr (.inr e))
  ·exact⟨d,s0,hv',sv,lv,D,h1,fun j hj=>(h2 j).2 hj⟩
 obtain⟨d,s0,hv',sv,lv,D,h1,hsub⟩:=hd
 refine(Z23 x d n mask after s0 hv' sv lv D _ W h1.ready h1.sess h1.disk h1.n1 h1.n2 (by rw[h1.held];exact h1.late) (by have:=h1.few;have:=h1.n2;omega) h1.seen h1.held h1.high (fun sel _=>h1.lies sel)).mono ?_
 rintro e w' ⟨s,k,b,qY,l,H,rfl,k1,k2,k3,k4,hQ,hH,k5,k6,k7,k8,k9⟩
 have htg:M.Tog l/\(M.Zbn l:Int)<=24*((n:Int)-8):=by
  rcases hQ with rfl|⟨_,rfl⟩
  ·exact⟨h.tog,h.room⟩
  ·exact⟨h.togo,h.roomo⟩
 have hlt:=h1.ready.lt
 have hnil:∀ j,Zb1 d hv' sv (.slice none 0 0) j->Zb1 d hv' sv lv j:=by
  rintro j (e|e|e|e)
  ·exact .inl e
  ·exact .inr (.inl e)
  ·exact .inr (.inr (.inl e))
  ·cases e
 refine⟨rfl,_,_,l,⟨d,s,k,b,qY,hv',sv,.slice none 0 0,⟨h1.ready.chg k9 h1.high,k1,k2,k3,k5,k4,h1.n1,h1.n2,k6.one,⟨rfl,rfl,rfl,k6⟩,?_,htg.1,htg.2,?_⟩,fun j=>Iff.rfl⟩,hQ,k9.weak (fun j _ e=>hsub j e),?_⟩
 ·show max after (-1)<=_
  omega
 ·rintro j (rfl|rfl|rfl|e)
  ·exact h1.high _ (.inl rfl)
  ·omega
  ·omega
  ·exact h1.high j (.inr (hnil j e))
 ·rintro j (rfl|rfl|rfl|e)
  ·exact .inl (hsub _ (.inl rfl))
  ·exact .inr k7
  ·exact .inr k8
  ·exact .inl (hsub j (.inr (hnil j e)))
theorem Zpf{K:Prop}{w:World}{B wb x n:Nat}{F:Nat->Prop}{tv ov hv:Value}{qQ orl:List M.Pk}{qK:Bool}{qJ:List ByteArray}(h:Lw K w B wb x n F tv ov hv qQ orl qK qJ)(mask after:Int)(ha:after<=9223372036854775807)(hK:¬ K):
 Calls Tryz.prog 42 #[.pointer (some ⟨wb,0,none⟩),.int .i64 mask,.int .i64 after] w (Zh9 K w B wb x n qJ):=by
 obtain⟨c0,-,-,-,-,-,-⟩:=h.cells
 have cR:=h.reopen mask after ha
 have H:=hid h
 have HK:=hid hK
 clear h ha hK
 go_enter Tryz.func42,Tryz.ntmps42
 go_wp2_with fail
 refine cR.mono ?_
 rintro e w1 ⟨rfl,F',D',m,hL,hm,hc,hf⟩
 have h:=H.out
 obtain⟨⟨a1,a2⟩,⟨a3,a4⟩,a5,a6,a7⟩:=h.around hc
 obtain⟨A1,hA1⟩:∃ A1,A1=w1.alloc (.cells okC 23):=⟨_,rfl⟩
 have hBA:Below w1.heap.size w1 A1:=by rw[hA1];exact(Below.refl _ w1).alloc ler _
 have hfa:A1.heap[w1.heap.size]? = some (.cells okC 23 (0,0)):=by rw[hA1];exact heap_alloc_new w1 _
 have hBw:B<=w.heap.size:=by have:=h.lt;have:=h.wB;omega
 have hFB:∀ j,F' j->B<=j:=fun j hj=>by
  rcases hf j hj with e|e
  ·exact h.FB j e
  ·omega
 have hlt1:wb<w1.heap.size:=(ges.1 a5).1
 have hblk:A1.heap[wb]? = some (.cells (wC x n tv ov qK hv) 79 (0,0)):=(hBA.block _ hlt1).trans a5
 have hLA:=hL.below hBA
 have cL:=hLA.lost
 have cS:=Zo6 hblk hLA (a1.below hBA) h.tog (Zhl h.tog h.room h.n2).1
 have c0':A1.cell? ⟨wb,0,none⟩=some (.pointer (some ⟨x,0,none⟩)):=(cell_of_row A1 _ 0 _ _ (0,0) hblk).trans rfl
 rw[hA1] at c0'
 have HA1:=hid hA1
 have HLA:=hid hLA
 have HS:Hid ((Zbc A1 tv qQ/\Zjt A1 tv qQ)/\(Zbc A1 ov orl/\Zjt A1 ov orl)/\A1.heap[wb]? = some (.cells (wC x n tv ov qK hv) 79 (0,0))/\A1.ownsRow B 9 1 hv qJ.length (qJ.map Value.string)/\Below B w A1/\A1.heap[w1.heap.size]? = some (.cells okC 23 (0,0))):=
  ⟨⟨a1.below hBA,a2.below hBA⟩,⟨a3.below hBA,a4.below hBA⟩,hblk,own_below a6 hBA,a7.trans (hBA.mono (by have:=hc.size;omega)),hfa⟩
 have HFB:=hid hFB
 have HM:=hid hm
 clear cR hL hc hf a1 a2 a3 a4 a5 a6 a7 hBA hfa hFB hm hblk hLA hA1 h c0 hlt1
 obtain⟨R,hR⟩:∃ R,R=decide (Zrg m=Zrg qQ):=⟨_,rfl⟩
 rw[<-hR] at cS
 have HRR:=hid hR
 clear hR
 go_wp2_with fail
 rw[<-HA1.out]
 refine cL.mono ?_
 rintro e w2 ⟨rfl,e2⟩
 obtain rfl:=e2
 clear cL
 go_wp2_with fail
 refine cS.mono ?_
 rintro e w2 ⟨rfl,hB2⟩
 have HwB:Hid (B<=wb/\1<B):=⟨H.out.wB,H.out.hi⟩
 have HLr:Hid (M.Tog qQ/\(M.Zbn qQ:Int)<=24*((n:Int)-8)/\M.Tog orl/\(M.Zbn orl:Int)<=24*((n:Int)-8)/\16<=n/\n<=256/\(qJ.length=0->hv=.slice none 0 0)):=⟨H.out.tog,H.out.room,H.out.togo,H.out.roomo,H.out.n1,H.out.n2,H.out.hz⟩
 have hblk2:w2.heap[wb]? = some (.cells (wC x n tv ov qK hv) 79 (0,0)):=(hB2.block _ (ges.1 HS.out.2.2.1).1).trans HS.out.2.2.1
 have hfl2:w2.heap[w1.heap.size]? = some (.cells okC 23 (0,0)):=(hB2.block _ (ges.1 HS.out.2.2.2.2.2).1).trans HS.out.2.2.2.2.2
 have hne:w1.heap.size≠wb:=Zfx hfl2 hblk2 (by decide)
 have d3:w2.cell? ⟨wb,3,none⟩=some ov:=(cell_of_row w2 _ 3 _ _ (0,0) hblk2).trans rfl
 have d2:w2.cell? ⟨wb,2,none⟩=some tv:=(cell_of_row w2 _ 2 _ _ (0,0) hblk2).trans rfl
 have d4:w2.cell? ⟨wb,4,none⟩=some (.bool qK):=(cell_of_row w2 _ 4 _ _ (0,0) hblk2).trans rfl
 have df:∀ o,w2.frozen? ⟨wb,o,none⟩=false:=fun o=>frozen_of_row w2 _ o _ _ hblk2
 obtain⟨z0,z1,z2,z3,zf⟩:=Zcl hfl2
 clear cS
 cases R with
 | true=>
  have HQ:Hid (Lw K (w2.setCell ⟨wb,4,none⟩ (.bool false)) B wb x n F' tv ov hv qQ orl false qJ/\Below B w (w2.setCell ⟨wb,4,none⟩ (.bool false))):=by
   obtain⟨⟨b1,b2⟩,⟨b3,b4⟩,b5,b6,b7,_⟩:=HS.out
   obtain⟨t1,t2,t3,t4,t5,t6,t7⟩:=HLr.out
   have hLr:Lr K w2 B x n F' tv ov qQ orl false:=⟨.inl ⟨rfl,D',fun k=>absurd k HK.out,(HLA.out.below hB2).perm t1 t2 (of_decide_eq_true HRR.out.symm)⟩,b1.below hB2,b2.below hB2,b3.below hB2,b4.below hB2,t1,t2,t3,t4,t5,t6,HFB.out⟩
   have hhi:1<wb:=by have:=HwB.out;omega
   exact⟨⟨hLr.wb hblk2 rfl hhi 4 _,heap_setCell_same w2 _ 4 _ _ _ hblk2,Zz4 hblk2 (own_below b6 hB2) t7 4 _,t7,HwB.out.1,HwB.out.2⟩,(b7.trans (hB2.mono (by have:=b7.size;omega))).setCell HwB.out.1 _⟩
  clear hblk2 hfl2
  go_wp2
  go_ret
  exact⟨rfl,HQ.out.2,_,_,_,_,_,_,_,HQ.out.1⟩
 | false=>
  have hmb:qK=true/\m=orl:=by
   rcases HM.out with e|e
   ·have:=HRR.out
    rw[e,decide_eq_true rfl] at this
    cases this
   ·exact e
  obtain⟨rfl,rfl⟩:=hmb
  obtain⟨W3,hW3⟩:∃ W3,W3=w2.setCell ⟨wb,2,none⟩ ov:=⟨_,rfl⟩
  have HW3:=hid hW3
  have hhi:1<wb:=by have:=HwB.out;omega
  obtain⟨⟨b1,b2⟩,⟨b3,b4⟩,b5,b6,b7,_⟩:=HS.out
  obtain⟨t1,t2,t3,t4,t5,t6,t7⟩:=HLr.out
  have hLr2:Lr K w2 B x n F' ov ov m m false:=⟨.inl ⟨rfl,D',fun k=>absurd k HK.out,HLA.out.below hB2⟩,b3.below hB2,b4.below hB2,b3.below hB2,b4.below hB2,t3,t4,t3,t4,t5,t6,HFB.out⟩
  have hLr3:Lr K W3 B x n F' ov ov m m false:=by rw[hW3];exact hLr2.wb hblk2 rfl hhi 2 _
  have hblk3:W3.heap[wb]? = some (.cells (wC x n ov ov true hv) 79 (0,0)):=by rw[hW3];exact heap_setCell_same w2 _ 2 _ _ _ hblk2
  have hfl3:W3.heap[w1.heap.size]? = some (.cells okC 23 (0,0)):=by rw[hW3,Below.heap_setCell _ _ _ _ hne];exact hfl2
  have hown3:W3.ownsRow B 9 1 hv qJ.length (qJ.map Value.string):=by rw[hW3];exact Zz4 hblk2 (own_below b6 hB2) t7 2 _
  have hBb3:Below B w W3:=by rw[hW3];exact(b7.trans (hB2.mono (by have:=b7.size;omega))).setCell HwB.out.1 _
  have hlv3:∃ D3,Live W3 F' x n D3 m:=by
   rcases hLr3.se with ⟨_,D3,_,e⟩|⟨_,e⟩
   ·exact⟨D3,e⟩
   ·obtain⟨d,s,k,b,qY,hv',sv,lv,g1,g2⟩:=HLA.out
    exact⟨D',by rw[hW3];exact(HLA.out.below hB2).chg (Chg.grown (F:=fun j=>j=wb) (Zax w2 wb 2 ov) (fun i e _=>(Option.some.inj e).symm)) (Zbm.one hblk2 (fun s e=>by cases e) (fun a n p e=>by cases e)) (Zjn hblk2 (by decide)) (fun j e=>by rw[e];exact hhi) (fun j hj e=>by subst e;exact hLr2.se.off hblk2 (by decide) hj)⟩
  obtain⟨D3,hlv3⟩:=hlv3
  have cS2:=Zo6 hblk3 hlv3 hLr3.tp t3 (Zhl t3 t4 t6).1
  rw[decide_eq_true rfl] at cS2
  have HL3:=hid hLr3
  have HS3:Hid (W3.heap[wb]? = some (.cells (wC x n ov ov true hv) 79 (0,0))/\W3.heap[w1.heap.size]? = some (.cells okC 23 (0,0))/\W3.ownsRow B 9 1 hv qJ.length (qJ.map Value.string)/\Below B w W3/\(qJ.length=0->hv=.slice none 0 0)):=⟨hblk3,hfl3,hown3,hBb3,t7⟩
  clear hblk2 hfl2 hblk3 hfl3 hown3 hBb3 hlv3 hLr3 hLr2 b1 b2 b3 b4 b5 b6 b7 t1 t2 t3 t4 t5 t6 t7 hW3 HS HLr HLA HRR HM
  obtain⟨ao,co,no,eov⟩:∃ ao co no,ov=.slice ao no co:=by obtain⟨a,c,e⟩:=HL3.out.tp.form;exact⟨a,c,_,e⟩
  subst eov
  go_wp2_with fail
  rw[<-HW3.out]
  refine cS2.mono ?_
  rintro e w4 ⟨rfl,hB4⟩
  obtain⟨s1,s2,s3,s4,s5⟩:=HS3.out
  have hblk4:w4.heap[wb]? = some (.cells (wC x n (.slice ao no co) (.slice ao no co) true hv) 79 (0,0)):=(hB4.block _ (ges.1 s1).1).trans s1
  have hfl4:w4.heap[w1.heap.size]? = some (.cells okC 23 (0,0)):=(hB4.block _ (ges.1 s2).1).trans s2
  have HQ:Hid (Lw K (w4.setCell ⟨wb,4,none⟩ (.bool false)) B wb x n F' (.slice ao no co) (.slice ao no co) hv m m false qJ/\Below B w (w4.setCell ⟨wb,4,none⟩ (.bool false))):=
   ⟨⟨(HL3.out.below hB4).wb hblk4 rfl hhi 4 _,heap_setCell_same w4 _ 4 _ _ _ hblk4,Zz4 hblk4 (own_below s3 hB4) s5 4 _,s5,HwB.out.1,HwB.out.2⟩,(s4.trans (hB4.mono (by have:=s4.size;omega))).setCell HwB.out.1 _⟩
  have d4':w4.cell? ⟨wb,4,none⟩=some (.bool true):=(cell_of_row w4 _ 4 _ _ (0,0) hblk4).trans rfl
  have df':∀ o,w4.frozen? ⟨wb,o,none⟩=false:=fun o=>frozen_of_row w4 _ o _ _ hblk4
  obtain⟨y0,y1,y2,y3,yf⟩:=Zcl hfl4
  clear cS2 s1 s2 s3 s4 s5 hblk4 hfl4 hB4 z0 z1 z2 z3 zf d2 d3 d4 df
  go_wp2
  go_ret
  exact⟨rfl,HQ.out.2,_,_,_,_,_,_,_,HQ.out.1⟩
theorem Zh9.from{K:Prop}{w w' W:World}{B wb x n:Nat}{qJ:List ByteArray}{e:Ending}(h:Zh9 K w' B wb x n qJ e W)(hb:Below B w w'):Zh9 K w B wb x n qJ e W:=⟨h.1,hb.trans h.2.1,h.2.2⟩
theorem Zvi{K:Prop}{w:World}{B wb x n:Nat}{F:Nat->Prop}{tv ov hv:Value}{qQ orl:List M.Pk}{qK:Bool}{qJ:List ByteArray}(h:Lw K w B wb x n F tv ov hv qQ orl qK qJ)(A B':Int)(S:ByteArray)(hA1:B'<=9223372036854775807)(hK:¬ K):
 Calls Tryz.prog 41 #[.pointer (some ⟨wb,0,none⟩),.agg #[.int .i64 9,.int .i64 A,.int .i64 B',.string S]] w (Zh9 K w B wb x n qJ):=by
 generalize hA:w.alloc (.cells #[.int .i64 9,.int .i64 A,.int .i64 B',.string S] 81)=A0
 have hB0:Below w.heap.size w A0:=by rw[<-hA];exact(Below.refl _ w).alloc ler _
 have hb0:A0.heap[w.heap.size]? = some (.cells #[.int .i64 9,.int .i64 A,.int .i64 B',.string S] 81 (0,0)):=by rw[<-hA];exact heap_alloc_new w _
 have o0:A0.cell? ⟨w.heap.size,0,none⟩=some (.int .i64 9):=(cell_of_row A0 _ 0 _ _ (0,0) hb0).trans rfl
 have o1:A0.cell? ⟨w.heap.size,1,none⟩=some (.int .i64 A):=(cell_of_row A0 _ 1 _ _ (0,0) hb0).trans rfl
 have o2:A0.cell? ⟨w.heap.size,2,none⟩=some (.int .i64 B'):=(cell_of_row A0 _ 2 _ _ (0,0) hb0).trans rfl
 have h0:=h.below hB0
 have hBw:B<=w.heap.size:=by have:=h.lt;have:=h.wB;omega
 obtain⟨c0,-,-,-,-,-,-⟩:=h0.cells
 obtain⟨lb,cL⟩:=h0.se.lost
 have HB0:=hid (hB0.mono hBw)
 have cR:=fun wx (hb:Below A0.heap.size A0 wx)=>(Zpf (h0.below hb) A B' hA1 hK).mono (fun e W hp=>hp.from (HB0.out.trans (hb.mono (Nat.le_trans hBw HB0.out.size))))
 have hBr:Below A0.heap.size A0 A0:=Below.refl _ _
 clear hb0 h h0 hB0 hA1 hK
 go_enter Tryz.func41,Tryz.ntmps41
 go_wp2_with (first
  | (go_at_call 32;refine cL.mono ?_;rintro e w' ⟨rfl,rfl⟩))
 refine(cR _ hBr).mono ?_
 rintro e w1 ⟨rfl,hp1,hp2⟩
 have HP:Hid (Below B w w1/\∃ F tv ov hv qQ orl qK,Lw K w1 B wb x n F tv ov hv qQ orl qK qJ):=⟨hp1,hp2⟩
 clear hp1 hp2 cR cL
 go_wp2
 go_ret
 exact⟨rfl,HP.out.1,HP.out.2⟩
theorem Zt7(D:M.Dk):D.sync.left<=D.left:=by
 unfold M.Dk.sync
 split <;> (show (if 0<D.left then D.left-1 else D.left)<=D.left;split <;> omega)
theorem Z3d(D:M.Dk)(n:Nat)(x:List UInt8):(D.write n x).left<=D.left:=by
 unfold M.Dk.write
 split <;> (show (if 0<D.left then D.left-1 else D.left)<=D.left;split <;> omega)
theorem Z5x{D:M.Dk}{n qY:Nat}{t:List UInt8}{b:Int}(h:D.left<=b):(D.save n qY t).left<=b:=by
 have h1:=(Zof D n qY t (M.Zfv t.length)).2.1
 unfold M.Dk.save
 exact Int.le_trans (Zt7 _) (Int.le_trans (Z3d _ _ _) (Int.le_trans (Zt7 _) (Int.le_trans h1 h)))
def SeTo(R:Sum M.Fa (List M.Pk))(F:Nat->Prop)(x n:Nat)(D:M.Dk)(l:List M.Pk)(w w':World):Prop:=match R with
 | .inl _=>Below w.heap.size w w'
 | .inr all=>∃ F',Chg F w w'/\(∀ j,F' j->F j\/w.heap.size<=j)/\M.Tog all/\(M.Zbn all:Int)<=24*((n:Int)-8)/\((∃ D',(M.Zfl D->M.Zfl D')/\Live w' F' x n D' all)\/(¬ M.Zfl D/\Gone w' F' x n (fun m=>m=all\/m=l)))
theorem Z39{w:World}{x d s k b qY n:Nat}{hv sv lv:Value}{D:M.Dk}{l:List M.Pk}{F:Nat->Prop}(h:Zde w x d s k b qY n hv sv lv D l)(h3:∀ j,F j↔Zpr x d s k hv sv lv j)(R:Sum M.Fa (List M.Pk))(hR:∀ all,R=.inr all->M.Tog all/\(M.Zbn all:Int)<=24*((n:Int)-8)){e:Ending}{w':World}(hp:Znk R w x d s k qY n hv sv lv D e w'):e=.returned (faV (Zh1 R))/\SeTo R F x n D l w w':=by
 cases R with
 | inl f=>exact hp
 | inr all=>
  obtain⟨q1,q2⟩:=hR all rfl
  obtain⟨he,nb,lv',h1,h2,h3',h4,h5,h6,h7,h8⟩:=hp
  obtain⟨hf1,hf2⟩:=M.Zo7 q1.back q1.apart h.n1 h.n2 q2
  have hlt:=h.ready.lt
  have hcF:Chg F w w':=h7.weak (fun j _ e=>(h3 j).2 (.inr e))
  have hdf:∀ j,Zb1 d hv sv lv' j->Zb1 d hv sv lv j\/w.heap.size<=j:=by
   rintro j (e|e|e|e)
   ·exact .inl (.inl e)
   ·exact .inl (.inr (.inl e))
   ·exact .inl (.inr (.inr (.inl e)))
   ·rcases h8 j e with e|e
    ·exact .inl (.inr (.inr (.inr e)))
    ·exact .inr e
  refine⟨he,?_⟩
  rcases M.Yb5 h.rest (by have:=h.n1;omega) hf1 hf2 with r|r
  ·refine⟨Zpr x d s k hv sv lv',hcF,?_,q1,q2,.inl ⟨_,fun hs=>hs.save _ _ _,d,s,k,nb,1-qY,hv,sv,lv',⟨h1,h2,h3',h4,h6,h5,h.n1,h.n2,by omega,r,?_,q1,q2,?_⟩,fun j=>Iff.rfl⟩⟩
   ·rintro j (e|e|e|e)
    ·exact .inl ((h3 j).2 (.inl e))
    ·exact .inl ((h3 j).2 (.inr (.inl e)))
    ·exact .inl ((h3 j).2 (.inr (.inr (.inl e))))
    ·exact(hdf j e).imp (fun e=>(h3 j).2 (.inr (.inr (.inr e)))) id
   ·exact Z5x h.left
   ·rintro j (e|e|e|e)
    ·exact h.high j (.inl e)
    ·exact h.high j (.inr (.inl e))
    ·exact h.high j (.inr (.inr (.inl e)))
    ·rcases hdf j e with e|e
     ·exact h.high j (.inr (.inr (.inr e)))
     ·omega
  ·have hH:=Held.of q1 q2 h.n2
   have hH0:=Held.of h.tog h.room h.n2
   refine⟨Ztf x d hv sv lv',hcF,?_,q1,q2,.inr ⟨fun hs=>?_,d,.pointer (some ⟨s,0,none⟩),hv,sv,lv',D.save n (1-qY) (M.packed all),r.dead,⟨h1,h2,h6,h.n1,h.n2,fun p hp=>(r.size p hp).1,r.few,r.seen,Zw5 r,?_,fun sel=>?_⟩,fun j=>Iff.rfl⟩⟩
   ·rintro j (e|e)
    ·exact .inl ((h3 j).2 (.inl e))
    ·exact(hdf j e).imp (fun e=>(h3 j).2 (.inr (.inr (.inr e)))) id
   ·have:=(hs.save n (1-qY) (M.packed all)).1
    rw[r.dead] at this
    cases this
   ·rintro j (e|e)
    ·exact h.high j (.inl e)
    ·rcases hdf j e with e|e
     ·exact h.high j (.inr (.inr (.inr e)))
     ·omega
   ·obtain⟨a,t,⟨rfl,rfl⟩|⟨rfl,rfl⟩,hl⟩:=r.lies sel
    ·exact⟨_,l,.inr rfl,hH0,hl⟩
    ·exact⟨_,all,.inl rfl,hH,hl⟩
theorem Live.install{w:World}{F:Nat->Prop}{x n:Nat}{D:M.Dk}{l:List M.Pk}(h:Live w F x n D l)(xv:Value)(qX:List ByteArray)(hx:Zdh w xv qX)(hxn:qX.length<=10000)(hxs:∀ t∈qX,t.size<=8192):
 Calls Tryz.prog 21 #[.pointer (some ⟨x,0,none⟩),xv] w fun e w'=>e=.returned (faV (Zh1 (M.Zap l (qX.map fun t=>t.data.toList) (24*((n:Int)-8)))))/\SeTo (M.Zap l (qX.map fun t=>t.data.toList) (24*((n:Int)-8))) F x n D l w w':=by
 obtain⟨d,s,k,b,qY,hv,sv,lv,h1,h3⟩:=h
 refine(Zvd h1 xv qX hx hxn hxs).mono fun e w' hp=>Z39 h1 h3 _ (fun all e=>?_) hp
 obtain⟨_,_,_,_,_,q1,_,q2⟩:=M.Zi3 e h1.tog.back h1.tog.apart
 exact⟨q1,q2⟩
theorem Live.remove{w:World}{F:Nat->Prop}{x n:Nat}{D:M.Dk}{l:List M.Pk}(h:Live w F x n D l)(xv:Value)(qG:List ByteArray)(hx:Zdh w xv qG)(hxn:qG.length<=10000)(hxs:∀ t∈qG,t.size<=8192):
 Calls Tryz.prog 24 #[.pointer (some ⟨x,0,none⟩),xv] w fun e w'=>e=.returned (faV (Zh1 (M.Za6 l (qG.map fun t=>t.data.toList))))/\SeTo (M.Za6 l (qG.map fun t=>t.data.toList)) F x n D l w w':=by
 obtain⟨d,s,k,b,qY,hv,sv,lv,h1,h3⟩:=h
 refine(Zxw h1 xv qG hx hxn hxs).mono fun e w' hp=>Z39 h1 h3 _ (fun all e=>?_) hp
 obtain⟨q1,_,q2⟩:=M.Zl8 e h1.tog
 exact⟨q1,by have:=h1.room;omega⟩
theorem Zx1{W:World}{wb x n:Nat}{tv ov hv:Value}{qK:Bool}(a c:Nat)(aa ta:Option Addr)(tn tc:Nat)(ht:tv=.slice ta tn tc)(lb:Bool)(hw:W.heap[wb]? = some (.cells (wC x n tv ov qK hv) 79 (0,0)))
 (cL:∀ W1,W1=(W.setCell ⟨wb,3,none⟩ tv).setCell ⟨wb,2,none⟩ (.slice aa a c)->Calls Tryz.prog 32 #[.pointer (some ⟨x,0,none⟩)] W1 fun e w'=>e=.returned (.bool lb)/\W1=w'):
 Calls Tryz.prog 107 #[.pointer (some ⟨wb,0,none⟩),.slice aa a c] W fun e w'=>(∃ v,e=.returned v)/\w'=((W.setCell ⟨wb,3,none⟩ tv).setCell ⟨wb,2,none⟩ (.slice aa a c)).setCell ⟨wb,4,none⟩ (.bool lb):=by
 subst ht
 have c0:W.cell? ⟨wb,0,none⟩=some (.pointer (some ⟨x,0,none⟩)):=(cell_of_row W _ 0 _ _ (0,0) hw).trans rfl
 have c2:W.cell? ⟨wb,2,none⟩=some (.slice ta tn tc):=(cell_of_row W _ 2 _ _ (0,0) hw).trans rfl
 have c3:W.cell? ⟨wb,3,none⟩=some ov:=(cell_of_row W _ 3 _ _ (0,0) hw).trans rfl
 have c4:W.cell? ⟨wb,4,none⟩=some (.bool qK):=(cell_of_row W _ 4 _ _ (0,0) hw).trans rfl
 have df:∀ o,W.frozen? ⟨wb,o,none⟩=false:=fun o=>frozen_of_row W _ o _ _ hw
 clear hw
 go_enter Tryz.func107,Tryz.ntmps107
 go_wp2_with fail
 refine(cL _ rfl).mono ?_
 rintro e w1 ⟨rfl,e1⟩
 obtain rfl:=e1
 go_wp2
 go_end0
 exact⟨⟨_,rfl⟩,rfl⟩
theorem Zyx{W:World}{n:Nat}{tv xv:Value}{qQ:List M.Pk}{qJ:List ByteArray}(tp:Zbc W tv qQ)(tog:M.Tog qQ)(hl:qQ.length<=600)(hn:n<=256)(hx:Za8 W xv qJ)(hxn:qJ.length<=10000)(hxs:∀ t∈qJ,t.size<=8192):
 Calls Tryz.prog 105 #[tv,xv,.int .i64 n] W fun e w'=>∃ aa an ac,e=.returned (.tuple #[.slice aa an ac,faV (Zh1 (M.Zap qQ (qJ.map fun t=>t.data.toList) (24*((n:Int)-8))))])/\(∀ all,M.Zap qQ (qJ.map fun t=>t.data.toList) (24*((n:Int)-8))=.inr all->Zbc w' (.slice aa an ac) all/\Zjt w' (.slice aa an ac) all)/\Below W.heap.size W w':=by
 refine(Ztt tv xv qQ qJ n W tp hx hn (by omega) (by omega) (fun t ht=>Nat.le_trans (hxs t ht) (by decide)) (fun p hp=>Zbb.of (tog.back p hp))).mono ?_
 rintro e w' ⟨hB,hm⟩
 rw[show Znd n=24*((n:Int)-8) from rfl] at hm
 cases hR:M.Zap qQ (qJ.map fun t=>t.data.toList) (24*((n:Int)-8)) with
 | inl f=>
  rw[hR] at hm
  exact⟨none,0,0,hm,(fun all e=>by cases e),hB⟩
 | inr all=>
  rw[hR] at hm
  obtain⟨av,rfl,h1,h2⟩:=hm
  obtain⟨a,c,rfl⟩:=h1.form
  exact⟨a,_,c,rfl,(fun all' e=>by cases e;exact⟨h1,h2⟩),hB⟩
theorem Zkr{W:World}{B:Nat}{hv:Value}{qJ:List ByteArray}(h:W.ownsRow B 9 1 hv qJ.length (qJ.map Value.string)):Za8 W hv qJ:=by
 have h1:W.ownsRow B 9 1 hv (qJ.map fun t=>t.data.toList).length ((qJ.map fun t=>t.data.toList).map Zbe):=by
  rw[List.length_map,List.map_map]
  exact h
 have h2:=Zty h1
 rwa [List.map_map,show ((fun t:List UInt8=>(⟨t.toArray⟩:ByteArray)) ∘ fun t:ByteArray=>t.data.toList)=id from rfl,List.map_id] at h2
end Go.Proofs.YtgnfknjopafngaaGreatDoor
