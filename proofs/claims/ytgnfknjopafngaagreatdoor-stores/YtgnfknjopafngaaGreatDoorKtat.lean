import Derived.Test.YtgnfknjopafngaaGreatDoorKtar
import Derived.Test.YtgnfknjopafngaaGreatDoorKtas
set_option maxRecDepth 100000
set_option maxHeartbeats 8000000
namespace Go.Proofs.YtgnfknjopafngaaGreatDoor
open Go.RowKit Go.Maps
theorem Live.packs{w:World}{F:Nat->Prop}{x n:Nat}{D:M.Dk}{l:List M.Pk}(h:Live w F x n D l):Calls Tryz.prog 22 #[.pointer (some ⟨x,0,none⟩)] w fun e w'=>∃ a c,e=.returned (.tuple #[.slice a l.length c,.bool true])/\Za8 w' (.slice a l.length c) (Zrg l)/\Below w.heap.size w w':=by
 obtain⟨d,s,k,b,qY,hv,sv,lv,h1,h3⟩:=h
 obtain⟨z1,z2⟩:=h1.size
 refine(Zsg x d s k b l w h1.sess h1.store h1.set (by omega) h1.reads (by omega)).mono ?_
 rintro e w' ⟨a,c,rfl,ho,hB⟩
 rw[<-M.Zc3] at ho
 exact⟨a,c,rfl,by rw[<-M.Zc3];exact Zty ho,hB⟩
theorem Zhl{l:List M.Pk}{n:Nat}(h:M.Tog l)(hr:(M.Zbn l:Int)<=24*((n:Int)-8))(hn:n<=256):l.length<=600/\M.Zbn l<=5952:=by
 have:=M.Zlm h.back
 omega
theorem Z5t{W:World}{tv:Value}{qQ:List M.Pk}(tp:Zbc W tv qQ)(tog:M.Tog qQ)(hl:qQ.length<=600):Calls Tryz.prog 71 #[tv] W fun e w'=>∃ a c,e=.returned (.slice a qQ.length c)/\Za8 w' (.slice a qQ.length c) (Zrg qQ)/\Below W.heap.size W w':=by
 refine(Z7e tv qQ W tp (by omega) (fun p hp=>Zbb.of (tog.back p hp)) tog.apart).mono ?_
 rintro e w' ⟨v,rfl,hr,hB⟩
 have hs:Za8 w' v (Zrg qQ):=by
  unfold Za8
  rw[Znr]
  unfold Zrg
  rw[<-Zya]
  exact hr
 obtain⟨a,c,rfl⟩:=hs.form
 rw[Znr] at hs ⊢
 exact⟨a,c,rfl,hs,hB⟩
theorem Zo6{W:World}{wb x n:Nat}{F:Nat->Prop}{D:M.Dk}{tv ov hv:Value}{qK:Bool}{m qQ:List M.Pk}(hw:W.heap[wb]? = some (.cells (wC x n tv ov qK hv) 79 (0,0)))(hl:Live W F x n D m)(tp:Zbc W tv qQ)(tog:M.Tog qQ)(hn:qQ.length<=600):
 Calls Tryz.prog 43 #[.pointer (some ⟨wb,0,none⟩)] W fun e w'=>e=.returned (.bool (decide (Zrg m=Zrg qQ)))/\Below W.heap.size W w':=by
 have hm:m.length<=600:=by obtain⟨d,s,k,b,qY,hv,sv,lv,h1,h3⟩:=hl;exact h1.size.2
 have c0:W.cell? ⟨wb,0,none⟩=some (.pointer (some ⟨x,0,none⟩)):=(cell_of_row W _ 0 _ _ (0,0) hw).trans rfl
 have cP:=hl.packs
 have cT:=fun wx (hb:Below W.heap.size W wx)=>Z5t (tp.below hb) tog hn
 obtain⟨at',ct,et⟩:=tp.form
 subst et
 have c2:W.cell? ⟨wb,2,none⟩=some (.slice at' qQ.length ct):=(cell_of_row W _ 2 _ _ (0,0) hw).trans rfl
 have hlt:wb<W.heap.size:=(ges.1 hw).1
 obtain⟨R,hR⟩:∃ R,R=decide (Zrg m=Zrg qQ):=⟨_,rfl⟩
 have HRR:=hid hR
 rw[<-hR]
 clear hw hl tp tog hR
 go_enter Tryz.func43,Tryz.ntmps43
 go_wp2_with fail
 refine cP.mono ?_
 rintro e w1 ⟨a1,c1,rfl,hs1,hB1⟩
 have d2:w1.cell? ⟨wb,2,none⟩=some (.slice at' qQ.length ct):=(hB1.cell (p:=⟨wb,2,none⟩) hlt).trans c2
 have HS1:=hid hs1
 clear cP hs1 c0 c2
 go_wp2_with fail
 refine(cT _ hB1).mono ?_
 rintro e w2 ⟨a2,c2,rfl,hs2,hB2⟩
 have cS:=Zlg _ _ _ _ w2 (HS1.out.below hB2) hs2 (by rw[Znr];omega) (by rw[Znr];omega)
 have hB3:=bt hB1 hB2
 rw[<-HRR.out] at cS
 clear HRR cT hs2 d2 hB1 hB2
 go_wp2_with fail
 refine cS.mono ?_
 rintro e w3 ⟨rfl,hB4⟩
 have hB5:=bt hB3 hB4
 clear cS hB3 hB4
 cases R with
 | true=>
  go_wp2
  go_ret
  exact⟨rfl,hB5⟩
 | false=>
  go_wp2
  go_ret
  exact⟨rfl,hB5⟩
theorem Z2d{K:Prop}{w:World}{B wb x n:Nat}{F:Nat->Prop}{tv ov hv:Value}{qQ orl:List M.Pk}{qK:Bool}{qJ:List ByteArray}(h:Lw K w B wb x n F tv ov hv qQ orl qK qJ)(A B':Int)(S:ByteArray)(hn:qJ.length<=1000000):
 Calls Tryz.prog 41 #[.pointer (some ⟨wb,0,none⟩),.agg #[.int .i64 6,.int .i64 A,.int .i64 B',.string S]] w (Zh9 K w B wb x n qJ):=by
 generalize hA:w.alloc (.cells #[.int .i64 6,.int .i64 A,.int .i64 B',.string S] 81)=A0
 have hB0:Below w.heap.size w A0:=by rw[<-hA];exact(Below.refl _ w).alloc ler _
 have hb0:A0.heap[w.heap.size]? = some (.cells #[.int .i64 6,.int .i64 A,.int .i64 B',.string S] 81 (0,0)):=by rw[<-hA];exact heap_alloc_new w _
 have o0:A0.cell? ⟨w.heap.size,0,none⟩=some (.int .i64 6):=(cell_of_row A0 _ 0 _ _ (0,0) hb0).trans rfl
 have h0:=h.below hB0
 have hBw:B<=w.heap.size:=by have:=h.lt;have:=h.wB;omega
 obtain⟨c0,-,-,-,-,c5,-⟩:=h0.cells
 obtain⟨v1,w1,hr1,hs1,hB1⟩:=Zep 43 B hv qJ h0.own (by omega)
 obtain⟨ah,ch,eh⟩:=Zac h0.own
 subst eh
 obtain⟨a1,c1,e1⟩:=hs1.form
 subst e1
 have HR:=hid hr1
 have o1:w1.cell? ⟨w.heap.size,0,none⟩=some (.int .i64 6):=(hB1.cell (p:=⟨w.heap.size,0,none⟩) (World.block_lt_of_cell? _ _ o0)).trans o0
 have h1:=h0.below hB1
 have H1:=hid h1
 have hB2:Below w.heap.size w w1:=bt hB0 hB1
 rcases h0.se with ⟨hmb,D,hkD,hlv⟩|⟨hnK,hg⟩
 ·have cL:=hlv.lost
  have cS:=Zo6 h1.blk (hlv.below hB1) h1.tp h1.tog (Zhl h1.tog h1.room h1.n2).1
  rw[decide_eq_true rfl] at cS
  clear hb0 hr1 hs1 h h0 h1 hB0 hlv hB1
  go_enter Tryz.func41,Tryz.ntmps41
  go_wp2_with (first
   | (go_at_call 32;refine cL.mono ?_;rintro e w' ⟨rfl,rfl⟩)
   | (at_builtin;refine Zbr rfl (.const (.slice none 0 0)) (.tmp 66) 43 rfl _ _ _ _ rfl rfl HR.out ?_))
  refine cS.mono ?_
  rintro e w2 ⟨rfl,hB3⟩
  have H2:Hid (Lw K w2 B wb x n F tv ov (.slice ah qJ.length ch) qQ orl qK qJ):=H1.out.below hB3
  have HB:Hid (Below B w w2):=(hB2.mono hBw).trans (hB3.mono (by have:=hB2.size;omega))
  clear cS hB3 cL
  go_wp2
  go_ret
  exact⟨rfl,HB.out,_,_,_,_,_,_,_,H2.out⟩
 ·have cL:=hg.lost
  have H0:=hid h0
  have HB:=hid (hB0.mono hBw)
  clear hb0 hr1 hs1 h h0 h1 hB0 hg hB1 HR
  go_enter Tryz.func41,Tryz.ntmps41
  go_wp2_with (first
   | (go_at_call 32;refine cL.mono ?_;rintro e w' ⟨rfl,rfl⟩))
  go_ret
  exact⟨rfl,HB.out,_,_,_,_,_,_,_,H0.out⟩
theorem Ztp.noText{K:Prop}{W:World}{F:Nat->Prop}{x n:Nat}{qQ orl:List M.Pk}{qK:Bool}(h:Ztp K W F x n qQ orl qK):Zbm F W:=by
 rcases h with ⟨_,D,_,d,s,k,b,qY,hv,sv,lv,h1,h2⟩|⟨_,d,s0,hv,sv,lv,D,h0,h1,h2⟩
 ·exact fun j hj=>h1.noText j ((h2 j).1 hj)
 ·intro j hj
  rcases(h2 j).1 hj with rfl|hj
  ·exact Zbm.one h1.sess (fun s e=>by cases e) (fun a n p e=>by cases e) (by decide) _ rfl
  ·exact h1.disk.noText (by rw[h1.held];exact h1.n1) (by rw[h1.seen];exact h1.n1) j hj
theorem Lw.around{K:Prop}{W W':World}{B wb x n:Nat}{F:Nat->Prop}{tv ov hv:Value}{qQ orl:List M.Pk}{qK:Bool}{qJ:List ByteArray}(h:Lw K W B wb x n F tv ov hv qQ orl qK qJ)(hc:Chg F W W'):
 (Zbc W' tv qQ/\Zjt W' tv qQ)/\(Zbc W' ov orl/\Zjt W' ov orl)/\W'.heap[wb]? = some (.cells (wC x n tv ov qK hv) 79 (0,0))/\W'.ownsRow B 9 1 hv qJ.length (qJ.map Value.string)/\Below B W W':=by
 have ht:=h.se.noText
 have hBW:B<=W.heap.size:=by have:=h.lt;have:=h.wB;omega
 refine⟨⟨h.tp.chg h.tt hc ht (fun p hp=>(h.tog.back p hp).few),h.tt.chg hc ht⟩,⟨h.op.chg h.ot hc ht (fun p hp=>(h.togo.back p hp).few),h.ot.chg hc ht⟩,?_,?_,?_⟩
 ·exact(hc.block _ h.lt (h.se.off h.blk (by decide))).trans h.blk
 ·refine hc.own h.own (fun g hg=>?_)
  by_cases hm:qJ.length=0
  ·rw[h.hz hm] at hg;cases hg
  ·obtain⟨g2,cap,cur,e,hg',_,hb'⟩:=Zc8 h.own (by omega)
   rw[hb'] at hg
   cases hg
   exact h.se.off hg' (by decide)
 ·exact⟨hc.os,hc.tape,hc.output,hc.size,fun j hj=>hc.block j (by omega) (fun e=>by have:=h.FB j e;omega)⟩
theorem Lw.beside{K:Prop}{W W':World}{B wb x n:Nat}{F:Nat->Prop}{tv ov hv:Value}{qQ orl:List M.Pk}{qK:Bool}{qJ:List ByteArray}(h:Lw K W B wb x n F tv ov hv qQ orl qK qJ)(hc:Chg F W W'){j:Nat}{c:Array Value}{t:TypeId}{f:Nat × Nat}(hj:W.heap[j]? = some (.cells c t f))(ht:¬ Ycg t):W'.heap[j]? = some (.cells c t f):=(hc.block _ (ges.1 hj).1 (h.se.off hj ht)).trans hj
theorem Zz4{W:World}{B wb x n:Nat}{tv ov hv:Value}{qK:Bool}{qJ:List ByteArray}(hb:W.heap[wb]? = some (.cells (wC x n tv ov qK hv) 79 (0,0)))(ho:W.ownsRow B 9 1 hv qJ.length (qJ.map Value.string))(hz:qJ.length=0->hv=.slice none 0 0)(o:Nat)(v:Value):(W.setCell ⟨wb,o,none⟩ v).ownsRow B 9 1 hv qJ.length (qJ.map Value.string):=by
 have hc:Chg (fun j=>j=wb) W (W.setCell ⟨wb,o,none⟩ v):=Chg.grown (Zax W wb o v) (fun i e _=>(Option.some.inj e).symm)
 refine hc.own ho (fun g hg e=>?_)
 by_cases hm:qJ.length=0
 ·rw[hz hm] at hg;cases hg
 ·obtain⟨g2,cap,cur,_,hg',_,hb'⟩:=Zc8 ho (by omega)
  rw[hb'] at hg
  cases hg
  exact Zfx hg' hb (by decide) e
theorem Zh9.from{K:Prop}{w w' W:World}{B wb x n:Nat}{qJ:List ByteArray}{e:Ending}(h:Zh9 K w' B wb x n qJ e W)(hb:Below B w w'):Zh9 K w B wb x n qJ e W:=⟨h.1,hb.trans h.2.1,h.2.2⟩
theorem Zt7(D:M.Dk):D.sync.left<=D.left:=by
 unfold M.Dk.sync
 split <;> (show (if 0<D.left then D.left-1 else D.left)<=D.left;split <;> omega)
theorem Z3d(D:M.Dk)(n:Nat)(x:List UInt8):(D.write n x).left<=D.left:=by
 unfold M.Dk.write
 split <;> (show (if 0<D.left then D.left-1 else D.left)<=D.left;split <;> omega)
theorem Z5x{D:M.Dk}{n qY:Nat}{t:List UInt8}{b:Int}(h:D.left<=b):(D.save n qY t).left<=b:=by
 have h1:=(Zof D n qY t (M.Zfv t.length)).2.1
 unfold M.Dk.save
 exact Int.le_trans (Zt7 _) (Int.le_trans (Z3d _ _ _) (Int.le_trans (Zt7 _) (Int.le_trans h1 h)))
def SeTo(R:Sum M.Fa (List M.Pk))(F:Nat->Prop)(x n:Nat)(D:M.Dk)(l:List M.Pk)(w w':World):Prop:=match R with
 | .inl _=>Below w.heap.size w w'
 | .inr all=>∃ F',Chg F w w'/\(∀ j,F' j->F j\/w.heap.size<=j)/\M.Tog all/\(M.Zbn all:Int)<=24*((n:Int)-8)/\((∃ D',(M.Zfl D->M.Zfl D')/\Live w' F' x n D' all)\/(¬ M.Zfl D/\Gone w' F' x n (fun m=>m=all\/m=l)))
theorem Z39{w:World}{x d s k b qY n:Nat}{hv sv lv:Value}{D:M.Dk}{l:List M.Pk}{F:Nat->Prop}(h:Zde w x d s k b qY n hv sv lv D l)(h3:∀ j,F j↔Zpr x d s k hv sv lv j)(R:Sum M.Fa (List M.Pk))(hR:∀ all,R=.inr all->M.Tog all/\(M.Zbn all:Int)<=24*((n:Int)-8)){e:Ending}{w':World}(hp:Znk R w x d s k qY n hv sv lv D e w'):e=.returned (faV (Zh1 R))/\SeTo R F x n D l w w':=by
 cases R with
 | inl f=>exact hp
 | inr all=>
  obtain⟨q1,q2⟩:=hR all rfl
  obtain⟨he,nb,lv',h1,h2,h3',h4,h5,h6,h7,h8⟩:=hp
  obtain⟨hf1,hf2⟩:=M.Zo7 q1.back q1.apart h.n1 h.n2 q2
  have hlt:=h.ready.lt
  have hcF:Chg F w w':=h7.weak (fun j _ e=>(h3 j).2 (.inr e))
  have hdf:∀ j,Zb1 d hv sv lv' j->Zb1 d hv sv lv j\/w.heap.size<=j:=by
   rintro j (e|e|e|e)
   ·exact .inl (.inl e)
   ·exact .inl (.inr (.inl e))
   ·exact .inl (.inr (.inr (.inl e)))
   ·rcases h8 j e with e|e
    ·exact .inl (.inr (.inr (.inr e)))
    ·exact .inr e
  refine⟨he,?_⟩
  rcases M.Yb5 h.rest (by have:=h.n1;omega) hf1 hf2 with r|r
  ·refine⟨Zpr x d s k hv sv lv',hcF,?_,q1,q2,.inl ⟨_,fun hs=>hs.save _ _ _,d,s,k,nb,1-qY,hv,sv,lv',⟨h1,h2,h3',h4,h6,h5,h.n1,h.n2,by omega,r,?_,q1,q2,?_⟩,fun j=>Iff.rfl⟩⟩
   ·rintro j (e|e|e|e)
    ·exact .inl ((h3 j).2 (.inl e))
    ·exact .inl ((h3 j).2 (.inr (.inl e)))
    ·exact .inl ((h3 j).2 (.inr (.inr (.inl e))))
    ·exact(hdf j e).imp (fun e=>(h3 j).2 (.inr (.inr (.inr e)))) id
   ·exact Z5x h.left
   ·rintro j (e|e|e|e)
    ·exact h.high j (.inl e)
    ·exact h.high j (.inr (.inl e))
    ·exact h.high j (.inr (.inr (.inl e)))
    ·rcases hdf j e with e|e
     ·exact h.high j (.inr (.inr (.inr e)))
     ·omega
  ·have hH:=Held.of q1 q2 h.n2
   have hH0:=Held.of h.tog h.room h.n2
   refine⟨Ztf x d hv sv lv',hcF,?_,q1,q2,.inr ⟨fun hs=>?_,d,.pointer (some ⟨s,0,none⟩),hv,sv,lv',D.save n (1-qY) (M.packed all),r.dead,⟨h1,h2,h6,h.n1,h.n2,fun p hp=>(r.size p hp).1,r.few,r.seen,Zw5 r,?_,fun sel=>?_⟩,fun j=>Iff.rfl⟩⟩
   ·rintro j (e|e)
    ·exact .inl ((h3 j).2 (.inl e))
    ·exact(hdf j e).imp (fun e=>(h3 j).2 (.inr (.inr (.inr e)))) id
   ·have:=(hs.save n (1-qY) (M.packed all)).1
    rw[r.dead] at this
    cases this
   ·rintro j (e|e)
    ·exact h.high j (.inl e)
    ·rcases hdf j e with e|e
     ·exact h.high j (.inr (.inr (.inr e)))
     ·omega
   ·obtain⟨a,t,⟨rfl,rfl⟩|⟨rfl,rfl⟩,hl⟩:=r.lies sel
    ·exact⟨_,l,.inr rfl,hH0,hl⟩
    ·exact⟨_,all,.inl rfl,hH,hl⟩
theorem Live.install{w:World}{F:Nat->Prop}{x n:Nat}{D:M.Dk}{l:List M.Pk}(h:Live w F x n D l)(xv:Value)(qX:List ByteArray)(hx:Zdh w xv qX)(hxn:qX.length<=10000)(hxs:∀ t∈qX,t.size<=8192):
 Calls Tryz.prog 21 #[.pointer (some ⟨x,0,none⟩),xv] w fun e w'=>e=.returned (faV (Zh1 (M.Zap l (qX.map fun t=>t.data.toList) (24*((n:Int)-8)))))/\SeTo (M.Zap l (qX.map fun t=>t.data.toList) (24*((n:Int)-8))) F x n D l w w':=by
 obtain⟨d,s,k,b,qY,hv,sv,lv,h1,h3⟩:=h
 refine(Zvd h1 xv qX hx hxn hxs).mono fun e w' hp=>Z39 h1 h3 _ (fun all e=>?_) hp
 obtain⟨_,_,_,_,_,q1,_,q2⟩:=M.Zi3 e h1.tog.back h1.tog.apart
 exact⟨q1,q2⟩
theorem Live.remove{w:World}{F:Nat->Prop}{x n:Nat}{D:M.Dk}{l:List M.Pk}(h:Live w F x n D l)(xv:Value)(qG:List ByteArray)(hx:Zdh w xv qG)(hxn:qG.length<=10000)(hxs:∀ t∈qG,t.size<=8192):
 Calls Tryz.prog 24 #[.pointer (some ⟨x,0,none⟩),xv] w fun e w'=>e=.returned (faV (Zh1 (M.Za6 l (qG.map fun t=>t.data.toList))))/\SeTo (M.Za6 l (qG.map fun t=>t.data.toList)) F x n D l w w':=by
 obtain⟨d,s,k,b,qY,hv,sv,lv,h1,h3⟩:=h
 refine(Zxw h1 xv qG hx hxn hxs).mono fun e w' hp=>Z39 h1 h3 _ (fun all e=>?_) hp
 obtain⟨q1,_,q2⟩:=M.Zl8 e h1.tog
 exact⟨q1,by have:=h1.room;omega⟩
theorem Zx1{W:World}{wb x n:Nat}{tv ov hv:Value}{qK:Bool}(a c:Nat)(aa ta:Option Addr)(tn tc:Nat)(ht:tv=.slice ta tn tc)(lb:Bool)(hw:W.heap[wb]? = some (.cells (wC x n tv ov qK hv) 79 (0,0)))
 (cL:∀ W1,W1=(W.setCell ⟨wb,3,none⟩ tv).setCell ⟨wb,2,none⟩ (.slice aa a c)->Calls Tryz.prog 32 #[.pointer (some ⟨x,0,none⟩)] W1 fun e w'=>e=.returned (.bool lb)/\W1=w'):
 Calls Tryz.prog 107 #[.pointer (some ⟨wb,0,none⟩),.slice aa a c] W fun e w'=>(∃ v,e=.returned v)/\w'=((W.setCell ⟨wb,3,none⟩ tv).setCell ⟨wb,2,none⟩ (.slice aa a c)).setCell ⟨wb,4,none⟩ (.bool lb):=by
 subst ht
 have c0:W.cell? ⟨wb,0,none⟩=some (.pointer (some ⟨x,0,none⟩)):=(cell_of_row W _ 0 _ _ (0,0) hw).trans rfl
 have c2:W.cell? ⟨wb,2,none⟩=some (.slice ta tn tc):=(cell_of_row W _ 2 _ _ (0,0) hw).trans rfl
 have c3:W.cell? ⟨wb,3,none⟩=some ov:=(cell_of_row W _ 3 _ _ (0,0) hw).trans rfl
 have c4:W.cell? ⟨wb,4,none⟩=some (.bool qK):=(cell_of_row W _ 4 _ _ (0,0) hw).trans rfl
 have df:∀ o,W.frozen? ⟨wb,o,none⟩=false:=fun o=>frozen_of_row W _ o _ _ hw
 clear hw
 go_enter Tryz.func107,Tryz.ntmps107
 go_wp2_with fail
 refine(cL _ rfl).mono ?_
 rintro e w1 ⟨rfl,e1⟩
 obtain rfl:=e1
 go_wp2
 go_end0
 exact⟨⟨_,rfl⟩,rfl⟩
theorem Zyx{W:World}{n:Nat}{tv xv:Value}{qQ:List M.Pk}{qJ:List ByteArray}(tp:Zbc W tv qQ)(tog:M.Tog qQ)(hl:qQ.length<=600)(hn:n<=256)(hx:Za8 W xv qJ)(hxn:qJ.length<=10000)(hxs:∀ t∈qJ,t.size<=8192):
 Calls Tryz.prog 105 #[tv,xv,.int .i64 n] W fun e w'=>∃ aa an ac,e=.returned (.tuple #[.slice aa an ac,faV (Zh1 (M.Zap qQ (qJ.map fun t=>t.data.toList) (24*((n:Int)-8))))])/\(∀ all,M.Zap qQ (qJ.map fun t=>t.data.toList) (24*((n:Int)-8))=.inr all->Zbc w' (.slice aa an ac) all/\Zjt w' (.slice aa an ac) all)/\Below W.heap.size W w':=by
 refine(Ztt tv xv qQ qJ n W tp hx hn (by omega) (by omega) (fun t ht=>Nat.le_trans (hxs t ht) (by decide)) (fun p hp=>Zbb.of (tog.back p hp))).mono ?_
 rintro e w' ⟨hB,hm⟩
 rw[show Znd n=24*((n:Int)-8) from rfl] at hm
 cases hR:M.Zap qQ (qJ.map fun t=>t.data.toList) (24*((n:Int)-8)) with
 | inl f=>
  rw[hR] at hm
  exact⟨none,0,0,hm,(fun all e=>by cases e),hB⟩
 | inr all=>
  rw[hR] at hm
  obtain⟨av,rfl,h1,h2⟩:=hm
  obtain⟨a,c,rfl⟩:=h1.form
  exact⟨a,_,c,rfl,(fun all' e=>by cases e;exact⟨h1,h2⟩),hB⟩
theorem Zkr{W:World}{B:Nat}{hv:Value}{qJ:List ByteArray}(h:W.ownsRow B 9 1 hv qJ.length (qJ.map Value.string)):Za8 W hv qJ:=by
 have h1:W.ownsRow B 9 1 hv (qJ.map fun t=>t.data.toList).length ((qJ.map fun t=>t.data.toList).map Zbe):=by
  rw[List.length_map,List.map_map]
  exact h
 have h2:=Zty h1
 rwa [List.map_map,show ((fun t:List UInt8=>(⟨t.toArray⟩:ByteArray)) ∘ fun t:ByteArray=>t.data.toList)=id from rfl,List.map_id] at h2
theorem Zgo{w:World}{j:Nat}{t:TypeId}{a b c:Int}{N:ByteArray}(h:w.heap[j]? = some (.cells #[.int .i64 a,.int .i64 b,.int .i64 c,.string N] t (0,0)))(f:M.Fa):
 ((((w.setCell ⟨j,0,none⟩ (.int .i64 f.kind)).setCell ⟨j,1,none⟩ (.int .i64 f.which)).setCell ⟨j,2,none⟩ (.int .i64 f.line)).setCell ⟨j,3,none⟩ (.string ⟨f.name.toArray⟩)).heap[j]? = some (.cells (fC f) t (0,0))/\
 Chg (fun i=>i=j) w ((((w.setCell ⟨j,0,none⟩ (.int .i64 f.kind)).setCell ⟨j,1,none⟩ (.int .i64 f.which)).setCell ⟨j,2,none⟩ (.int .i64 f.line)).setCell ⟨j,3,none⟩ (.string ⟨f.name.toArray⟩)):=by
 have h1:=heap_setCell_same w j 0 _ _ (.int .i64 f.kind) h
 have h2:=heap_setCell_same _ j 1 _ _ (.int .i64 f.which) h1
 have h3:=heap_setCell_same _ j 2 _ _ (.int .i64 f.line) h2
 have h4:=heap_setCell_same _ j 3 _ _ (.string ⟨f.name.toArray⟩) h3
 refine⟨h4,?_⟩
 have g:∀ (X:World) (o:Nat) (v:Value),Chg (fun i=>i=j) X (X.setCell ⟨j,o,none⟩ v):=fun X o v=>Chg.grown (Zax X j o v) (fun i e _=>(Option.some.inj e).symm)
 exact(((g _ _ _).then (g _ _ _) (fun _ _ e=>e)).then (g _ _ _) (fun _ _ e=>e)).then (g _ _ _) (fun _ _ e=>e)
theorem Zec{w:World}{b:Nat}{t:TypeId}{f:M.Fa}(h:w.heap[b]? = some (.cells (fC f) t (0,0))):w.cell? ⟨b,0,none⟩=some (.int .i64 f.kind)/\w.cell? ⟨b,1,none⟩=some (.int .i64 f.which)/\w.cell? ⟨b,2,none⟩=some (.int .i64 f.line)/\w.cell? ⟨b,3,none⟩=some (.string ⟨f.name.toArray⟩)/\∀ o,w.frozen? ⟨b,o,none⟩=false:=
 ⟨(cell_of_row w _ 0 _ _ (0,0) h).trans rfl,(cell_of_row w _ 1 _ _ (0,0) h).trans rfl,(cell_of_row w _ 2 _ _ (0,0) h).trans rfl,(cell_of_row w _ 3 _ _ (0,0) h).trans rfl,fun o=>frozen_of_row w _ o _ _ h⟩
def SeB(K:Prop)(W:World)(F:Nat->Prop)(x n:Nat)(l m:List M.Pk)(lb:Bool):Prop:=(lb=false/\∃ D,(K->M.Zfl D)/\Live W F x n D l)\/(lb=true/\¬ K/\Gone W F x n (fun q=>q=l\/(lb=true/\q=m)))
theorem SeB.at{K:Prop}{W:World}{F:Nat->Prop}{x n:Nat}{l m:List M.Pk}{lb:Bool}(h:SeB K W F x n l m lb):Ztp K W F x n l m lb:=by
 rcases h with h|⟨_,h⟩
 ·exact .inl h
 ·exact .inr h
theorem SeB.lost{K:Prop}{W:World}{F:Nat->Prop}{x n:Nat}{l m:List M.Pk}{lb:Bool}(h:SeB K W F x n l m lb):Calls Tryz.prog 32 #[.pointer (some ⟨x,0,none⟩)] W fun e w'=>e=.returned (.bool lb)/\W=w':=by
 rcases h with ⟨rfl,D,_,h⟩|⟨rfl,_,h⟩
 ·exact h.lost
 ·exact h.lost
theorem SeB.chg{K:Prop}{W W':World}{F G:Nat->Prop}{x n:Nat}{l m:List M.Pk}{lb:Bool}(h:SeB K W F x n l m lb)(hc:Chg G W W')(ht:Zbm G W)(hu:Ztd G W)(hh:∀ j,G j->1<j)(hd:∀ j,F j->¬ G j):SeB K W' F x n l m lb:=by
 rcases h with ⟨h0,D,hk,h⟩|⟨h0,hk,h⟩
 ·exact .inl ⟨h0,D,hk,h.chg hc ht hu hh hd⟩
 ·exact .inr ⟨h0,hk,h.chg hc hu hh hd⟩
structure Mid (K:Prop) (W:World) (B wb x n:Nat) (F:Nat->Prop) (av tv ov hv xv:Value) (all qQ:List M.Pk) (qK lb:Bool) (qJ:List ByteArray):Prop where
 sb:SeB K W F x n all qQ lb
 lr:Lr K W B x n F av tv all qQ lb
 blk:W.heap[wb]? = some (.cells (wC x n tv ov qK hv) 79 (0,0))
 own:W.ownsRow B 9 1 hv qJ.length (qJ.map Value.string)
 hz:qJ.length=0->hv=.slice none 0 0
 wB:B<=wb
 hi:1<B
 xs:Za8 W xv qJ
theorem Live.noStr{W:World}{F:Nat->Prop}{x n:Nat}{D:M.Dk}{l:List M.Pk}(h:Live W F x n D l):Yav F W:=by
 obtain⟨d,s,k,b,qY,hv,sv,lv,h1,h2⟩:=h
 exact fun j hj=>h1.noStr j ((h2 j).1 hj)
theorem Lw.turned{K:Prop}{w W3 w4:World}{B wb x n:Nat}{F:Nat->Prop}{tv ov hv xv av:Value}{qQ orl all:List M.Pk}{qK:Bool}{qJ:List ByteArray}{D:M.Dk}(h:Lw K w B wb x n F tv ov hv qQ orl qK qJ)(hl:Live w F x n D qQ)(hk:K->M.Zfl D)(hx:Za8 w xv qJ)(hB3:Below w.heap.size w W3)(hp:Zbc W3 av all)(ht:Zjt W3 av all)(hs:SeTo (.inr all) F x n D qQ W3 w4):
 (∃ F' lb,Mid K w4 B wb x n F' av tv ov hv xv all qQ qK lb qJ)/\Below B w w4/\∀ (j:Nat) (c:Array Value) (t:TypeId) (f:Nat × Nat),W3.heap[j]? = some (.cells c t f)->¬ Ycg t->w4.heap[j]? = some (.cells c t f):=by
 obtain⟨F',hc,hF,q1,q2,hse⟩:=hs
 have h3:=h.below hB3
 have hBw:B<=w.heap.size:=by have:=h.lt;have:=h.wB;omega
 obtain⟨⟨a1,a2⟩,_,a5,a6,a7⟩:=h3.around hc
 have hnt:=h3.se.noText
 have hxs:=Zso (hx.below hB3) hc (hl.below hB3).noStr
 have hFB:∀ j,F' j->B<=j:=fun j hj=>by
  rcases hF j hj with e|e
  ·exact h.FB j e
  ·have:=hB3.size;omega
 refine⟨?_,(hB3.mono hBw).trans a7,fun j c t f hj hty=>h3.beside hc hj hty⟩
 have hpa:=hp.chg ht hc hnt (fun p hp=>(q1.back p hp).few)
 have hta:=ht.chg hc hnt
 have mk:∀ lb,SeB K w4 F' x n all qQ lb->Mid K w4 B wb x n F' av tv ov hv xv all qQ qK lb qJ:=fun lb hb=>⟨hb,⟨hb.at,hpa,hta,a1,a2,q1,q2,h.tog,h.room,h.n1,h.n2,hFB⟩,a5,a6,h.hz,h.wB,h.hi,hxs⟩
 rcases hse with ⟨D',hs1,hL⟩|⟨hs1,hG⟩
 ·exact⟨F',false,mk _ (.inl ⟨rfl,D',fun k=>hs1 (hk k),hL⟩)⟩
 ·refine⟨F',true,mk _ (.inr ⟨rfl,fun k=>hs1 (hk k),?_⟩)⟩
  simpa using hG
theorem Mid.beside{K:Prop}{W W':World}{B wb x n j:Nat}{F:Nat->Prop}{av tv ov hv xv:Value}{all qQ:List M.Pk}{qK lb:Bool}{qJ:List ByteArray}{a b c:Int}{N:ByteArray}(h:Mid K W B wb x n F av tv ov hv xv all qQ qK lb qJ)(hj:W.heap[j]? = some (.cells #[.int .i64 a,.int .i64 b,.int .i64 c,.string N] 23 (0,0)))(hB:B<=j)(hc:Chg (fun i=>i=j) W W'):Mid K W' B wb x n F av tv ov hv xv all qQ qK lb qJ:=by
 have h0:W.cell? ⟨j,0,none⟩=some (.int .i64 a):=(cell_of_row W _ 0 _ _ (0,0) hj).trans rfl
 have hnt:Zbm (fun i=>i=j) W:=Zbm.one hj (fun s e=>by cases e) (fun a n p e=>by cases e)
 have hu:Ztd (fun i=>i=j) W:=Zjn hj (by decide)
 have hh:∀ i,i=j->1<i:=fun i e=>by have:=h.hi;omega
 have hd:∀ i,F i->¬ i=j:=fun i hi e=>by
  subst e
  exact h.lr.se.off hj (by decide) hi
 refine⟨h.sb.chg hc hnt hu hh hd,h.lr.chg hc hnt hu hh hd,(hc.block _ (ges.1 h.blk).1 (Zfx h.blk hj (by decide))).trans h.blk,?_,h.hz,h.wB,h.hi,Zso h.xs hc (fun k e s e2=>?_)⟩
 ·refine hc.own h.own (fun g hg e=>?_)
  by_cases hm:qJ.length=0
  ·rw[h.hz hm] at hg;cases hg
  ·obtain⟨g2,cap,cur,_,hg',_,hb'⟩:=Zc8 h.own (by omega)
   rw[hb'] at hg
   cases hg
   exact Zfx hg' hj (by decide) e
 ·subst e
  rw[h0] at e2
  cases e2
theorem SeB.wb{K:Prop}{W:World}{F:Nat->Prop}{wb x n:Nat}{l m:List M.Pk}{lb:Bool}{c:Array Value}(h:SeB K W F x n l m lb)(hb:W.heap[wb]? = some (.cells c 79 (0,0)))(h0:c[0]? = some (.pointer (some ⟨x,0,none⟩)))(hhi:1<wb)(o:Nat)(v:Value):SeB K (W.setCell ⟨wb,o,none⟩ v) F x n l m lb:=by
 have hc:Chg (fun j=>j=wb) W (W.setCell ⟨wb,o,none⟩ v):=Chg.grown (Zax W wb o v) (fun i e _=>(Option.some.inj e).symm)
 refine h.chg hc (Zbm.one hb (fun s e=>?_) (fun a m p e=>?_)) (Zjn hb (by decide)) (fun j e=>by rw[e];exact hhi) (fun j hj e=>?_)
 ·rw[h0] at e;cases e
 ·rw[h0] at e;cases e
 ·subst e
  exact h.at.off hb (by decide) hj
theorem Yan{W:World}{wb x n:Nat}{tv ov hv xv:Value}{qK:Bool}{qJ:List ByteArray}(hb:W.heap[wb]? = some (.cells (wC x n tv ov qK hv) 79 (0,0)))(h:Za8 W xv qJ)(o:Nat)(v:Value):Za8 (W.setCell ⟨wb,o,none⟩ v) xv qJ:=by
 have hc:Chg (fun j=>j=wb) W (W.setCell ⟨wb,o,none⟩ v):=Chg.grown (Zax W wb o v) (fun i e _=>(Option.some.inj e).symm)
 refine Zso h hc (fun k e s e2=>?_)
 subst e
 have e3:W.cell? ⟨k,0,none⟩=some (.pointer (some ⟨x,0,none⟩)):=(cell_of_row W _ 0 _ _ (0,0) hb).trans rfl
 rw[e3] at e2
 cases e2
theorem Mid.set{K:Prop}{W:World}{B wb x n:Nat}{F:Nat->Prop}{av tv ov hv xv tv' ov':Value}{all qQ:List M.Pk}{qK lb maybe':Bool}{qJ:List ByteArray}{o:Nat}{v:Value}(h:SeB K W F x n all qQ lb/\Lr K W B x n F av tv all qQ lb/\W.heap[wb]? = some (.cells (wC x n tv' ov qK hv) 79 (0,0))/\W.ownsRow B 9 1 hv qJ.length (qJ.map Value.string)/\Za8 W xv qJ)(hz:qJ.length=0->hv=.slice none 0 0)(hhi:1<wb){tv2:Value}(he:(W.setCell ⟨wb,o,none⟩ v).heap[wb]? = some (.cells (wC x n tv2 ov' maybe' hv) 79 (0,0))):
 SeB K (W.setCell ⟨wb,o,none⟩ v) F x n all qQ lb/\Lr K (W.setCell ⟨wb,o,none⟩ v) B x n F av tv all qQ lb/\(W.setCell ⟨wb,o,none⟩ v).heap[wb]? = some (.cells (wC x n tv2 ov' maybe' hv) 79 (0,0))/\(W.setCell ⟨wb,o,none⟩ v).ownsRow B 9 1 hv qJ.length (qJ.map Value.string)/\Za8 (W.setCell ⟨wb,o,none⟩ v) xv qJ:=by
 obtain⟨h1,h2,h3,h4,h5⟩:=h
 exact⟨h1.wb h3 rfl hhi o v,h2.wb h3 rfl hhi o v,he,Zz4 h3 h4 hz o v,Yan h3 h5 o v⟩
theorem Mid.becomes{K:Prop}{W:World}{B wb x n:Nat}{F:Nat->Prop}{ov hv xv:Value}{all qQ:List M.Pk}{qK lb:Bool}{qJ:List ByteArray}{a c tn tc:Nat}{aa ta:Option Addr}(h:Mid K W B wb x n F (.slice aa a c) (.slice ta tn tc) ov hv xv all qQ qK lb qJ):
 Calls Tryz.prog 107 #[.pointer (some ⟨wb,0,none⟩),.slice aa a c] W fun e w'=>(∃ v,e=.returned v)/\Lw K w' B wb x n F (.slice aa a c) (.slice ta tn tc) hv all qQ lb qJ/\SeB K w' F x n all qQ lb/\Za8 w' xv qJ/\Below B W w'/\∀ j,j≠wb->w'.heap[j]? = W.heap[j]?:=by
 have hhi:1<wb:=by have:=h.hi;have:=h.wB;omega
 have g1:=Mid.set (o:=3) (v:=.slice ta tn tc) ⟨h.sb,h.lr,h.blk,h.own,h.xs⟩ h.hz hhi (maybe':=qK) (ov':=.slice ta tn tc) (tv2:=.slice ta tn tc) (heap_setCell_same W _ 3 _ _ _ h.blk)
 have g2:=Mid.set (o:=2) (v:=.slice aa a c) g1 h.hz hhi (maybe':=qK) (ov':=.slice ta tn tc) (tv2:=.slice aa a c) (heap_setCell_same _ _ 2 _ _ _ g1.2.2.1)
 have g3:=Mid.set (o:=4) (v:=.bool lb) g2 h.hz hhi (maybe':=lb) (ov':=.slice ta tn tc) (tv2:=.slice aa a c) (heap_setCell_same _ _ 4 _ _ _ g2.2.2.1)
 refine(Zx1 a c aa ta tn tc rfl lb h.blk (fun W1 e=>?_)).mono ?_
 ·rw[e]
  exact g2.1.lost
 ·rintro e w' ⟨he,rfl⟩
  obtain⟨k1,k2,k3,k4,k5⟩:=g3
  refine⟨he,⟨k2,k3,k4,h.hz,h.wB,h.hi⟩,k1,k5,(((Below.refl _ W).setCell h.wB _).setCell h.wB _).setCell h.wB _,fun j hj=>?_⟩
  rw[Below.heap_setCell _ _ _ _ hj,Below.heap_setCell _ _ _ _ hj,Below.heap_setCell _ _ _ _ hj]
end Go.Proofs.YtgnfknjopafngaaGreatDoor
