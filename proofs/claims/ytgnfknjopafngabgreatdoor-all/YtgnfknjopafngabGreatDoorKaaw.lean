import Derived.Test.YtgnfknjopafngabGreatDoorKaav
import Derived.Deep.Strs
import Derived.SizedLaws
import Derived.Carry
set_option maxRecDepth 100000
set_option maxHeartbeats 16000000
namespace Go.Proofs.YtgnfknjopafngabGreatDoor
open Go.RowKit Go.Maps
theorem Live.fill{w:World}{F:Nat->Prop}{x n:Nat}{D:M.Dk}{l:List M.Pk}(h:Live w F x n D l):Calls Tryz.prog 23 #[.pointer (some ⟨x,0,none⟩)] w fun e w'=>∃ q,floatBits .quo .f64 (floatOfInt .f64 (M.Zbn l:Int)) (floatOfInt .f64 (24*((n:Int)-8)))=some q/\e=.returned (.float .f64 q)/\Below w.heap.size w w':=by
 obtain⟨d,s,k,b,qY,hv,sv,lv,h1,h3⟩:=h
 obtain⟨z1,z2⟩:=h1.size
 have n1:=h1.n1
 have hS:Zh3 w d n:=by
  have:=h1.disk.secsOf (by rw[h1.secs.1];omega)
  rwa [h1.secs.1] at this
 exact Z6w x s k b d qY n l w h1.sess h1.store h1.known hS h1.n1 h1.n2 h1.set h1.reads (by omega)
theorem Z1v{K:Prop}{w:World}{B wb x n:Nat}{F:Nat->Prop}{tv ov hv:Value}{qQ orl:List M.Pk}{qK:Bool}{qJ:List ByteArray}(h:Lw K w B wb x n F tv ov hv qQ orl qK qJ)(A B':Int)(S:ByteArray)(hn:qJ.length<=1000000):
 Calls Tryz.prog 29 #[.pointer (some ⟨wb,0,none⟩),.agg #[.int .i64 8,.int .i64 A,.int .i64 B',.string S]] w (Zh9 K w B wb x n qJ):=by
 generalize hA:w.alloc (.cells #[.int .i64 8,.int .i64 A,.int .i64 B',.string S] 80)=A0
 have hB0:Below w.heap.size w A0:=by rw[<-hA];exact(Below.refl _ w).alloc ler _
 have hb0:A0.heap[w.heap.size]? = some (.cells #[.int .i64 8,.int .i64 A,.int .i64 B',.string S] 80 (0,0)):=by rw[<-hA];exact heap_alloc_new w _
 have o0:A0.cell? ⟨w.heap.size,0,none⟩=some (.int .i64 8):=(cell_of_row A0 _ 0 _ _ (0,0) hb0).trans rfl
 have h0:=h.below hB0
 have hBw:B<=w.heap.size:=by have:=h.lt;have:=h.wB;omega
 obtain⟨c0,-,-,-,-,c5,-⟩:=h0.cells
 obtain⟨v1,w1,hr1,hs1,hB1⟩:=Zep 41 B hv qJ h0.own (by omega)
 obtain⟨ah,ch,eh⟩:=Zac h0.own
 subst eh
 obtain⟨a1,c1,e1⟩:=hs1.form
 subst e1
 have HR:=hid hr1
 have o1:w1.cell? ⟨w.heap.size,0,none⟩=some (.int .i64 8):=(hB1.cell (p:=⟨w.heap.size,0,none⟩) (World.block_lt_of_cell? _ _ o0)).trans o0
 have h1:=h0.below hB1
 have hB2:Below w.heap.size w w1:=bt hB0 hB1
 rcases h0.se with ⟨hmb,D,hkD,hlv⟩|⟨hnK,hg⟩
 ·have cL:=hlv.lost
  obtain⟨z1,z2⟩:=Zhl h1.tog h1.room h1.n2
  obtain⟨-,d1,d2,-,-,-,-⟩:=h1.cells
  have cZ:=Zze tv qQ w1 h1.tp (by omega) (fun p hp=>Zbb.of (h1.tog.back p hp))
  have cM:=fun wx=>Zy5 n wx h1.n2
  have hlv1:=hlv.below hB1
  have n1:=h1.n1
  have n2:=h1.n2
  obtain⟨q,hq,hqq,-⟩:=Zuz (M.Zbn qQ) (24*(n-8)) (by omega) (by omega) (by omega)
  have hr:((24*(n-8):Nat):Int)=24*((n:Int)-8):=by omega
  rw[hr] at hq
  have cF:=fun wx (hb:Below w1.heap.size w1 wx)=>((hlv1.below hb).fill).mono (fun e w' (hp:∃ q,_/\_/\_)=>(by
   obtain⟨q',g1,g2,g3⟩:=hp
   rw[hq] at g1
   cases g1
   exact⟨g2,g3⟩:e=.returned (.float .f64 q)/\Below wx.heap.size wx w'))
  have H1:Hid (∀ W,Below w1.heap.size w1 W->Lw K W B wb x n F tv ov (.slice ah qJ.length ch) qQ orl qK qJ/\Below B w W):=fun W hb=>⟨h1.below hb,(hB2.mono hBw).trans (hb.mono (Nat.le_trans hBw hB2.size))⟩
  obtain⟨ta,tc,et⟩:=h1.tp.form
  subst et
  have hdv:=fun wx=>run_float_arith (P:=Tryz.prog) wx .quo 66 .f64 _ _ q hq
  have hoo:(FloatKind.f64.format.order q q == some Ordering.eq)=true:=by
   have:FloatKind.f64.format.order q q=some Ordering.eq:=hqq
   rw[this];rfl
  unfold Znd at cM
  generalize M.Zbn qQ=Z at cZ hdv z2
  generalize hRm:(24*((n:Int)-8))=Rm at cM hdv
  have hRb:Rm<=100000/\0<=Rm:=by omega
  clear hb0 hr1 hs1 h h0 h1 hB0 hlv hlv1 hq hr hqq hRm
  go_enter Tryz.func29,Tryz.ntmps29
  go_wp2_with (first
   | (go_at_call 45;refine cL.mono ?_;rintro e w' ⟨rfl,rfl⟩)
   | (at_builtin;refine Zbr rfl (.const (.slice none 0 0)) (.tmp 66) 41 rfl _ _ _ _ rfl rfl HR.out ?_))
  refine cZ.mono ?_
  rintro e w2 ⟨rfl,hB3⟩
  have e1:w2.cell? ⟨wb,1,none⟩=some (.int .i64 n):=(H1.out w2 hB3).1.cells.2.1
  clear cZ cL
  go_wp2_with fail
  refine(cM _).mono ?_
  rintro e w3 ⟨rfl,e3⟩
  obtain rfl:=e3
  have e0:w3.cell? ⟨wb,0,none⟩=some (.pointer (some ⟨x,0,none⟩)):=(H1.out w3 hB3).1.cells.1
  clear cM
  go_wp2_with fail
  refine(cF _ hB3).mono ?_
  rintro e w4 ⟨rfl,hB4⟩
  have HP:=H1.out w4 (bt hB3 hB4)
  replace HP:Hid _:=HP
  clear cF
  go_wp2
  go_ret
  exact⟨rfl,HP.out.2,_,_,_,_,_,_,_,HP.out.1⟩
 ·have cL:=hg.lost
  have H0:=hid h0
  have HB:=hid (hB0.mono hBw)
  clear hb0 hr1 hs1 h h0 h1 hB0 hg hB1 HR
  go_enter Tryz.func29,Tryz.ntmps29
  go_wp2_with (first
   | (go_at_call 45;refine cL.mono ?_;rintro e w' ⟨rfl,rfl⟩))
  go_ret
  exact⟨rfl,HB.out,_,_,_,_,_,_,_,H0.out⟩
theorem Live.plan{w:World}{F:Nat->Prop}{x n:Nat}{D:M.Dk}{l:List M.Pk}(h:Live w F x n D l)(xv:Value)(qX:List ByteArray)(hx:Zdh w xv qX)(hxn:qX.length<=10000)(hxs:∀ t∈qX,t.size<=8192):
 Calls Tryz.prog 12 #[.pointer (some ⟨x,0,none⟩),xv] w (Zp3 (M.Zar l (qX.map fun t=>t.data.toList)) w):=by
 obtain⟨d,s,k,b,qY,hv,sv,lv,h1,h3⟩:=h
 obtain⟨z1,z2⟩:=h1.size
 exact Z4c x d s k b l xv qX w h1.ready h1.sess h1.store h1.set hx hxn hxs (by omega) h1.reads
theorem Z29{K:Prop}{w:World}{B wb x n:Nat}{F:Nat->Prop}{tv ov hv:Value}{qQ orl:List M.Pk}{qK:Bool}{qJ:List ByteArray}(h:Lw K w B wb x n F tv ov hv qQ orl qK qJ)(A B':Int)(S:ByteArray)(hn:qJ.length<=10000)(hs:∀ t∈qJ,t.size<=8192):
 Calls Tryz.prog 29 #[.pointer (some ⟨wb,0,none⟩),.agg #[.int .i64 5,.int .i64 A,.int .i64 B',.string S]] w (Zh9 K w B wb x n qJ):=by
 generalize hA:w.alloc (.cells #[.int .i64 5,.int .i64 A,.int .i64 B',.string S] 80)=A0
 have hB0:Below w.heap.size w A0:=by rw[<-hA];exact(Below.refl _ w).alloc ler _
 have hb0:A0.heap[w.heap.size]? = some (.cells #[.int .i64 5,.int .i64 A,.int .i64 B',.string S] 80 (0,0)):=by rw[<-hA];exact heap_alloc_new w _
 have o0:A0.cell? ⟨w.heap.size,0,none⟩=some (.int .i64 5):=(cell_of_row A0 _ 0 _ _ (0,0) hb0).trans rfl
 have h0:=h.below hB0
 have hBw:B<=w.heap.size:=by have:=h.lt;have:=h.wB;omega
 obtain⟨c0,-,-,-,-,c5,-⟩:=h0.cells
 obtain⟨v1,w1,hr1,hs1,hB1⟩:=Zep 41 B hv qJ h0.own (by omega)
 obtain⟨ah,ch,eh⟩:=Zac h0.own
 subst eh
 obtain⟨a1,c1,e1⟩:=hs1.form
 subst e1
 have HR:=hid hr1
 have o1:w1.cell? ⟨w.heap.size,0,none⟩=some (.int .i64 5):=(hB1.cell (p:=⟨w.heap.size,0,none⟩) (World.block_lt_of_cell? _ _ o0)).trans o0
 have h1:=h0.below hB1
 have hB2:Below w.heap.size w w1:=bt hB0 hB1
 rcases h0.se with ⟨hmb,D,hkD,hlv⟩|⟨hnK,hg⟩
 ·have cL:=hlv.lost
  obtain⟨z1,z2⟩:=Zhl h1.tog h1.room h1.n2
  obtain⟨ta,tc,et⟩:=h1.tp.form
  subst et
  obtain⟨-,-,d2,-,-,-,-⟩:=h1.cells
  have hlv1:=hlv.below hB1
  have HS1:=hid hs1
  have HS:=hid hs
  have H1:Hid (∀ W,Below w1.heap.size w1 W->Lw K W B wb x n F (.slice ta qQ.length tc) ov (.slice ah qJ.length ch) qQ orl qK qJ/\Below B w W):=fun W hb=>⟨h1.below hb,(hB2.mono hBw).trans (hb.mono (Nat.le_trans hBw hB2.size))⟩
  have cP:=Zor (.slice ta qQ.length tc) (.slice a1 qJ.length c1) qQ qJ w1 h1.tp hs1 (by omega) (by omega) (fun t ht=>Nat.le_trans (hs t ht) (by omega)) (fun p hp=>(Zbb.of (h1.tog.back p hp)).smallQ)
  obtain⟨qG,fk,fw,fl,fn,g1,g2,g3⟩:=Z6x qQ qJ (fun p hp=>Zbb.of (h1.tog.back p hp)) h1.tog.apart
  have cX:∀ wx,Below w1.heap.size w1 wx->Calls Tryz.prog 12 #[.pointer (some ⟨x,0,none⟩),.slice a1 qJ.length c1] wx fun e w'=>∃ ao co,e=.returned (.tuple #[.slice ao qG.length co,.agg #[.int .i64 fk,.int .i64 fw,.int .i64 fl,.string fn]])/\Za8 w' (.slice ao qG.length co) qG/\Below wx.heap.size wx w':=fun wx hb=>((hlv1.below hb).plan _ qJ (HS1.out.below hb).txts hn HS.out).mono (g2 wx)
  have cP':Calls Tryz.prog 48 #[.slice ta qQ.length tc,.slice a1 qJ.length c1] w1 fun e w'=>∃ a n c ao co,e=.returned (.tuple #[.slice a n c,.slice ao qG.length co,.agg #[.int .i64 fk,.int .i64 fw,.int .i64 fl,.string fn]])/\Za8 w' (.slice ao qG.length co) qG/\Below w1.heap.size w1 w':=cP.mono (g1 w1)
  have hnl:qG.length<=1000000:=by omega
  clear hb0 hr1 hs1 h h0 h1 hB0 hlv hlv1 hs cP g1 g2
  go_enter Tryz.func29,Tryz.ntmps29
  go_wp2_with (first
   | (go_at_call 45;refine cL.mono ?_;rintro e w' ⟨rfl,rfl⟩)
   | (at_builtin;refine Zbr rfl (.const (.slice none 0 0)) (.tmp 66) 41 rfl _ _ _ _ rfl rfl HR.out ?_))
  refine cP'.mono ?_
  rintro e w2 ⟨pa,pn,pc,po,pco,rfl,hw2,hB2'⟩
  clear cP' cL c0 c5 o0 d2 o1
  generalize hA2:w2.alloc (.cells #[.int .i64 fk,.int .i64 fw,.int .i64 fl,.string fn] 118)=A2
  have hBA2:Below w2.heap.size w2 A2:=by rw[<-hA2];exact(Below.refl _ w2).alloc ler _
  have hf2:A2.heap[w2.heap.size]? = some (.cells #[.int .i64 fk,.int .i64 fw,.int .i64 fl,.string fn] 118 (0,0)):=by rw[<-hA2];exact heap_alloc_new w2 _
  have hl2:=(ges.1 hf2).1
  have hB12:Below w1.heap.size w1 A2:=bt hB2' hBA2
  have c0:A2.cell? ⟨wb,0,none⟩=some (.pointer (some ⟨x,0,none⟩)):=(H1.out A2 hB12).1.cells.1
  have HF2:=hid hf2
  have HW2:=hid hw2
  clear hw2 hf2 HR
  go_wp2_with fail
  refine(cX _ hB12).mono ?_
  rintro e w3 ⟨qo,qco,rfl,hw3,hB3⟩
  clear cX
  generalize hA3:w3.alloc (.cells #[.int .i64 fk,.int .i64 fw,.int .i64 fl,.string fn] 33)=A3
  have hBA3:Below w3.heap.size w3 A3:=by rw[<-hA3];exact(Below.refl _ w3).alloc ler _
  have hf3:A3.heap[w3.heap.size]? = some (.cells #[.int .i64 fk,.int .i64 fw,.int .i64 fl,.string fn] 33 (0,0)):=by rw[<-hA3];exact heap_alloc_new w3 _
  have cS:=Zwb (.slice qo qG.length qco) (.slice po qG.length pco) qG A3 (hw3.below hBA3) (((HW2.out.below hBA2).below hB3).below hBA3) hnl
  have HF3:Hid (A3.heap[w3.heap.size]? = some (.cells #[.int .i64 fk,.int .i64 fw,.int .i64 fl,.string fn] 33 (0,0))/\A3.heap[w2.heap.size]? = some (.cells #[.int .i64 fk,.int .i64 fw,.int .i64 fl,.string fn] 118 (0,0))):=
   ⟨hf3,(hBA3.block _ (Nat.lt_of_lt_of_le hl2 hB3.size)).trans ((hB3.block _ hl2).trans HF2.out)⟩
  have hB13:Below w1.heap.size w1 A3:=bt (bt hB12 hB3) hBA3
  have hl3:=(ges.1 hf3).1
  have hl4:=(ges.1 HF3.out.2).1
  clear hw3 hf3 c0
  go_wp2_with fail
  refine cS.mono ?_
  rintro e w4 ⟨rfl,hB4⟩
  clear cS
  have i4:w4.heap[w3.heap.size]? = some (.cells #[.int .i64 fk,.int .i64 fw,.int .i64 fl,.string fn] 33 (0,0)):=(hB4.block _ hl3).trans HF3.out.1
  have j4:w4.heap[w2.heap.size]? = some (.cells #[.int .i64 fk,.int .i64 fw,.int .i64 fl,.string fn] 118 (0,0)):=(hB4.block _ hl4).trans HF3.out.2
  have i40:w4.cell? ⟨w3.heap.size,0,none⟩=some (.int .i64 fk):=(cell_of_row w4 _ 0 _ _ (0,0) i4).trans rfl
  have i41:w4.cell? ⟨w3.heap.size,1,none⟩=some (.int .i64 fw):=(cell_of_row w4 _ 1 _ _ (0,0) i4).trans rfl
  have i42:w4.cell? ⟨w3.heap.size,2,none⟩=some (.int .i64 fl):=(cell_of_row w4 _ 2 _ _ (0,0) i4).trans rfl
  have i43:w4.cell? ⟨w3.heap.size,3,none⟩=some (.string fn):=(cell_of_row w4 _ 3 _ _ (0,0) i4).trans rfl
  have j40:w4.cell? ⟨w2.heap.size,0,none⟩=some (.int .i64 fk):=(cell_of_row w4 _ 0 _ _ (0,0) j4).trans rfl
  have j41:w4.cell? ⟨w2.heap.size,1,none⟩=some (.int .i64 fw):=(cell_of_row w4 _ 1 _ _ (0,0) j4).trans rfl
  have j42:w4.cell? ⟨w2.heap.size,2,none⟩=some (.int .i64 fl):=(cell_of_row w4 _ 2 _ _ (0,0) j4).trans rfl
  have j43:w4.cell? ⟨w2.heap.size,3,none⟩=some (.string fn):=(cell_of_row w4 _ 3 _ _ (0,0) j4).trans rfl
  have cF:=Zfd fk fw fl fn w4
  have hB14:Below w1.heap.size w1 w4:=bt hB13 hB4
  clear i4 j4
  go_wp2_with fail
  refine cF.mono ?_
  rintro e w5 ⟨rfl,hB5⟩
  have HP:Hid _:=H1.out w5 (bt hB14 hB5)
  clear cF
  go_wp2
  go_ret
  exact⟨rfl,HP.out.2,_,_,_,_,_,_,_,HP.out.1⟩
 ·have cL:=hg.lost
  have H0:=hid h0
  have HB:=hid (hB0.mono hBw)
  clear hb0 hr1 hs1 h h0 h1 hB0 hg hB1 HR
  go_enter Tryz.func29,Tryz.ntmps29
  go_wp2_with (first
   | (go_at_call 45;refine cL.mono ?_;rintro e w' ⟨rfl,rfl⟩))
  go_ret
  exact⟨rfl,HB.out,_,_,_,_,_,_,_,H0.out⟩
theorem Z8q{l:List M.Pk}(ht:M.Tog l)(P:List UInt8){e:Ending}{w w':World}(h:Zia l P w e w'):∃ b:Bool,e=.returned (.tuple #[.string ⟨(M.Zfb l P).toArray⟩,.bool b])/\(b=true↔M.Zfb l P≠[])/\Below w.heap.size w w':=by
 obtain⟨hB,⟨p,hp,⟨f,f1,f2⟩,rfl⟩|⟨hf,rfl⟩⟩:=h
 ·have e1:=M.Z4v ht hp (x:=P) (List.any_eq_true.2 ⟨f,f1,by simpa using f2⟩)
  exact⟨true,by rw[e1],by rw[e1];exact⟨fun _=>(Zbb.of (ht.back p hp)).name,fun _=>rfl⟩,hB⟩
 ·have e1:M.Zfb l P=[]:=owner_none (fun p hp=>by
   unfold Zhq
   rw[List.any_eq_false]
   intro f hf' e
   exact hf p hp f hf' (by simpa using e))
  exact⟨false,by rw[e1],by rw[e1];simp,hB⟩
theorem Live.owner{w:World}{F:Nat->Prop}{x n:Nat}{D:M.Dk}{l:List M.Pk}(h:Live w F x n D l)(S:ByteArray):Calls Tryz.prog 24 #[.pointer (some ⟨x,0,none⟩),.string S] w (Zia l S.data.toList w):=by
 obtain⟨d,s,k,b,qY,hv,sv,lv,h1,h3⟩:=h
 exact Z1p x d s k b S l w h1.sess h1.store h1.set h1.reads
theorem Zxp{K:Prop}{w:World}{B wb x n:Nat}{F:Nat->Prop}{tv ov hv:Value}{qQ orl:List M.Pk}{qK:Bool}{qJ:List ByteArray}(h:Lw K w B wb x n F tv ov hv qQ orl qK qJ)(A B':Int)(S:ByteArray)(hn:qJ.length<=1000000):
 Calls Tryz.prog 29 #[.pointer (some ⟨wb,0,none⟩),.agg #[.int .i64 7,.int .i64 A,.int .i64 B',.string S]] w (Zh9 K w B wb x n qJ):=by
 generalize hA:w.alloc (.cells #[.int .i64 7,.int .i64 A,.int .i64 B',.string S] 80)=A0
 have hB0:Below w.heap.size w A0:=by rw[<-hA];exact(Below.refl _ w).alloc ler _
 have hb0:A0.heap[w.heap.size]? = some (.cells #[.int .i64 7,.int .i64 A,.int .i64 B',.string S] 80 (0,0)):=by rw[<-hA];exact heap_alloc_new w _
 have o0:A0.cell? ⟨w.heap.size,0,none⟩=some (.int .i64 7):=(cell_of_row A0 _ 0 _ _ (0,0) hb0).trans rfl
 have o3':A0.cell? ⟨w.heap.size,3,none⟩=some (.string S):=(cell_of_row A0 _ 3 _ _ (0,0) hb0).trans rfl
 have h0:=h.below hB0
 have hBw:B<=w.heap.size:=by have:=h.lt;have:=h.wB;omega
 obtain⟨c0,-,-,-,-,c5,-⟩:=h0.cells
 obtain⟨v1,w1,hr1,hs1,hB1⟩:=Zep 41 B hv qJ h0.own (by omega)
 obtain⟨ah,ch,eh⟩:=Zac h0.own
 subst eh
 obtain⟨a1,c1,e1⟩:=hs1.form
 subst e1
 have HR:=hid hr1
 have o1:w1.cell? ⟨w.heap.size,0,none⟩=some (.int .i64 7):=(hB1.cell (p:=⟨w.heap.size,0,none⟩) (World.block_lt_of_cell? _ _ o0)).trans o0
 have o3:w1.cell? ⟨w.heap.size,3,none⟩=some (.string S):=(hB1.cell (p:=⟨w.heap.size,3,none⟩) (World.block_lt_of_cell? _ _ o3')).trans o3'
 have h1:=h0.below hB1
 have hB2:Below w.heap.size w w1:=bt hB0 hB1
 rcases h0.se with ⟨hmb,D,hkD,hlv⟩|⟨hnK,hg⟩
 ·have cL:=hlv.lost
  obtain⟨z1,z2⟩:=Zhl h1.tog h1.room h1.n2
  obtain⟨d0,-,d2,-,-,-,-⟩:=h1.cells
  have hlv1:=hlv.below hB1
  obtain⟨ta,tc,et⟩:=h1.tp.form
  subst et
  have hbd:Below w1.heap.size w1 w1.drew:=Zae w1 1
  have cO:=((hlv1.below hbd).owner S).mono (fun e w' hp=>Z8q h1.tog S.data.toList hp)
  have cW:=fun wx (hb:Below w1.heap.size w1 wx)=>(Z5h (.slice ta qQ.length tc) qQ S wx (h1.tp.below hb) (by omega) (fun p hp=>(Zbb.of (h1.tog.back p hp)).smallQ.1)).mono (fun e w' (hp:∃ T:ByteArray,_/\_/\_)=>(by
   obtain⟨T,g1,g2,g3⟩:=hp
   exact⟨by rw[g1,Zjb g2],g3⟩:e=.returned (.string ⟨(M.Zfb qQ S.data.toList).toArray⟩)/\Below wx.heap.size wx w'))
  have H1:Hid (∀ W,Below w1.heap.size w1 W->Lw K W B wb x n F (.slice ta qQ.length tc) ov (.slice ah qJ.length ch) qQ orl qK qJ/\Below B w W/\W.cell? ⟨w.heap.size,3,none⟩=some (.string S)):=fun W hb=>⟨h1.below hb,(hB2.mono hBw).trans (hb.mono (Nat.le_trans hBw hB2.size)),(hb.cell (p:=⟨w.heap.size,3,none⟩) (World.block_lt_of_cell? _ _ o3)).trans o3⟩
  have hPT:∀ b:Bool,(b=true↔M.Zfb qQ S.data.toList≠[])->((⟨(M.Zfb qQ S.data.toList).toArray⟩:ByteArray).toList == []) = !b:=fun b hb=>by
   rw[Lib.toList_data]
   cases b with
   | true=>
    have:=hb.1 rfl
    simpa using this
   | false=>
    have:M.Zfb qQ S.data.toList=[]:=Classical.byContradiction fun e=>by have:=hb.2 e;cases this
    rw[this]
    rfl
  have cO2:Calls Tryz.prog 24 #[.pointer (some ⟨x,0,none⟩),.string S] w1.drew fun e w'=>∃ b:Bool,e=.returned (.tuple #[.string ⟨(M.Zfb qQ S.data.toList).toArray⟩,.bool b])/\((⟨(M.Zfb qQ S.data.toList).toArray⟩:ByteArray).toList == []) = !b/\Below w1.drew.heap.size w1.drew w':=cO.mono (fun e w' hp=>by
   obtain⟨b,g1,g2,g3⟩:=hp
   exact⟨b,g1,hPT b g2,g3⟩)
  generalize (⟨(M.Zfb qQ S.data.toList).toArray⟩:ByteArray)=T at cO2 cW
  clear cO hPT
  clear hb0 hr1 hs1 h h0 h1 hB0 hlv hlv1
  go_enter Tryz.func29,Tryz.ntmps29
  go_wp2_with (first
   | (go_at_call 45;refine cL.mono ?_;rintro e w' ⟨rfl,rfl⟩)
   | (at_builtin;refine Zbr rfl (.const (.slice none 0 0)) (.tmp 66) 41 rfl _ _ _ _ rfl rfl HR.out ?_))
  go_region_with (go_at_call 24;refine cO2.mono ?_;rintro e w2 ⟨b,rfl,hTb,hB3⟩)
  all_goals
   have hB4:Below w1.heap.size w1 w2:=bt hbd hB3
   obtain⟨-,-,e2,-,-,-,-⟩:=(H1.out w2 hB4).1.cells
   have e3:=(H1.out w2 hB4).2.2
   have hB5:Below w1.heap.size w1 w2.drew:=bt hB4 (Zae w2 1)
   go_wp2
   go_region_with (go_at_call 51;refine(cW _ hB5).mono ?_;rintro e w3 ⟨rfl,hB6⟩)
   all_goals
    have HP:Hid _:=H1.out w3 (bt hB5 hB6)
    cases b with
    | true=>
     have hTb2:(T.toList == [])=false:=hTb
     go_wp2
     go_ret
     exact⟨rfl,HP.out.2.1,_,_,_,_,_,_,_,HP.out.1⟩
    | false=>
     have hTb2:(T.toList == [])=true:=hTb
     go_wp2
     go_ret
     exact⟨rfl,HP.out.2.1,_,_,_,_,_,_,_,HP.out.1⟩
 ·have cL:=hg.lost
  have H0:=hid h0
  have HB:=hid (hB0.mono hBw)
  clear hb0 hr1 hs1 h h0 h1 hB0 hg hB1 HR
  go_enter Tryz.func29,Tryz.ntmps29
  go_wp2_with (first
   | (go_at_call 45;refine cL.mono ?_;rintro e w' ⟨rfl,rfl⟩))
  go_ret
  exact⟨rfl,HB.out,_,_,_,_,_,_,_,H0.out⟩
theorem Z8s{K:Prop}{w:World}{n:Nat}{ops:List OpD}{wb k:Nat}{W:World}(hk:k<ops.length)(h8:ops.length+bytesOf ops<=8192)(h:Zns K w n ops wb k W)(hkd:ops[k].kind=5\/ops[k].kind=7\/ops[k].kind=8):
 Calls Tryz.prog 29 #[.pointer (some ⟨wb,0,none⟩),opV ops[k]] W fun e W'=>e=.returned (.bool true)/\Zns K w n ops wb (k+1) W':=by
 obtain⟨x,F,tv,ov,hv,qQ,orl,qK,qJ,hw,hB,hl,hkk,hs⟩:=h
 unfold opV
 generalize ops[k].kind=J at hkd
 rcases hkd with rfl|rfl|rfl
 ·exact(Z29 hw _ _ _ (by omega) hs).mono fun e W' hp=>Zns.next hp hB (by omega) hk hs
 ·exact(Zxp hw _ _ _ (by omega)).mono fun e W' hp=>Zns.next hp hB (by omega) hk hs
 ·exact(Z1v hw _ _ _ (by omega)).mono fun e W' hp=>Zns.next hp hB (by omega) hk hs
theorem Yax{K:Prop}{w:World}{n:Nat}{ops:List OpD}{wb k:Nat}{W:World}(hk:k<ops.length)(h:Zns K w n ops wb k W)(ha:ops[k].a<=9223372036854775807)(hb:ops[k].b<=9223372036854775807)(hK:¬ K)(hkd:ops[k].kind=9\/ops[k].kind=10):
 Calls Tryz.prog 29 #[.pointer (some ⟨wb,0,none⟩),opV ops[k]] W fun e W'=>e=.returned (.bool true)/\Zns K w n ops wb (k+1) W':=by
 obtain⟨x,F,tv,ov,hv,qQ,orl,qK,qJ,hw,hB,hl,hkk,hs⟩:=h
 unfold opV
 generalize ops[k].kind=J at hkd
 rcases hkd with rfl|rfl
 ·exact(Zvi hw _ _ _ hb hK).mono fun e W' hp=>Zns.next hp hB (by omega) hk hs
 ·exact(Z7c hw _ _ _ ha hK).mono fun e W' hp=>Zns.next hp hB (by omega) hk hs
theorem Zvk{w:World}{n:Nat}{ops:List OpD}{wb k:Nat}{W:World}(h:Zns False w n ops wb k W):Calls Tryz.prog 30 #[.pointer (some ⟨wb,0,none⟩),.int .i64 (-1),.int .i64 (-1)] W fun e W'=>e=.returned (.bool true)/\Below w.heap.size w W':=by
 obtain⟨x,F,tv,ov,hv,qQ,orl,qK,qJ,hw,hB,_⟩:=h
 exact(Zpf hw (-1) (-1) (by omega) (fun h=>h)).mono fun e W' hp=>⟨hp.1,hB.trans hp.2.1⟩
theorem Z8w(w:World):(binOp .eql 72 (.slice none 0 0) (.slice none 0 0)).run Tryz.prog w=.ok (.bool true) w:=by
 simp only[binOp]
 simp[run_equal_slice_nil w _ _ _ 0 0 Tryz.underlying72]
theorem Z63(sectors:Int)(ov:Value)(ops:List OpD)(w:World)(NewPost:Nat->World->Prop)(Inv:Nat->Nat->World->Prop)
 (ho:Zql w ov ops) (hos:∀ o∈ops,o.s.size<=1000000000000000000)
 (hNew:∀ w1,Below w.heap.size w w1->Calls Tryz.prog 11 #[.int .i64 sectors] w1 fun e w'=>∃ x,e=.returned (.tuple #[.pointer (some ⟨x,0,none⟩),okV])/\NewPost x w')
 (hStart:∀ x w1 W0,NewPost x w1->Below w1.heap.size w1 W0->ops.length+bytesOf ops<=8192->Inv W0.heap.size 0 (W0.alloc (.cells #[.pointer (some ⟨x,0,none⟩),.int .i64 (Zb5 sectors),.slice none 0 0,.slice none 0 0,.bool false,.slice none 0 0] 78)))
 (hIn:∀ wb k W,Inv wb k W->Zql W ov ops/\Below w.heap.size w W)
 (hStep:∀ wb k W (h:k<ops.length),ops.length+bytesOf ops<=8192->Inv wb k W->Calls Tryz.prog 29 #[.pointer (some ⟨wb,0,none⟩),opV ops[k]] W fun e W'=>e=.returned (.bool true)/\Inv wb (k+1) W')
 (hFin:∀ wb W,Inv wb ops.length W->Calls Tryz.prog 30 #[.pointer (some ⟨wb,0,none⟩),.int .i64 (-1),.int .i64 (-1)] W fun e W'=>e=.returned (.bool true)/\Below w.heap.size w W'):
 Calls Tryz.prog 15 #[.int .i64 sectors,ov,.slice none 0 0] w fun e W'=>e=.returned (.bool true)/\Below w.heap.size w W':=by
 have cS:=Z6l ov ops w ho hos
 obtain⟨ao,co,eo,hoc1,hoc2,_⟩:=ho
 subst eo
 have hol:ops.length<=9223372036854775807:=by unfold maxLen at hoc2;omega
 by_cases hs:ops.length+bytesOf ops<=8192
 ·have HNew:Hid (∀ w1,Below w.heap.size w w1->Calls Tryz.prog 11 #[.int .i64 sectors] w1 fun e w'=>∃ x,e=.returned (.tuple #[.pointer (some ⟨x,0,none⟩),okV])/\NewPost x w'):=hNew
  rw[show decide (ops.length+bytesOf ops<=8192)=true by simpa using hs] at cS
  have HS:=hid hs
  have hol8:ops.length<=8192:=by omega
  have cC:=fun wx=>Zxq sectors wx
  have hsec:=Zko sectors
  have hnil:=Z8w
  clear hs hNew
  go_enter Tryz.func15,Tryz.ntmps15
  go_wp2_with (first
   | (go_at_call 27;refine cS.mono ?_;rintro e w1 ⟨rfl,hB1⟩)
   | (go_at_call 11;refine(HNew.out _ hB1).mono ?_;rintro e w2 ⟨x,rfl,hN⟩;have HN:Hid (NewPost x w2):=hN;clear hN)
   | (go_at_call 28;refine(cC _).mono ?_;rintro e w3 ⟨rfl,rfl⟩))
  have hN0:=HN.out
  have HI0:=hStart x w2 (w2.alloc (.cells #[.int .i64 0,.int .i64 0,.int .i64 0,.string ⟨#[]⟩] 33)) hN0 ((Below.refl _ w2).alloc ler _) HS.out
  rw[World.size_alloc] at HI0
  have HI:=hid HI0
  have HIn:=hid hIn
  have HSt:=hid hStep
  clear hN0 HI0 hIn hStep hStart cS cC HN hos hB1 HNew
  go_loopw [12,13,14,15,16] (fun i _ _ _ _ wr=>∃ k:Nat,i=.int .i64 k/\k<=ops.length/\Hid (Inv (w2.heap.size+1) k wr)) (fun i _ _ _ _ _=>ops.length-(intOf i).toNat)
  case atStart=>exact⟨0,rfl,Nat.zero_le _,HI⟩
  case round=>
   obtain⟨k,rfl,hkn,HK⟩:=hrel
   obtain⟨W0,hW0⟩:∃ W,W=wr:=⟨_,rfl⟩
   subst hW0
   obtain⟨hOI,hBW⟩:=HIn.out _ _ _ HK.out
   have HBW:=hid hBW
   clear hBW
   by_cases hlt:k<ops.length
   ·obtain⟨a2,c2,e2,_,_,hoc⟩:=hOI
    injection e2 with e2 _ e3
    subst e2 e3
    obtain⟨go,off,rfl,hgo,hcell⟩:=hoc (by omega)
    obtain⟨p0,p1,p2,p3⟩:=hcell k hlt
    have cT:=HSt.out (w2.heap.size+1) k W0 hlt HS.out HK.out
    unfold opV at cT
    generalize ops[k].kind=K at p0 cT
    generalize ops[k].a=OA at p1 cT
    generalize ops[k].b=OB at p2 cT
    generalize ops[k].s=OS at p3 cT
    have hm1:(k:Int)<(ops.length:Int):=by omega
    clear hcell hoc hgo
    go_wp2
    go_loopw [14,15] (fun t j wr=>j=.int .i64 0/\t=.bool true/\W0=wr) (fun _ _ _=>0)
    case atStart=>exact⟨rfl,rfl,rfl⟩
    case round=>
     obtain⟨rfl,rfl,rfl⟩:=hrel
     go_wp2_with fail
     refine cT.mono ?_
     rintro e W1 ⟨rfl,hI1⟩
     have HI1:=hid hI1
     clear hI1 cT
     go_wp2
     go_roundw
     case rel=>exact⟨k+1,by go_num,by omega,HI1⟩
     case measure=>simp[intOf];omega
   ·have hkk:k=ops.length:=by omega
    subst hkk
    have cR:=hFin _ _ HK.out
    clear hFin hOI HIn HSt HK HI
    go_wp2_with fail
    refine cR.mono ?_
    rintro e W1 ⟨rfl,hB9⟩
    go_wp2
    go_ret
    exact⟨rfl,hB9⟩
 ·rw[show decide (ops.length+bytesOf ops<=8192)=false by simpa using hs] at cS
  go_enter Tryz.func15,Tryz.ntmps15
  go_wp2_with (go_at_call 27;refine cS.mono ?_;rintro e w1 ⟨rfl,hB1⟩)
  go_ret
  exact⟨rfl,hB1⟩
theorem Z1i{K:Prop}{w:World}{B wb x n:Nat}{F:Nat->Prop}{tv ov hv:Value}{qQ orl:List M.Pk}{qK:Bool}{qJ:List ByteArray}(h:Lw K w B wb x n F tv ov hv qQ orl qK qJ)(J A B':Int)(S:ByteArray)(hn:qJ.length<=1000000)(hJ:J<1\/10<J):
 Calls Tryz.prog 29 #[.pointer (some ⟨wb,0,none⟩),.agg #[.int .i64 J,.int .i64 A,.int .i64 B',.string S]] w (Zh9 K w B wb x n qJ):=by
 generalize hA:w.alloc (.cells #[.int .i64 J,.int .i64 A,.int .i64 B',.string S] 80)=A0
 have hB0:Below w.heap.size w A0:=by rw[<-hA];exact(Below.refl _ w).alloc ler _
 have hb0:A0.heap[w.heap.size]? = some (.cells #[.int .i64 J,.int .i64 A,.int .i64 B',.string S] 80 (0,0)):=by rw[<-hA];exact heap_alloc_new w _
 have o0:A0.cell? ⟨w.heap.size,0,none⟩=some (.int .i64 J):=(cell_of_row A0 _ 0 _ _ (0,0) hb0).trans rfl
 have h0:=h.below hB0
 have hBw:B<=w.heap.size:=by have:=h.lt;have:=h.wB;omega
 obtain⟨c0,-,-,-,-,c5,-⟩:=h0.cells
 obtain⟨v1,w1,hr1,hs1,hB1⟩:=Zep 41 B hv qJ h0.own (by omega)
 obtain⟨ah,ch,eh⟩:=Zac h0.own
 subst eh
 obtain⟨a1,c1,e1⟩:=hs1.form
 subst e1
 have HR:=hid hr1
 have o1:w1.cell? ⟨w.heap.size,0,none⟩=some (.int .i64 J):=(hB1.cell (p:=⟨w.heap.size,0,none⟩) (World.block_lt_of_cell? _ _ o0)).trans o0
 have h1:=h0.below hB1
 have q1:(J == 1)=false:=by simp;omega
 have q2:(J == 2)=false:=by simp;omega
 have q3:(J == 3)=false:=by simp;omega
 have q4:(J == 4)=false:=by simp;omega
 have q5:(J == 5)=false:=by simp;omega
 have q6:(J == 6)=false:=by simp;omega
 have q7:(J == 7)=false:=by simp;omega
 have q8:(J == 8)=false:=by simp;omega
 have q9:(J == 9)=false:=by simp;omega
 have q10:(J == 10)=false:=by simp;omega
 clear hJ
 have H1:=hid h1
 have hB2:Below w.heap.size w w1:=bt hB0 hB1
 rcases h0.se with ⟨hmb,D,hkD,hlv⟩|⟨hnK,hg⟩
 ·have cL:=hlv.lost
  have HB:=hid (hB2.mono hBw)
  clear hb0 hr1 hs1 h h0 h1 hB0 hlv hB1
  go_enter Tryz.func29,Tryz.ntmps29
  go_wp2_with (first
   | (go_at_call 45;refine cL.mono ?_;rintro e w' ⟨rfl,rfl⟩)
   | (at_builtin;refine Zbr rfl (.const (.slice none 0 0)) (.tmp 66) 41 rfl _ _ _ _ rfl rfl HR.out ?_))
  go_ret
  exact⟨rfl,HB.out,_,_,_,_,_,_,_,H1.out⟩
 ·have cL:=hg.lost
  have H0:=hid h0
  have HB:=hid (hB0.mono hBw)
  clear hb0 hr1 hs1 h h0 h1 hB0 hg hB1 HR
  go_enter Tryz.func29,Tryz.ntmps29
  go_wp2_with (first
   | (go_at_call 45;refine cL.mono ?_;rintro e w' ⟨rfl,rfl⟩))
  go_ret
  exact⟨rfl,HB.out,_,_,_,_,_,_,_,H0.out⟩
theorem Z88{w:World}{n:Nat}{ops:List OpD}{wb k:Nat}{W:World}(hk:k<ops.length)(h8:ops.length+bytesOf ops<=8192)(h:Zns False w n ops wb k W)(ha:ops[k].a<=9223372036854775807)(hb:ops[k].b<=9223372036854775807):
 Calls Tryz.prog 29 #[.pointer (some ⟨wb,0,none⟩),opV ops[k]] W fun e W'=>e=.returned (.bool true)/\Zns False w n ops wb (k+1) W':=by
 by_cases hJ:ops[k].kind<1\/10<ops[k].kind
 ·obtain⟨x,F,tv,ov,hv,qQ,orl,qK,qJ,hw,hB,hl,hkk,hs⟩:=h
  unfold opV
  generalize ops[k].kind=J at hJ
  exact(Z1i hw J _ _ _ (by omega) hJ).mono fun e W' hp=>Zns.next hp hB (by omega) hk hs
 ·by_cases h5:ops[k].kind=5\/ops[k].kind=7\/ops[k].kind=8
  ·exact Z8s hk h8 h h5
  ·by_cases h9:ops[k].kind=9\/ops[k].kind=10
   ·exact Yax hk h ha hb (fun h=>h) h9
   ·exact Yaq hk h8 h (by omega)
theorem Z4t(sectors:Int)(ov:Value)(ops:List OpD)(w:World)(hR:Ready w)(ho:Zql w ov ops)(hos:∀ o∈ops,o.s.size<=1000000000000000000/\o.a<=9223372036854775807/\o.b<=9223372036854775807):
 Calls Tryz.prog 15 #[.int .i64 sectors,ov,.slice none 0 0] w fun e W'=>e=.returned (.bool true)/\Below w.heap.size w W':=by
 refine Z63 sectors ov ops w (LNew w (Zb5 sectors)) (Zns False w (Zb5 sectors) ops) ho (fun o h=>(hos o h).1) (fun w1 hb=>Z9n sectors w w1 hb hR) (fun x w1 W0 h hb _=>Z1z h hR hb) (fun wb k W h=>?_) (fun wb k W hlt h8 h=>?_) (fun wb W h=>Zvk h)
 ·obtain⟨x,F,tv,ov',hv,qQ,orl,qK,qJ,hw,hB,_⟩:=h
  exact⟨ho.below hB,hB⟩
 ·have hm:=hos ops[k] (List.getElem_mem hlt)
  exact Z88 hlt h8 h hm.2.1 hm.2.2
end Go.Proofs.YtgnfknjopafngabGreatDoor
namespace Go.Proofs.YtgnfknjopafngabGreatDoor
open Go.ChangeShapes Go.WideShapes Go.Deep
theorem Zp4{H:Type}{P:Program}{e:TypeId}:∀ {l:List (DataW H)} {i:Nat} {d:DataW H},l[i]? = some d->∀ n∈d.weights P e,n∈DataW.weightsAll P e l
 | d0 :: l,0,d,h,n,hn=>by
  simp only[List.getElem?_cons_zero,Option.some.injEq] at h
  subst h
  simp only[DataW.weightsAll,List.mem_append]
  exact .inl hn
 | d0 :: l,i+1,d,h,n,hn=>by
  simp only[List.getElem?_cons_succ] at h
  simp only[DataW.weightsAll,List.mem_append]
  exact .inr (Zp4 h n hn)
 | [],i,d,h,_,_=>by simp at h
theorem Z54{w:World}{a:Addr}{v:Value}(h:w.cell? a=some v):a.spot=none:=by
 unfold World.cell? at h
 split at h
 ·split at h
  ·cases h
  ·rename_i h1;simpa using h1
 ·cases h
theorem addr_add{b o:Nat}(i:Nat):(⟨b,o,none⟩:Addr).add i=⟨b,o+i,none⟩:=by
 unfold Addr.add
 by_cases h:i=0
 ·simp[h]
 ·simp[h]
end Go.Proofs.YtgnfknjopafngabGreatDoor
