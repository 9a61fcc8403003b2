import Derived.Test.YtgnfknjopafngaaGreatDoorKtau
import Derived.Deep.Strs
import Derived.SizedLaws
import Derived.Carry
set_option maxRecDepth 100000
set_option maxHeartbeats 8000000
namespace Go.Proofs.YtgnfknjopafngaaGreatDoor
open Go.RowKit Go.Maps
def Zns(K:Prop)(w:World)(n:Nat)(ops:List OpD)(wb k:Nat)(W:World):Prop:=∃ x F tv ov hv qQ orl qK qJ,Lw K W w.heap.size wb x n F tv ov hv qQ orl qK qJ/\Below w.heap.size w W/\qJ.length<=k/\k<=ops.length/\∀ t∈qJ,t.size<=8192
theorem Z62{ops:List OpD}(h:ops.length+bytesOf ops<=8192){k:Nat}(hk:k<ops.length):ops[k].s.size<=8192:=by
 have h1:=Zrf hk
 have h2:=Zli ops (k+1)
 omega
def LNew(w:World)(n x:Nat)(w1:World):Prop:=∃ F D,Live w1 F x n D []/\M.Zfl D/\(∀ j,F j->w.heap.size<=j)/\Below w.heap.size w w1
theorem Z9n(s:Int)(w w1:World)(hb:Below w.heap.size w w1)(hR:Ready w):Calls Tryz.prog 20 #[.int .i64 s] w1 fun e w'=>∃ x,e=.returned (.tuple #[.pointer (some ⟨x,0,none⟩),okV])/\LNew w (Zb5 s) x w':=by
 refine(Z7j s w1 (hR.below hb)).mono ?_
 rintro e w' ⟨x,d,s,k,b,hv,sv,rfl,h1,h2,h3⟩
 exact⟨x,rfl,Zpr x d s k hv sv (.slice none 0 0),_,⟨d,s,k,b,0,hv,sv,_,h1,fun j=>Iff.rfl⟩,⟨rfl,rfl⟩,fun j hj=>Nat.le_trans hb.size (h2 j hj),bt hb h3⟩
theorem Z1z{K:Prop}{w w1 W0:World}{ops:List OpD}{x n:Nat}(h:LNew w n x w1)(hR:Ready w)(hb:Below w1.heap.size w1 W0):Zns K w n ops W0.heap.size 0 (W0.alloc (.cells #[.pointer (some ⟨x,0,none⟩),.int .i64 n,.slice none 0 0,.slice none 0 0,.bool false,.slice none 0 0] 79)):=by
 obtain⟨F,D,h1,h2,h3,h4⟩:=h
 have hB2:Below W0.heap.size W0 (W0.alloc (.cells #[.pointer (some ⟨x,0,none⟩),.int .i64 n,.slice none 0 0,.slice none 0 0,.bool false,.slice none 0 0] 79)):=(Below.refl _ W0).alloc ler _
 have hB3:=bt hb hB2
 have hl:=h1.below hB3
 have hl2:=hl
 obtain⟨d,s,k,b,qY,hv,sv,lv,g1,g2⟩:=hl2
 have hsz:=h4.size
 have hsz2:=hb.size
 refine⟨x,F,.slice none 0 0,.slice none 0 0,.slice none 0 0,[],[],false,[],⟨⟨.inl ⟨rfl,D,fun _=>h2,hl⟩,Zbc.none _,fun h0=>absurd rfl h0,Zbc.none _,fun h0=>absurd rfl h0,g1.tog,g1.room,g1.tog,g1.room,g1.n1,g1.n2,h3⟩,heap_alloc_new W0 _,World.ownsRow_nil _ _ _ _,fun _=>rfl,by omega,hR.lt⟩,bt h4 hB3,Nat.le_refl _,Nat.zero_le _,fun t ht=>by cases ht⟩
theorem Zns.next{K:Prop}{w W W':World}{n wb k x:Nat}{ops:List OpD}{qJ:List ByteArray}{e:Ending}(hp:Zh9 K W w.heap.size wb x n qJ e W')(hB:Below w.heap.size w W)(hl:qJ.length<=k+1)(hk:k<ops.length)(hs:∀ t∈qJ,t.size<=8192):e=.returned (.bool true)/\Zns K w n ops wb (k+1) W':=by
 obtain⟨he,h1,F,tv,ov,hv,qQ,orl,qK,h2⟩:=hp
 exact⟨he,x,F,tv,ov,hv,qQ,orl,qK,qJ,h2,hB.trans h1,hl,hk,hs⟩
theorem Yaq{K:Prop}{w:World}{n:Nat}{ops:List OpD}{wb k:Nat}{W:World}(hk:k<ops.length)(h8:ops.length+bytesOf ops<=8192)(h:Zns K w n ops wb k W)(hkd:ops[k].kind=1\/ops[k].kind=2\/ops[k].kind=3\/ops[k].kind=4\/ops[k].kind=6):
 Calls Tryz.prog 41 #[.pointer (some ⟨wb,0,none⟩),opV ops[k]] W fun e W'=>e=.returned (.bool true)/\Zns K w n ops wb (k+1) W':=by
 obtain⟨x,F,tv,ov,hv,qQ,orl,qK,qJ,hw,hB,hl,hkk,hs⟩:=h
 unfold opV
 have hsz:=Z62 h8 hk
 have hS:∀ t∈qJ++[ops[k].s],t.size<=8192:=fun t ht=>by
  rcases List.mem_append.1 ht with ht|ht
  ·exact hs t ht
  ·rw[List.mem_singleton.1 ht];exact hsz
 generalize ops[k].kind=J at hkd
 generalize ops[k].s=S at hS
 rcases hkd with rfl|rfl|rfl|rfl|rfl
 ·exact(Z25 hw _ _ S (by omega)).mono fun e W' hp=>Zns.next hp hB (by rw[List.length_append];exact Nat.succ_le_succ hl) hk hS
 ·exact(Zyb hw _ _ S).mono fun e W' hp=>Zns.next hp hB (Nat.zero_le _) hk (fun t ht=>by cases ht)
 ·exact(Zte hw _ _ S (by omega) hs).mono fun e W' hp=>Zns.next hp hB (by omega) hk hs
 ·exact(Zua hw _ _ S (by omega) hs).mono fun e W' hp=>Zns.next hp hB (by omega) hk hs
 ·exact(Z2d hw _ _ S (by omega)).mono fun e W' hp=>Zns.next hp hB (by omega) hk hs
theorem Ydd{W W':World}{kv:Value}{kl:List Int}(h:Yde W kv kl)(hb:Below W.heap.size W W'):Yde W' kv kl:=by
 obtain⟨g,e,hc⟩:=h
 exact⟨g,e,fun j hj=>(hb.cell (p:=⟨g,j,none⟩) (World.block_lt_of_cell? _ _ (hc j hj))).trans (hc j hj)⟩
theorem Ydb{K:Prop}(sectors:Int)(ov kv:Value)(ops:List OpD)(kl:List Int)(w:World)(hR:Ready w)(ho:Zql w ov ops)(hos:∀ o∈ops,o.s.size<=1000000000000000000)(hk:Yde w kv kl)(hkl:0<kl.length)(hkm:kl.length<=100)
 (hStep:∀ wb k W (h:k<ops.length),ops.length+bytesOf ops<=8192->Zns K w (Zb5 sectors) ops wb k W->ops[k].kind=1\/ops[k].kind=2\/ops[k].kind∈kl->Calls Tryz.prog 41 #[.pointer (some ⟨wb,0,none⟩),opV ops[k]] W fun e W'=>e=.returned (.bool true)/\Zns K w (Zb5 sectors) ops wb (k+1) W')
 (hFin:(kl[kl.length-1]'(by omega)=10/\∀ wb W,Zns K w (Zb5 sectors) ops wb ops.length W->Calls Tryz.prog 42 #[.pointer (some ⟨wb,0,none⟩),.int .i64 (-1),.int .i64 (-1)] W fun e W'=>e=.returned (.bool true)/\Below w.heap.size w W') \/
   (kl[kl.length-1]'(by omega)≠10/\kl.length≠1/\∀ wb W,Zns K w (Zb5 sectors) ops wb ops.length W->Calls Tryz.prog 43 #[.pointer (some ⟨wb,0,none⟩)] W fun e W'=>e=.returned (.bool true)/\Below w.heap.size w W')):
 Calls Tryz.prog 17 #[.int .i64 sectors,ov,kv] w fun e W'=>e=.returned (.bool true)/\Below w.heap.size w W':=by
 refine Ydc sectors ov kv ops kl w (LNew w (Zb5 sectors)) (Zns K w (Zb5 sectors) ops) ho hos hk hkl hkm (fun w1 hb=>Z9n sectors w w1 hb hR) (fun x w1 W0 h hb _=>Z1z h hR hb) (fun wb k W h=>?_) (fun wb k W hlt h8 h hal=>hStep wb k W hlt h8 h ?_) (fun wb k W hlt h _=>?_) ?_
 ·obtain⟨x,F,tv,ov',hv,qQ,orl,qK,qJ,hw,hB,_⟩:=h
  exact⟨ho.below hB,Ydd hk hB,hB⟩
 ·unfold allowed at hal
  simp only[Bool.or_eq_true,decide_eq_true_eq,List.any_eq_true] at hal
  rcases hal with (e|e)|⟨y,hy,e⟩
  ·exact .inl e
  ·exact .inr (.inl e)
  ·exact .inr (.inr (by rw[e];exact hy))
 ·obtain⟨x,F,tv,ov',hv,qQ,orl,qK,qJ,hw,hB,h1,h2,h3⟩:=h
  exact⟨x,F,tv,ov',hv,qQ,orl,qK,qJ,hw,hB,by omega,hlt,h3⟩
 ·rcases hFin with h1|h1
  ·exact .inl h1
  ·exact .inr (.inr h1)
theorem Live.fill{w:World}{F:Nat->Prop}{x n:Nat}{D:M.Dk}{l:List M.Pk}(h:Live w F x n D l):Calls Tryz.prog 27 #[.pointer (some ⟨x,0,none⟩)] w fun e w'=>∃ q,floatBits .quo .f64 (floatOfInt .f64 (M.Zbn l:Int)) (floatOfInt .f64 (24*((n:Int)-8)))=some q/\e=.returned (.float .f64 q)/\Below w.heap.size w w':=by
 obtain⟨d,s,k,b,qY,hv,sv,lv,h1,h3⟩:=h
 obtain⟨z1,z2⟩:=h1.size
 have n1:=h1.n1
 have hS:Zh3 w d n:=by
  have:=h1.disk.secsOf (by rw[h1.secs.1];omega)
  rwa [h1.secs.1] at this
 exact Z6w x s k b d qY n l w h1.sess h1.store h1.known hS h1.n1 h1.n2 h1.set h1.reads (by omega)
theorem Z1v{K:Prop}{w:World}{B wb x n:Nat}{F:Nat->Prop}{tv ov hv:Value}{qQ orl:List M.Pk}{qK:Bool}{qJ:List ByteArray}(h:Lw K w B wb x n F tv ov hv qQ orl qK qJ)(A B':Int)(S:ByteArray)(hn:qJ.length<=1000000):
 Calls Tryz.prog 41 #[.pointer (some ⟨wb,0,none⟩),.agg #[.int .i64 8,.int .i64 A,.int .i64 B',.string S]] w (Zh9 K w B wb x n qJ):=by
 generalize hA:w.alloc (.cells #[.int .i64 8,.int .i64 A,.int .i64 B',.string S] 81)=A0
 have hB0:Below w.heap.size w A0:=by rw[<-hA];exact(Below.refl _ w).alloc ler _
 have hb0:A0.heap[w.heap.size]? = some (.cells #[.int .i64 8,.int .i64 A,.int .i64 B',.string S] 81 (0,0)):=by rw[<-hA];exact heap_alloc_new w _
 have o0:A0.cell? ⟨w.heap.size,0,none⟩=some (.int .i64 8):=(cell_of_row A0 _ 0 _ _ (0,0) hb0).trans rfl
 have h0:=h.below hB0
 have hBw:B<=w.heap.size:=by have:=h.lt;have:=h.wB;omega
 obtain⟨c0,-,-,-,-,c5,-⟩:=h0.cells
 obtain⟨v1,w1,hr1,hs1,hB1⟩:=Zep 43 B hv qJ h0.own (by omega)
 obtain⟨ah,ch,eh⟩:=Zac h0.own
 subst eh
 obtain⟨a1,c1,e1⟩:=hs1.form
 subst e1
 have HR:=hid hr1
 have o1:w1.cell? ⟨w.heap.size,0,none⟩=some (.int .i64 8):=(hB1.cell (p:=⟨w.heap.size,0,none⟩) (World.block_lt_of_cell? _ _ o0)).trans o0
 have h1:=h0.below hB1
 have hB2:Below w.heap.size w w1:=bt hB0 hB1
 rcases h0.se with ⟨hmb,D,hkD,hlv⟩|⟨hnK,hg⟩
 ·have cL:=hlv.lost
  obtain⟨z1,z2⟩:=Zhl h1.tog h1.room h1.n2
  obtain⟨-,d1,d2,-,-,-,-⟩:=h1.cells
  have cZ:=Zze tv qQ w1 h1.tp (by omega) (fun p hp=>Zbb.of (h1.tog.back p hp))
  have cM:=fun wx=>Zy5 n wx h1.n2
  have hlv1:=hlv.below hB1
  have n1:=h1.n1
  have n2:=h1.n2
  obtain⟨q,hq,hqq,-⟩:=Zuz (M.Zbn qQ) (24*(n-8)) (by omega) (by omega) (by omega)
  have hr:((24*(n-8):Nat):Int)=24*((n:Int)-8):=by omega
  rw[hr] at hq
  have cF:=fun wx (hb:Below w1.heap.size w1 wx)=>((hlv1.below hb).fill).mono (fun e w' (hp:∃ q,_/\_/\_)=>(by
   obtain⟨q',g1,g2,g3⟩:=hp
   rw[hq] at g1
   cases g1
   exact⟨g2,g3⟩:e=.returned (.float .f64 q)/\Below wx.heap.size wx w'))
  have H1:Hid (∀ W,Below w1.heap.size w1 W->Lw K W B wb x n F tv ov (.slice ah qJ.length ch) qQ orl qK qJ/\Below B w W):=fun W hb=>⟨h1.below hb,(hB2.mono hBw).trans (hb.mono (Nat.le_trans hBw hB2.size))⟩
  obtain⟨ta,tc,et⟩:=h1.tp.form
  subst et
  have hdv:=fun wx=>run_float_arith (P:=Tryz.prog) wx .quo 56 .f64 _ _ q hq
  have hoo:(FloatKind.f64.format.order q q == some Ordering.eq)=true:=by
   have:FloatKind.f64.format.order q q=some Ordering.eq:=hqq
   rw[this];rfl
  unfold Znd at cM
  generalize M.Zbn qQ=Z at cZ hdv z2
  generalize hRm:(24*((n:Int)-8))=Rm at cM hdv
  have hRb:Rm<=100000/\0<=Rm:=by omega
  clear hb0 hr1 hs1 h h0 h1 hB0 hlv hlv1 hq hr hqq hRm
  go_enter Tryz.func41,Tryz.ntmps41
  go_wp2_with (first
   | (go_at_call 32;refine cL.mono ?_;rintro e w' ⟨rfl,rfl⟩)
   | (at_builtin;refine Zbr rfl (.const (.slice none 0 0)) (.tmp 66) 43 rfl _ _ _ _ rfl rfl HR.out ?_))
  refine cZ.mono ?_
  rintro e w2 ⟨rfl,hB3⟩
  have e1:w2.cell? ⟨wb,1,none⟩=some (.int .i64 n):=(H1.out w2 hB3).1.cells.2.1
  clear cZ cL
  go_wp2_with fail
  refine(cM _).mono ?_
  rintro e w3 ⟨rfl,e3⟩
  obtain rfl:=e3
  have e0:w3.cell? ⟨wb,0,none⟩=some (.pointer (some ⟨x,0,none⟩)):=(H1.out w3 hB3).1.cells.1
  clear cM
  go_wp2_with fail
  refine(cF _ hB3).mono ?_
  rintro e w4 ⟨rfl,hB4⟩
  have HP:=H1.out w4 (bt hB3 hB4)
  replace HP:Hid _:=HP
  clear cF
  go_wp2
  go_ret
  exact⟨rfl,HP.out.2,_,_,_,_,_,_,_,HP.out.1⟩
 ·have cL:=hg.lost
  have H0:=hid h0
  have HB:=hid (hB0.mono hBw)
  clear hb0 hr1 hs1 h h0 h1 hB0 hg hB1 HR
  go_enter Tryz.func41,Tryz.ntmps41
  go_wp2_with (first
   | (go_at_call 32;refine cL.mono ?_;rintro e w' ⟨rfl,rfl⟩))
  go_ret
  exact⟨rfl,HB.out,_,_,_,_,_,_,_,H0.out⟩
theorem Live.plan{w:World}{F:Nat->Prop}{x n:Nat}{D:M.Dk}{l:List M.Pk}(h:Live w F x n D l)(xv:Value)(qX:List ByteArray)(hx:Zdh w xv qX)(hxn:qX.length<=10000)(hxs:∀ t∈qX,t.size<=8192):
 Calls Tryz.prog 26 #[.pointer (some ⟨x,0,none⟩),xv] w (Zp3 (M.Zar l (qX.map fun t=>t.data.toList)) w):=by
 obtain⟨d,s,k,b,qY,hv,sv,lv,h1,h3⟩:=h
 obtain⟨z1,z2⟩:=h1.size
 exact Z4c x d s k b l xv qX w h1.ready h1.sess h1.store h1.set hx hxn hxs (by omega) h1.reads
theorem Z29{K:Prop}{w:World}{B wb x n:Nat}{F:Nat->Prop}{tv ov hv:Value}{qQ orl:List M.Pk}{qK:Bool}{qJ:List ByteArray}(h:Lw K w B wb x n F tv ov hv qQ orl qK qJ)(A B':Int)(S:ByteArray)(hn:qJ.length<=10000)(hs:∀ t∈qJ,t.size<=8192):
 Calls Tryz.prog 41 #[.pointer (some ⟨wb,0,none⟩),.agg #[.int .i64 5,.int .i64 A,.int .i64 B',.string S]] w (Zh9 K w B wb x n qJ):=by
 generalize hA:w.alloc (.cells #[.int .i64 5,.int .i64 A,.int .i64 B',.string S] 81)=A0
 have hB0:Below w.heap.size w A0:=by rw[<-hA];exact(Below.refl _ w).alloc ler _
 have hb0:A0.heap[w.heap.size]? = some (.cells #[.int .i64 5,.int .i64 A,.int .i64 B',.string S] 81 (0,0)):=by rw[<-hA];exact heap_alloc_new w _
 have o0:A0.cell? ⟨w.heap.size,0,none⟩=some (.int .i64 5):=(cell_of_row A0 _ 0 _ _ (0,0) hb0).trans rfl
 have h0:=h.below hB0
 have hBw:B<=w.heap.size:=by have:=h.lt;have:=h.wB;omega
 obtain⟨c0,-,-,-,-,c5,-⟩:=h0.cells
 obtain⟨v1,w1,hr1,hs1,hB1⟩:=Zep 43 B hv qJ h0.own (by omega)
 obtain⟨ah,ch,eh⟩:=Zac h0.own
 subst eh
 obtain⟨a1,c1,e1⟩:=hs1.form
 subst e1
 have HR:=hid hr1
 have o1:w1.cell? ⟨w.heap.size,0,none⟩=some (.int .i64 5):=(hB1.cell (p:=⟨w.heap.size,0,none⟩) (World.block_lt_of_cell? _ _ o0)).trans o0
 have h1:=h0.below hB1
 have hB2:Below w.heap.size w w1:=bt hB0 hB1
 rcases h0.se with ⟨hmb,D,hkD,hlv⟩|⟨hnK,hg⟩
 ·have cL:=hlv.lost
  obtain⟨z1,z2⟩:=Zhl h1.tog h1.room h1.n2
  obtain⟨ta,tc,et⟩:=h1.tp.form
  subst et
  obtain⟨-,-,d2,-,-,-,-⟩:=h1.cells
  have hlv1:=hlv.below hB1
  have HS1:=hid hs1
  have HS:=hid hs
  have H1:Hid (∀ W,Below w1.heap.size w1 W->Lw K W B wb x n F (.slice ta qQ.length tc) ov (.slice ah qJ.length ch) qQ orl qK qJ/\Below B w W):=fun W hb=>⟨h1.below hb,(hB2.mono hBw).trans (hb.mono (Nat.le_trans hBw hB2.size))⟩
  have cP:=Zor (.slice ta qQ.length tc) (.slice a1 qJ.length c1) qQ qJ w1 h1.tp hs1 (by omega) (by omega) (fun t ht=>Nat.le_trans (hs t ht) (by omega)) (fun p hp=>(Zbb.of (h1.tog.back p hp)).smallQ)
  obtain⟨qG,fk,fw,fl,fn,g1,g2,g3⟩:=Z6x qQ qJ (fun p hp=>Zbb.of (h1.tog.back p hp)) h1.tog.apart
  have cX:∀ wx,Below w1.heap.size w1 wx->Calls Tryz.prog 26 #[.pointer (some ⟨x,0,none⟩),.slice a1 qJ.length c1] wx fun e w'=>∃ ao co,e=.returned (.tuple #[.slice ao qG.length co,.agg #[.int .i64 fk,.int .i64 fw,.int .i64 fl,.string fn]])/\Za8 w' (.slice ao qG.length co) qG/\Below wx.heap.size wx w':=fun wx hb=>((hlv1.below hb).plan _ qJ (HS1.out.below hb).txts hn HS.out).mono (g2 wx)
  have cP':Calls Tryz.prog 66 #[.slice ta qQ.length tc,.slice a1 qJ.length c1] w1 fun e w'=>∃ a n c ao co,e=.returned (.tuple #[.slice a n c,.slice ao qG.length co,.agg #[.int .i64 fk,.int .i64 fw,.int .i64 fl,.string fn]])/\Za8 w' (.slice ao qG.length co) qG/\Below w1.heap.size w1 w':=cP.mono (g1 w1)
  have hnl:qG.length<=1000000:=by omega
  clear hb0 hr1 hs1 h h0 h1 hB0 hlv hlv1 hs cP g1 g2
  go_enter Tryz.func41,Tryz.ntmps41
  go_wp2_with (first
   | (go_at_call 32;refine cL.mono ?_;rintro e w' ⟨rfl,rfl⟩)
   | (at_builtin;refine Zbr rfl (.const (.slice none 0 0)) (.tmp 66) 43 rfl _ _ _ _ rfl rfl HR.out ?_))
  refine cP'.mono ?_
  rintro e w2 ⟨pa,pn,pc,po,pco,rfl,hw2,hB2'⟩
  clear cP' cL c0 c5 o0 d2 o1
  generalize hA2:w2.alloc (.cells #[.int .i64 fk,.int .i64 fw,.int .i64 fl,.string fn] 34)=A2
  have hBA2:Below w2.heap.size w2 A2:=by rw[<-hA2];exact(Below.refl _ w2).alloc ler _
  have hf2:A2.heap[w2.heap.size]? = some (.cells #[.int .i64 fk,.int .i64 fw,.int .i64 fl,.string fn] 34 (0,0)):=by rw[<-hA2];exact heap_alloc_new w2 _
  have hl2:=(ges.1 hf2).1
  have hB12:Below w1.heap.size w1 A2:=bt hB2' hBA2
  have c0:A2.cell? ⟨wb,0,none⟩=some (.pointer (some ⟨x,0,none⟩)):=(H1.out A2 hB12).1.cells.1
  have HF2:=hid hf2
  have HW2:=hid hw2
  clear hw2 hf2 HR
  go_wp2_with fail
  refine(cX _ hB12).mono ?_
  rintro e w3 ⟨qo,qco,rfl,hw3,hB3⟩
  clear cX
  generalize hA3:w3.alloc (.cells #[.int .i64 fk,.int .i64 fw,.int .i64 fl,.string fn] 23)=A3
  have hBA3:Below w3.heap.size w3 A3:=by rw[<-hA3];exact(Below.refl _ w3).alloc ler _
  have hf3:A3.heap[w3.heap.size]? = some (.cells #[.int .i64 fk,.int .i64 fw,.int .i64 fl,.string fn] 23 (0,0)):=by rw[<-hA3];exact heap_alloc_new w3 _
  have cS:=Zwb (.slice qo qG.length qco) (.slice po qG.length pco) qG A3 (hw3.below hBA3) (((HW2.out.below hBA2).below hB3).below hBA3) hnl
  have HF3:Hid (A3.heap[w3.heap.size]? = some (.cells #[.int .i64 fk,.int .i64 fw,.int .i64 fl,.string fn] 23 (0,0))/\A3.heap[w2.heap.size]? = some (.cells #[.int .i64 fk,.int .i64 fw,.int .i64 fl,.string fn] 34 (0,0))):=
   ⟨hf3,(hBA3.block _ (Nat.lt_of_lt_of_le hl2 hB3.size)).trans ((hB3.block _ hl2).trans HF2.out)⟩
  have hB13:Below w1.heap.size w1 A3:=bt (bt hB12 hB3) hBA3
  have hl3:=(ges.1 hf3).1
  have hl4:=(ges.1 HF3.out.2).1
  clear hw3 hf3 c0
  go_wp2_with fail
  refine cS.mono ?_
  rintro e w4 ⟨rfl,hB4⟩
  clear cS
  have i4:w4.heap[w3.heap.size]? = some (.cells #[.int .i64 fk,.int .i64 fw,.int .i64 fl,.string fn] 23 (0,0)):=(hB4.block _ hl3).trans HF3.out.1
  have j4:w4.heap[w2.heap.size]? = some (.cells #[.int .i64 fk,.int .i64 fw,.int .i64 fl,.string fn] 34 (0,0)):=(hB4.block _ hl4).trans HF3.out.2
  have i40:w4.cell? ⟨w3.heap.size,0,none⟩=some (.int .i64 fk):=(cell_of_row w4 _ 0 _ _ (0,0) i4).trans rfl
  have i41:w4.cell? ⟨w3.heap.size,1,none⟩=some (.int .i64 fw):=(cell_of_row w4 _ 1 _ _ (0,0) i4).trans rfl
  have i42:w4.cell? ⟨w3.heap.size,2,none⟩=some (.int .i64 fl):=(cell_of_row w4 _ 2 _ _ (0,0) i4).trans rfl
  have i43:w4.cell? ⟨w3.heap.size,3,none⟩=some (.string fn):=(cell_of_row w4 _ 3 _ _ (0,0) i4).trans rfl
  have j40:w4.cell? ⟨w2.heap.size,0,none⟩=some (.int .i64 fk):=(cell_of_row w4 _ 0 _ _ (0,0) j4).trans rfl
  have j41:w4.cell? ⟨w2.heap.size,1,none⟩=some (.int .i64 fw):=(cell_of_row w4 _ 1 _ _ (0,0) j4).trans rfl
  have j42:w4.cell? ⟨w2.heap.size,2,none⟩=some (.int .i64 fl):=(cell_of_row w4 _ 2 _ _ (0,0) j4).trans rfl
  have j43:w4.cell? ⟨w2.heap.size,3,none⟩=some (.string fn):=(cell_of_row w4 _ 3 _ _ (0,0) j4).trans rfl
  have cF:=Zfd fk fw fl fn w4
  have hB14:Below w1.heap.size w1 w4:=bt hB13 hB4
  clear i4 j4
  go_wp2_with fail
  refine cF.mono ?_
  rintro e w5 ⟨rfl,hB5⟩
  have HP:Hid _:=H1.out w5 (bt hB14 hB5)
  clear cF
  go_wp2
  go_ret
  exact⟨rfl,HP.out.2,_,_,_,_,_,_,_,HP.out.1⟩
 ·have cL:=hg.lost
  have H0:=hid h0
  have HB:=hid (hB0.mono hBw)
  clear hb0 hr1 hs1 h h0 h1 hB0 hg hB1 HR
  go_enter Tryz.func41,Tryz.ntmps41
  go_wp2_with (first
   | (go_at_call 32;refine cL.mono ?_;rintro e w' ⟨rfl,rfl⟩))
  go_ret
  exact⟨rfl,HB.out,_,_,_,_,_,_,_,H0.out⟩
theorem Z8q{l:List M.Pk}(ht:M.Tog l)(P:List UInt8){e:Ending}{w w':World}(h:Zia l P w e w'):∃ b:Bool,e=.returned (.tuple #[.string ⟨(M.Zfb l P).toArray⟩,.bool b])/\(b=true↔M.Zfb l P≠[])/\Below w.heap.size w w':=by
 obtain⟨hB,⟨p,hp,⟨f,f1,f2⟩,rfl⟩|⟨hf,rfl⟩⟩:=h
 ·have e1:=M.Z4v ht hp (x:=P) (List.any_eq_true.2 ⟨f,f1,by simpa using f2⟩)
  exact⟨true,by rw[e1],by rw[e1];exact⟨fun _=>(Zbb.of (ht.back p hp)).name,fun _=>rfl⟩,hB⟩
 ·have e1:M.Zfb l P=[]:=owner_none (fun p hp=>by
   unfold Zhq
   rw[List.any_eq_false]
   intro f hf' e
   exact hf p hp f hf' (by simpa using e))
  exact⟨false,by rw[e1],by rw[e1];simp,hB⟩
theorem Live.owner{w:World}{F:Nat->Prop}{x n:Nat}{D:M.Dk}{l:List M.Pk}(h:Live w F x n D l)(S:ByteArray):Calls Tryz.prog 53 #[.pointer (some ⟨x,0,none⟩),.string S] w (Zia l S.data.toList w):=by
 obtain⟨d,s,k,b,qY,hv,sv,lv,h1,h3⟩:=h
 exact Z1p x d s k b S l w h1.sess h1.store h1.set h1.reads
theorem Zxp{K:Prop}{w:World}{B wb x n:Nat}{F:Nat->Prop}{tv ov hv:Value}{qQ orl:List M.Pk}{qK:Bool}{qJ:List ByteArray}(h:Lw K w B wb x n F tv ov hv qQ orl qK qJ)(A B':Int)(S:ByteArray)(hn:qJ.length<=1000000):
 Calls Tryz.prog 41 #[.pointer (some ⟨wb,0,none⟩),.agg #[.int .i64 7,.int .i64 A,.int .i64 B',.string S]] w (Zh9 K w B wb x n qJ):=by
 generalize hA:w.alloc (.cells #[.int .i64 7,.int .i64 A,.int .i64 B',.string S] 81)=A0
 have hB0:Below w.heap.size w A0:=by rw[<-hA];exact(Below.refl _ w).alloc ler _
 have hb0:A0.heap[w.heap.size]? = some (.cells #[.int .i64 7,.int .i64 A,.int .i64 B',.string S] 81 (0,0)):=by rw[<-hA];exact heap_alloc_new w _
 have o0:A0.cell? ⟨w.heap.size,0,none⟩=some (.int .i64 7):=(cell_of_row A0 _ 0 _ _ (0,0) hb0).trans rfl
 have o3':A0.cell? ⟨w.heap.size,3,none⟩=some (.string S):=(cell_of_row A0 _ 3 _ _ (0,0) hb0).trans rfl
 have h0:=h.below hB0
 have hBw:B<=w.heap.size:=by have:=h.lt;have:=h.wB;omega
 obtain⟨c0,-,-,-,-,c5,-⟩:=h0.cells
 obtain⟨v1,w1,hr1,hs1,hB1⟩:=Zep 43 B hv qJ h0.own (by omega)
 obtain⟨ah,ch,eh⟩:=Zac h0.own
 subst eh
 obtain⟨a1,c1,e1⟩:=hs1.form
 subst e1
 have HR:=hid hr1
 have o1:w1.cell? ⟨w.heap.size,0,none⟩=some (.int .i64 7):=(hB1.cell (p:=⟨w.heap.size,0,none⟩) (World.block_lt_of_cell? _ _ o0)).trans o0
 have o3:w1.cell? ⟨w.heap.size,3,none⟩=some (.string S):=(hB1.cell (p:=⟨w.heap.size,3,none⟩) (World.block_lt_of_cell? _ _ o3')).trans o3'
 have h1:=h0.below hB1
 have hB2:Below w.heap.size w w1:=bt hB0 hB1
 rcases h0.se with ⟨hmb,D,hkD,hlv⟩|⟨hnK,hg⟩
 ·have cL:=hlv.lost
  obtain⟨z1,z2⟩:=Zhl h1.tog h1.room h1.n2
  obtain⟨d0,-,d2,-,-,-,-⟩:=h1.cells
  have hlv1:=hlv.below hB1
  obtain⟨ta,tc,et⟩:=h1.tp.form
  subst et
  have hbd:Below w1.heap.size w1 w1.drew:=Zae w1 1
  have cO:=((hlv1.below hbd).owner S).mono (fun e w' hp=>Z8q h1.tog S.data.toList hp)
  have cW:=fun wx (hb:Below w1.heap.size w1 wx)=>(Z5h (.slice ta qQ.length tc) qQ S wx (h1.tp.below hb) (by omega) (fun p hp=>(Zbb.of (h1.tog.back p hp)).smallQ.1)).mono (fun e w' (hp:∃ T:ByteArray,_/\_/\_)=>(by
   obtain⟨T,g1,g2,g3⟩:=hp
   exact⟨by rw[g1,Zjb g2],g3⟩:e=.returned (.string ⟨(M.Zfb qQ S.data.toList).toArray⟩)/\Below wx.heap.size wx w'))
  have H1:Hid (∀ W,Below w1.heap.size w1 W->Lw K W B wb x n F (.slice ta qQ.length tc) ov (.slice ah qJ.length ch) qQ orl qK qJ/\Below B w W/\W.cell? ⟨w.heap.size,3,none⟩=some (.string S)):=fun W hb=>⟨h1.below hb,(hB2.mono hBw).trans (hb.mono (Nat.le_trans hBw hB2.size)),(hb.cell (p:=⟨w.heap.size,3,none⟩) (World.block_lt_of_cell? _ _ o3)).trans o3⟩
  have hPT:∀ b:Bool,(b=true↔M.Zfb qQ S.data.toList≠[])->((⟨(M.Zfb qQ S.data.toList).toArray⟩:ByteArray).toList == []) = !b:=fun b hb=>by
   rw[Lib.toList_data]
   cases b with
   | true=>
    have:=hb.1 rfl
    simpa using this
   | false=>
    have:M.Zfb qQ S.data.toList=[]:=Classical.byContradiction fun e=>by have:=hb.2 e;cases this
    rw[this]
    rfl
  have cO2:Calls Tryz.prog 53 #[.pointer (some ⟨x,0,none⟩),.string S] w1.drew fun e w'=>∃ b:Bool,e=.returned (.tuple #[.string ⟨(M.Zfb qQ S.data.toList).toArray⟩,.bool b])/\((⟨(M.Zfb qQ S.data.toList).toArray⟩:ByteArray).toList == []) = !b/\Below w1.drew.heap.size w1.drew w':=cO.mono (fun e w' hp=>by
   obtain⟨b,g1,g2,g3⟩:=hp
   exact⟨b,g1,hPT b g2,g3⟩)
  generalize (⟨(M.Zfb qQ S.data.toList).toArray⟩:ByteArray)=T at cO2 cW
  clear cO hPT
  clear hb0 hr1 hs1 h h0 h1 hB0 hlv hlv1
  go_enter Tryz.func41,Tryz.ntmps41
  go_wp2_with (first
   | (go_at_call 32;refine cL.mono ?_;rintro e w' ⟨rfl,rfl⟩)
   | (at_builtin;refine Zbr rfl (.const (.slice none 0 0)) (.tmp 66) 43 rfl _ _ _ _ rfl rfl HR.out ?_))
  go_region_with (go_at_call 53;refine cO2.mono ?_;rintro e w2 ⟨b,rfl,hTb,hB3⟩)
  all_goals
   have hB4:Below w1.heap.size w1 w2:=bt hbd hB3
   obtain⟨-,-,e2,-,-,-,-⟩:=(H1.out w2 hB4).1.cells
   have e3:=(H1.out w2 hB4).2.2
   have hB5:Below w1.heap.size w1 w2.drew:=bt hB4 (Zae w2 1)
   go_wp2
   go_region_with (go_at_call 68;refine(cW _ hB5).mono ?_;rintro e w3 ⟨rfl,hB6⟩)
   all_goals
    have HP:Hid _:=H1.out w3 (bt hB5 hB6)
    cases b with
    | true=>
     have hTb2:(T.toList == [])=false:=hTb
     go_wp2
     go_ret
     exact⟨rfl,HP.out.2.1,_,_,_,_,_,_,_,HP.out.1⟩
    | false=>
     have hTb2:(T.toList == [])=true:=hTb
     go_wp2
     go_ret
     exact⟨rfl,HP.out.2.1,_,_,_,_,_,_,_,HP.out.1⟩
 ·have cL:=hg.lost
  have H0:=hid h0
  have HB:=hid (hB0.mono hBw)
  clear hb0 hr1 hs1 h h0 h1 hB0 hg hB1 HR
  go_enter Tryz.func41,Tryz.ntmps41
  go_wp2_with (first
   | (go_at_call 32;refine cL.mono ?_;rintro e w' ⟨rfl,rfl⟩))
  go_ret
  exact⟨rfl,HB.out,_,_,_,_,_,_,_,H0.out⟩
theorem Z8s{K:Prop}{w:World}{n:Nat}{ops:List OpD}{wb k:Nat}{W:World}(hk:k<ops.length)(h8:ops.length+bytesOf ops<=8192)(h:Zns K w n ops wb k W)(hkd:ops[k].kind=5\/ops[k].kind=7\/ops[k].kind=8):
 Calls Tryz.prog 41 #[.pointer (some ⟨wb,0,none⟩),opV ops[k]] W fun e W'=>e=.returned (.bool true)/\Zns K w n ops wb (k+1) W':=by
 obtain⟨x,F,tv,ov,hv,qQ,orl,qK,qJ,hw,hB,hl,hkk,hs⟩:=h
 unfold opV
 generalize ops[k].kind=J at hkd
 rcases hkd with rfl|rfl|rfl
 ·exact(Z29 hw _ _ _ (by omega) hs).mono fun e W' hp=>Zns.next hp hB (by omega) hk hs
 ·exact(Zxp hw _ _ _ (by omega)).mono fun e W' hp=>Zns.next hp hB (by omega) hk hs
 ·exact(Z1v hw _ _ _ (by omega)).mono fun e W' hp=>Zns.next hp hB (by omega) hk hs
theorem Yda{w:World}{n:Nat}{ops:List OpD}{wb k:Nat}{W:World}(h:Zns True w n ops wb k W):Calls Tryz.prog 43 #[.pointer (some ⟨wb,0,none⟩)] W fun e W'=>e=.returned (.bool true)/\Below w.heap.size w W':=by
 obtain⟨x,F,tv,ov,hv,qQ,orl,qK,qJ,hw,hB,_⟩:=h
 rcases hw.se with ⟨_,D,_,hl⟩|⟨hn,_⟩
 ·have c:=Zo6 hw.blk hl hw.tp hw.tog (Zhl hw.tog hw.room hw.n2).1
  rw[decide_eq_true rfl] at c
  exact c.mono fun e W' hp=>⟨hp.1,bt hB hp.2⟩
 ·exact absurd trivial hn
end Go.Proofs.YtgnfknjopafngaaGreatDoor
namespace Go.Proofs.YtgnfknjopafngaaGreatDoor
open Go.ChangeShapes Go.WideShapes Go.Deep
theorem Zp4{H:Type}{P:Program}{e:TypeId}:∀ {l:List (DataW H)} {i:Nat} {d:DataW H},l[i]? = some d->∀ n∈d.weights P e,n∈DataW.weightsAll P e l
 | d0 :: l,0,d,h,n,hn=>by
  simp only[List.getElem?_cons_zero,Option.some.injEq] at h
  subst h
  simp only[DataW.weightsAll,List.mem_append]
  exact .inl hn
 | d0 :: l,i+1,d,h,n,hn=>by
  simp only[List.getElem?_cons_succ] at h
  simp only[DataW.weightsAll,List.mem_append]
  exact .inr (Zp4 h n hn)
 | [],i,d,h,_,_=>by simp at h
theorem Z54{w:World}{a:Addr}{v:Value}(h:w.cell? a=some v):a.spot=none:=by
 unfold World.cell? at h
 split at h
 ·split at h
  ·cases h
  ·rename_i h1;simpa using h1
 ·cases h
theorem addr_add{b o:Nat}(i:Nat):(⟨b,o,none⟩:Addr).add i=⟨b,o+i,none⟩:=by
 unfold Addr.add
 by_cases h:i=0
 ·simp[h]
 ·simp[h]
end Go.Proofs.YtgnfknjopafngaaGreatDoor
