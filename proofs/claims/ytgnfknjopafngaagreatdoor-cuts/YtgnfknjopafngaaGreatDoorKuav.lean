import Derived.Test.YtgnfknjopafngaaGreatDoorKuau
import Derived.Deep.Strs
import Derived.SizedLaws
import Derived.Carry
set_option maxRecDepth 100000
set_option maxHeartbeats 8000000
namespace Go.Proofs.YtgnfknjopafngaaGreatDoor
open Go.RowKit Go.Maps
theorem Zte{K:Prop}{w:World}{B wb x n:Nat}{F:Nat->Prop}{tv ov hv:Value}{qQ orl:List M.Pk}{qK:Bool}{qJ:List ByteArray}(h:Lw K w B wb x n F tv ov hv qQ orl qK qJ)(A B':Int)(S:ByteArray)(hn:qJ.length<=10000)(hs:∀ t∈qJ,t.size<=8192):
 Calls Tryz.prog 41 #[.pointer (some ⟨wb,0,none⟩),.agg #[.int .i64 3,.int .i64 A,.int .i64 B',.string S]] w (Zh9 K w B wb x n qJ):=by
 generalize hA:w.alloc (.cells #[.int .i64 3,.int .i64 A,.int .i64 B',.string S] 81)=A0
 have hB0:Below w.heap.size w A0:=by rw[<-hA];exact(Below.refl _ w).alloc ler _
 have hb0:A0.heap[w.heap.size]? = some (.cells #[.int .i64 3,.int .i64 A,.int .i64 B',.string S] 81 (0,0)):=by rw[<-hA];exact heap_alloc_new w _
 have o0:A0.cell? ⟨w.heap.size,0,none⟩=some (.int .i64 3):=(cell_of_row A0 _ 0 _ _ (0,0) hb0).trans rfl
 have h0:=h.below hB0
 have hBw:B<=w.heap.size:=by have:=h.lt;have:=h.wB;omega
 obtain⟨c0,-,-,-,-,c5,-⟩:=h0.cells
 obtain⟨v1,w1,hr1,hs1,hB1⟩:=Zep 43 B hv qJ h0.own (by omega)
 obtain⟨ah,ch,eh⟩:=Zac h0.own
 subst eh
 obtain⟨a1,c1,e1⟩:=hs1.form
 subst e1
 have HR:=hid hr1
 have o1:w1.cell? ⟨w.heap.size,0,none⟩=some (.int .i64 3):=(hB1.cell (p:=⟨w.heap.size,0,none⟩) (World.block_lt_of_cell? _ _ o0)).trans o0
 have h1:=h0.below hB1
 have hB2:Below w.heap.size w w1:=bt hB0 hB1
 rcases h0.se with ⟨hmb,D,hkD,hlv⟩|⟨hnK,hg⟩
 ·have cL:=hlv.lost
  have cS:=(Zos h1 (hlv.below hB1) hkD a1 c1 hs1 hn hs).mono (fun e W hp=>hp.from (hB2.mono hBw))
  clear hb0 hr1 hs1 h h0 h1 hB0 hlv hB1 hs hkD
  go_enter Tryz.func41,Tryz.ntmps41
  go_wp2_with (first
   | (go_at_call 32;refine cL.mono ?_;rintro e w' ⟨rfl,rfl⟩)
   | (at_builtin;refine Zbr rfl (.const (.slice none 0 0)) (.tmp 66) 43 rfl _ _ _ _ rfl rfl HR.out ?_))
  refine cS.mono ?_
  rintro e w2 ⟨rfl,hp1,hp2⟩
  have HP:Hid (Below B w w2/\∃ F tv ov hv qQ orl qK,Lw K w2 B wb x n F tv ov hv qQ orl qK qJ):=⟨hp1,hp2⟩
  clear cS hp1 hp2 cL
  go_wp2
  go_ret
  exact⟨rfl,HP.out.1,HP.out.2⟩
 ·have cL:=hg.lost
  have H0:=hid h0
  have HB:=hid (hB0.mono hBw)
  clear hb0 hr1 hs1 h h0 h1 hB0 hg hB1 HR hs
  go_enter Tryz.func41,Tryz.ntmps41
  go_wp2_with (first
   | (go_at_call 32;refine cL.mono ?_;rintro e w' ⟨rfl,rfl⟩))
  go_ret
  exact⟨rfl,HB.out,_,_,_,_,_,_,_,H0.out⟩
theorem Zua{K:Prop}{w:World}{B wb x n:Nat}{F:Nat->Prop}{tv ov hv:Value}{qQ orl:List M.Pk}{qK:Bool}{qJ:List ByteArray}(h:Lw K w B wb x n F tv ov hv qQ orl qK qJ)(A B':Int)(S:ByteArray)(hn:qJ.length<=10000)(hs:∀ t∈qJ,t.size<=8192):
 Calls Tryz.prog 41 #[.pointer (some ⟨wb,0,none⟩),.agg #[.int .i64 4,.int .i64 A,.int .i64 B',.string S]] w (Zh9 K w B wb x n qJ):=by
 generalize hA:w.alloc (.cells #[.int .i64 4,.int .i64 A,.int .i64 B',.string S] 81)=A0
 have hB0:Below w.heap.size w A0:=by rw[<-hA];exact(Below.refl _ w).alloc ler _
 have hb0:A0.heap[w.heap.size]? = some (.cells #[.int .i64 4,.int .i64 A,.int .i64 B',.string S] 81 (0,0)):=by rw[<-hA];exact heap_alloc_new w _
 have o0:A0.cell? ⟨w.heap.size,0,none⟩=some (.int .i64 4):=(cell_of_row A0 _ 0 _ _ (0,0) hb0).trans rfl
 have h0:=h.below hB0
 have hBw:B<=w.heap.size:=by have:=h.lt;have:=h.wB;omega
 obtain⟨c0,-,-,-,-,c5,-⟩:=h0.cells
 obtain⟨v1,w1,hr1,hs1,hB1⟩:=Zep 43 B hv qJ h0.own (by omega)
 obtain⟨ah,ch,eh⟩:=Zac h0.own
 subst eh
 obtain⟨a1,c1,e1⟩:=hs1.form
 subst e1
 have HR:=hid hr1
 have o1:w1.cell? ⟨w.heap.size,0,none⟩=some (.int .i64 4):=(hB1.cell (p:=⟨w.heap.size,0,none⟩) (World.block_lt_of_cell? _ _ o0)).trans o0
 have h1:=h0.below hB1
 have hB2:Below w.heap.size w w1:=bt hB0 hB1
 rcases h0.se with ⟨hmb,D,hkD,hlv⟩|⟨hnK,hg⟩
 ·have cL:=hlv.lost
  have cS:=(Zqg h1 (hlv.below hB1) hkD a1 c1 hs1 hn hs).mono (fun e W hp=>hp.from (hB2.mono hBw))
  clear hb0 hr1 hs1 h h0 h1 hB0 hlv hB1 hs hkD
  go_enter Tryz.func41,Tryz.ntmps41
  go_wp2_with (first
   | (go_at_call 32;refine cL.mono ?_;rintro e w' ⟨rfl,rfl⟩)
   | (at_builtin;refine Zbr rfl (.const (.slice none 0 0)) (.tmp 66) 43 rfl _ _ _ _ rfl rfl HR.out ?_))
  refine cS.mono ?_
  rintro e w2 ⟨rfl,hp1,hp2⟩
  have HP:Hid (Below B w w2/\∃ F tv ov hv qQ orl qK,Lw K w2 B wb x n F tv ov hv qQ orl qK qJ):=⟨hp1,hp2⟩
  clear cS hp1 hp2 cL
  go_wp2
  go_ret
  exact⟨rfl,HP.out.1,HP.out.2⟩
 ·have cL:=hg.lost
  have H0:=hid h0
  have HB:=hid (hB0.mono hBw)
  clear hb0 hr1 hs1 h h0 h1 hB0 hg hB1 HR hs
  go_enter Tryz.func41,Tryz.ntmps41
  go_wp2_with (first
   | (go_at_call 32;refine cL.mono ?_;rintro e w' ⟨rfl,rfl⟩))
  go_ret
  exact⟨rfl,HB.out,_,_,_,_,_,_,_,H0.out⟩
def Zns(K:Prop)(w:World)(n:Nat)(ops:List OpD)(wb k:Nat)(W:World):Prop:=∃ x F tv ov hv qQ orl qK qJ,Lw K W w.heap.size wb x n F tv ov hv qQ orl qK qJ/\Below w.heap.size w W/\qJ.length<=k/\k<=ops.length/\∀ t∈qJ,t.size<=8192
theorem Z62{ops:List OpD}(h:ops.length+bytesOf ops<=8192){k:Nat}(hk:k<ops.length):ops[k].s.size<=8192:=by
 have h1:=Zrf hk
 have h2:=Zli ops (k+1)
 omega
def LNew(w:World)(n x:Nat)(w1:World):Prop:=∃ F D,Live w1 F x n D []/\M.Zfl D/\(∀ j,F j->w.heap.size<=j)/\Below w.heap.size w w1
theorem Z9n(s:Int)(w w1:World)(hb:Below w.heap.size w w1)(hR:Ready w):Calls Tryz.prog 20 #[.int .i64 s] w1 fun e w'=>∃ x,e=.returned (.tuple #[.pointer (some ⟨x,0,none⟩),okV])/\LNew w (Zb5 s) x w':=by
 refine(Z7j s w1 (hR.below hb)).mono ?_
 rintro e w' ⟨x,d,s,k,b,hv,sv,rfl,h1,h2,h3⟩
 exact⟨x,rfl,Zpr x d s k hv sv (.slice none 0 0),_,⟨d,s,k,b,0,hv,sv,_,h1,fun j=>Iff.rfl⟩,⟨rfl,rfl⟩,fun j hj=>Nat.le_trans hb.size (h2 j hj),bt hb h3⟩
theorem Z1z{K:Prop}{w w1 W0:World}{ops:List OpD}{x n:Nat}(h:LNew w n x w1)(hR:Ready w)(hb:Below w1.heap.size w1 W0):Zns K w n ops W0.heap.size 0 (W0.alloc (.cells #[.pointer (some ⟨x,0,none⟩),.int .i64 n,.slice none 0 0,.slice none 0 0,.bool false,.slice none 0 0] 79)):=by
 obtain⟨F,D,h1,h2,h3,h4⟩:=h
 have hB2:Below W0.heap.size W0 (W0.alloc (.cells #[.pointer (some ⟨x,0,none⟩),.int .i64 n,.slice none 0 0,.slice none 0 0,.bool false,.slice none 0 0] 79)):=(Below.refl _ W0).alloc ler _
 have hB3:=bt hb hB2
 have hl:=h1.below hB3
 have hl2:=hl
 obtain⟨d,s,k,b,qY,hv,sv,lv,g1,g2⟩:=hl2
 have hsz:=h4.size
 have hsz2:=hb.size
 refine⟨x,F,.slice none 0 0,.slice none 0 0,.slice none 0 0,[],[],false,[],⟨⟨.inl ⟨rfl,D,fun _=>h2,hl⟩,Zbc.none _,fun h0=>absurd rfl h0,Zbc.none _,fun h0=>absurd rfl h0,g1.tog,g1.room,g1.tog,g1.room,g1.n1,g1.n2,h3⟩,heap_alloc_new W0 _,World.ownsRow_nil _ _ _ _,fun _=>rfl,by omega,hR.lt⟩,bt h4 hB3,Nat.le_refl _,Nat.zero_le _,fun t ht=>by cases ht⟩
theorem Zns.next{K:Prop}{w W W':World}{n wb k x:Nat}{ops:List OpD}{qJ:List ByteArray}{e:Ending}(hp:Zh9 K W w.heap.size wb x n qJ e W')(hB:Below w.heap.size w W)(hl:qJ.length<=k+1)(hk:k<ops.length)(hs:∀ t∈qJ,t.size<=8192):e=.returned (.bool true)/\Zns K w n ops wb (k+1) W':=by
 obtain⟨he,h1,F,tv,ov,hv,qQ,orl,qK,h2⟩:=hp
 exact⟨he,x,F,tv,ov,hv,qQ,orl,qK,qJ,h2,hB.trans h1,hl,hk,hs⟩
theorem Yaq{K:Prop}{w:World}{n:Nat}{ops:List OpD}{wb k:Nat}{W:World}(hk:k<ops.length)(h8:ops.length+bytesOf ops<=8192)(h:Zns K w n ops wb k W)(hkd:ops[k].kind=1\/ops[k].kind=2\/ops[k].kind=3\/ops[k].kind=4\/ops[k].kind=6):
 Calls Tryz.prog 41 #[.pointer (some ⟨wb,0,none⟩),opV ops[k]] W fun e W'=>e=.returned (.bool true)/\Zns K w n ops wb (k+1) W':=by
 obtain⟨x,F,tv,ov,hv,qQ,orl,qK,qJ,hw,hB,hl,hkk,hs⟩:=h
 unfold opV
 have hsz:=Z62 h8 hk
 have hS:∀ t∈qJ++[ops[k].s],t.size<=8192:=fun t ht=>by
  rcases List.mem_append.1 ht with ht|ht
  ·exact hs t ht
  ·rw[List.mem_singleton.1 ht];exact hsz
 generalize ops[k].kind=J at hkd
 generalize ops[k].s=S at hS
 rcases hkd with rfl|rfl|rfl|rfl|rfl
 ·exact(Z25 hw _ _ S (by omega)).mono fun e W' hp=>Zns.next hp hB (by rw[List.length_append];exact Nat.succ_le_succ hl) hk hS
 ·exact(Zyb hw _ _ S).mono fun e W' hp=>Zns.next hp hB (Nat.zero_le _) hk (fun t ht=>by cases ht)
 ·exact(Zte hw _ _ S (by omega) hs).mono fun e W' hp=>Zns.next hp hB (by omega) hk hs
 ·exact(Zua hw _ _ S (by omega) hs).mono fun e W' hp=>Zns.next hp hB (by omega) hk hs
 ·exact(Z2d hw _ _ S (by omega)).mono fun e W' hp=>Zns.next hp hB (by omega) hk hs
theorem Ydd{W W':World}{kv:Value}{kl:List Int}(h:Yde W kv kl)(hb:Below W.heap.size W W'):Yde W' kv kl:=by
 obtain⟨g,e,hc⟩:=h
 exact⟨g,e,fun j hj=>(hb.cell (p:=⟨g,j,none⟩) (World.block_lt_of_cell? _ _ (hc j hj))).trans (hc j hj)⟩
theorem Ydb{K:Prop}(sectors:Int)(ov kv:Value)(ops:List OpD)(kl:List Int)(w:World)(hR:Ready w)(ho:Zql w ov ops)(hos:∀ o∈ops,o.s.size<=1000000000000000000)(hk:Yde w kv kl)(hkl:0<kl.length)(hkm:kl.length<=100)
 (hStep:∀ wb k W (h:k<ops.length),ops.length+bytesOf ops<=8192->Zns K w (Zb5 sectors) ops wb k W->ops[k].kind=1\/ops[k].kind=2\/ops[k].kind∈kl->Calls Tryz.prog 41 #[.pointer (some ⟨wb,0,none⟩),opV ops[k]] W fun e W'=>e=.returned (.bool true)/\Zns K w (Zb5 sectors) ops wb (k+1) W')
 (hFin:(kl[kl.length-1]'(by omega)=10/\∀ wb W,Zns K w (Zb5 sectors) ops wb ops.length W->Calls Tryz.prog 42 #[.pointer (some ⟨wb,0,none⟩),.int .i64 (-1),.int .i64 (-1)] W fun e W'=>e=.returned (.bool true)/\Below w.heap.size w W') \/
   (kl[kl.length-1]'(by omega)≠10/\kl.length≠1/\∀ wb W,Zns K w (Zb5 sectors) ops wb ops.length W->Calls Tryz.prog 43 #[.pointer (some ⟨wb,0,none⟩)] W fun e W'=>e=.returned (.bool true)/\Below w.heap.size w W')):
 Calls Tryz.prog 17 #[.int .i64 sectors,ov,kv] w fun e W'=>e=.returned (.bool true)/\Below w.heap.size w W':=by
 refine Ydc sectors ov kv ops kl w (LNew w (Zb5 sectors)) (Zns K w (Zb5 sectors) ops) ho hos hk hkl hkm (fun w1 hb=>Z9n sectors w w1 hb hR) (fun x w1 W0 h hb _=>Z1z h hR hb) (fun wb k W h=>?_) (fun wb k W hlt h8 h hal=>hStep wb k W hlt h8 h ?_) (fun wb k W hlt h _=>?_) ?_
 ·obtain⟨x,F,tv,ov',hv,qQ,orl,qK,qJ,hw,hB,_⟩:=h
  exact⟨ho.below hB,Ydd hk hB,hB⟩
 ·unfold allowed at hal
  simp only[Bool.or_eq_true,decide_eq_true_eq,List.any_eq_true] at hal
  rcases hal with (e|e)|⟨y,hy,e⟩
  ·exact .inl e
  ·exact .inr (.inl e)
  ·exact .inr (.inr (by rw[e];exact hy))
 ·obtain⟨x,F,tv,ov',hv,qQ,orl,qK,qJ,hw,hB,h1,h2,h3⟩:=h
  exact⟨x,F,tv,ov',hv,qQ,orl,qK,qJ,hw,hB,by omega,hlt,h3⟩
 ·rcases hFin with h1|h1
  ·exact .inl h1
  ·exact .inr (.inr h1)
theorem Yax{K:Prop}{w:World}{n:Nat}{ops:List OpD}{wb k:Nat}{W:World}(hk:k<ops.length)(h:Zns K w n ops wb k W)(ha:ops[k].a<=9223372036854775807)(hb:ops[k].b<=9223372036854775807)(hK:¬ K)(hkd:ops[k].kind=9\/ops[k].kind=10):
 Calls Tryz.prog 41 #[.pointer (some ⟨wb,0,none⟩),opV ops[k]] W fun e W'=>e=.returned (.bool true)/\Zns K w n ops wb (k+1) W':=by
 obtain⟨x,F,tv,ov,hv,qQ,orl,qK,qJ,hw,hB,hl,hkk,hs⟩:=h
 unfold opV
 generalize ops[k].kind=J at hkd
 rcases hkd with rfl|rfl
 ·exact(Zvi hw _ _ _ hb hK).mono fun e W' hp=>Zns.next hp hB (by omega) hk hs
 ·exact(Z7c hw _ _ _ ha hK).mono fun e W' hp=>Zns.next hp hB (by omega) hk hs
theorem Zvk{w:World}{n:Nat}{ops:List OpD}{wb k:Nat}{W:World}(h:Zns False w n ops wb k W):Calls Tryz.prog 42 #[.pointer (some ⟨wb,0,none⟩),.int .i64 (-1),.int .i64 (-1)] W fun e W'=>e=.returned (.bool true)/\Below w.heap.size w W':=by
 obtain⟨x,F,tv,ov,hv,qQ,orl,qK,qJ,hw,hB,_⟩:=h
 exact(Zpf hw (-1) (-1) (by omega) (fun h=>h)).mono fun e W' hp=>⟨hp.1,hB.trans hp.2.1⟩
end Go.Proofs.YtgnfknjopafngaaGreatDoor
namespace Go.Proofs.YtgnfknjopafngaaGreatDoor
open Go.ChangeShapes Go.WideShapes Go.Deep
theorem Zp4{H:Type}{P:Program}{e:TypeId}:∀ {l:List (DataW H)} {i:Nat} {d:DataW H},l[i]? = some d->∀ n∈d.weights P e,n∈DataW.weightsAll P e l
 | d0 :: l,0,d,h,n,hn=>by
  simp only[List.getElem?_cons_zero,Option.some.injEq] at h
  subst h
  simp only[DataW.weightsAll,List.mem_append]
  exact .inl hn
 | d0 :: l,i+1,d,h,n,hn=>by
  simp only[List.getElem?_cons_succ] at h
  simp only[DataW.weightsAll,List.mem_append]
  exact .inr (Zp4 h n hn)
 | [],i,d,h,_,_=>by simp at h
theorem Z54{w:World}{a:Addr}{v:Value}(h:w.cell? a=some v):a.spot=none:=by
 unfold World.cell? at h
 split at h
 ·split at h
  ·cases h
  ·rename_i h1;simpa using h1
 ·cases h
theorem addr_add{b o:Nat}(i:Nat):(⟨b,o,none⟩:Addr).add i=⟨b,o+i,none⟩:=by
 unfold Addr.add
 by_cases h:i=0
 ·simp[h]
 ·simp[h]
end Go.Proofs.YtgnfknjopafngaaGreatDoor
