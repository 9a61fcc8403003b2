import Derived.Test.YtgnfknjopafngabGreatDoorKaaa
set_option maxRecDepth 100000
set_option maxHeartbeats 4000000
namespace Go.Proofs.YtgnfknjopafngabGreatDoor
open Go.RowKit
theorem Zcd{H:ByteArray}{l:List UInt8}(h:H.data.toList=l):Zbe l=.string H:=by subst h;exact(Ztg H).symm
theorem Zgw(p:M.Pk)(N V:ByteArray)(w:World)(an ab af:Option Addr)(cn cb cf:Nat):
 One w ((w.alloc (.cells #[.string N,.string V,.slice an p.needs.length cn,.slice ab p.bars.length cb,.slice af p.files.length cf] 87)).alloc (.cells #[.string (⟨#[112,97,99,107,97,103,101,32]⟩++N++⟨#[32]⟩++V)] 9)) (.slice an p.needs.length cn) (.slice ab p.bars.length cb) (.slice af p.files.length cf)/\
 ((w.alloc (.cells #[.string N,.string V,.slice an p.needs.length cn,.slice ab p.bars.length cb,.slice af p.files.length cf] 87)).alloc (.cells #[.string (⟨#[112,97,99,107,97,103,101,32]⟩++N++⟨#[32]⟩++V)] 9)).ownsRow (w.heap.size+1) 9 1 (.slice (some ⟨w.heap.size+1,0,none⟩) 1 1) 1 [.string (⟨#[112,97,99,107,97,103,101,32]⟩++N++⟨#[32]⟩++V)]:=by
 constructor
 ·obtain⟨a1,a2,a3,_⟩:=Zme w [.string N,.string V,.slice an p.needs.length cn,.slice ab p.bars.length cb,.slice af p.files.length cf] 87 0
  have h0:One w (w.alloc (.cells #[.string N,.string V,.slice an p.needs.length cn,.slice ab p.bars.length cb,.slice af p.files.length cf] 87)) (.slice an p.needs.length cn) (.slice ab p.bars.length cb) (.slice af p.files.length cf):=
   ⟨a1,a3 2 _ rfl,a3 3 _ rfl,a3 4 _ rfl,by rw[show (w.alloc (.cells #[.string N,.string V,.slice an p.needs.length cn,.slice ab p.bars.length cb,.slice af p.files.length cf] 87)).heap.size=w.heap.size+1 from a2];omega⟩
  exact h0.below ((Below.refl _ _).alloc ler _)
 ·obtain⟨_,a2,_,_⟩:=Zme w [.string N,.string V,.slice an p.needs.length cn,.slice ab p.bars.length cb,.slice af p.files.length cf] 87 0
  have a2':(w.alloc (.cells #[.string N,.string V,.slice an p.needs.length cn,.slice ab p.bars.length cb,.slice af p.files.length cf] 87)).heap.size=w.heap.size+1:=a2
  have:=Ybg (w.alloc (.cells #[.string N,.string V,.slice an p.needs.length cn,.slice ab p.bars.length cb,.slice af p.files.length cf] 87)) (w.heap.size+1) (.string (⟨#[112,97,99,107,97,103,101,32]⟩++N++⟨#[32]⟩++V)) 9 (by rw[a2'];exact Nat.le_refl _)
  rw[a2'] at this
  exact this
structure Zud (p:M.Pk) (N V:ByteArray) (w:World) (an ab af:Option Addr) (cn cb cf:Nat):Prop where
 HN:Hid (N.data.toList=p.name)
 HV:Hid (V.data.toList=p.ver)
 hNs:N.size<=100000
 hVs:V.size<=100000
 HP:Hid (Zgv p)
 hn:Hid (Za9 w 0 w.heap.size (.slice an p.needs.length cn) p.needs)
 hb:Hid (Zas w 0 w.heap.size (.slice ab p.bars.length cb) p.bars.length (Zak p.bars))
 hf:Hid (Zas w 0 w.heap.size (.slice af p.files.length cf) p.files.length (Zaf p.files))
def Zi4(p:M.Pk)(N V:ByteArray)(w:World)(an ab af:Option Addr)(cn cb cf:Nat):Prop:=
 Calls Tryz.prog 34 #[.agg #[.string N,.string V,.slice an p.needs.length cn,.slice ab p.bars.length cb,.slice af p.files.length cf]] w fun e w'=>∃ T:ByteArray,e=.returned (.string T)/\T.data.toList=M.Zaz p/\Below w.heap.size w w'
theorem Znm{p:M.Pk}(z:¬ (0:Int)<(p.needs.length:Int)):Hid (Zan p=[]):=by
 show _ = _
 unfold Zan
 rw[if_pos (List.length_eq_zero_iff.1 (by omega))]
theorem Zk4{p:M.Pk}(z:(0:Int)<(p.needs.length:Int)):Hid (Zan p=[M.Zbi++M.Zal [44,32] (p.needs.map (M.Zab [32,124,32]))]):=by
 show _ = _
 unfold Zan
 rw[if_neg (by intro e;rw[e] at z;simp at z)]
theorem Ztz{p:M.Pk}(z:¬ (0:Int)<(p.bars.length:Int)):Hid (Zau p=[]):=by
 show _ = _
 unfold Zau
 rw[if_pos (List.length_eq_zero_iff.1 (by omega))]
theorem Znj{p:M.Pk}(z:(0:Int)<(p.bars.length:Int)):Hid (Zau p=[M.Zcr++M.Zab [44,32] p.bars]):=by
 show _ = _
 unfold Zau
 rw[if_neg (by intro e;rw[e] at z;simp at z)]
theorem Znt{p:M.Pk}(z:¬ (0:Int)<(p.files.length:Int)):Hid (Zam p=[]):=by
 show _ = _
 unfold Zam
 rw[if_pos (List.length_eq_zero_iff.1 (by omega))]
theorem Zla{p:M.Pk}(z:(0:Int)<(p.files.length:Int)):Hid (Zam p=[M.Zal [10] (p.files.map Zcf)]):=by
 show _ = _
 unfold Zam
 rw[if_neg (by intro e;rw[e] at z;simp at z)]
theorem Zyf{p:M.Pk}{N V:ByteArray}{w:World}{an ab af:Option Addr}{cn cb cf:Nat}(h:Zud p N V w an ab af cn cb cf)(z1:¬ (0:Int)<(p.needs.length:Int))(z2:¬ (0:Int)<(p.bars.length:Int))(z3:¬ (0:Int)<(p.files.length:Int)):Zi4 p N V w an ab af cn cb cf:=by
 obtain⟨HN,HV,hNs,hVs,HP,-,-,-⟩:=h
 unfold Zi4
 obtain⟨i0,hi0,hz0,hz1,hz2⟩:=info_parts Zco
 have E1:=Znm z1
 have E2:=Ztz z2
 have E3:=Znt z3
 obtain⟨hO,qV⟩:=Zgw p N V w an ab af cn cb cf
 obtain⟨H,hH⟩:∃ H:ByteArray,H=⟨#[112,97,99,107,97,103,101,32]⟩++N++⟨#[32]⟩++V:=⟨_,rfl⟩
 have HH:Hid (H.data.toList=M.Zbs p):=by
  show _ = _
  rw[hH,Zah,Zah,Zah,HN.out,HV.out]
  rfl
 have HO:=hid hO
 have HW:=hid qV
 clear hO qV
 go_enter Tryz.func34,Tryz.ntmps34
 go_wp2_with fail
 have hO:=HO.out
 have qV:=HW.out
 rw[<-hH] at hO qV ⊢
 clear HO HW hH
 generalize (w.alloc (.cells #[.string N,.string V,.slice an p.needs.length cn,.slice ab p.bars.length cb,.slice af p.files.length cf] 87)).alloc (.cells #[.string H] 9)=W0 at hO qV ⊢
 have hown':W0.ownsRow (w.heap.size+1) 9 1 (.slice (some ⟨w.heap.size+1,0,none⟩) 1 1) (([M.Zbs p]++Zan p)++Zau p++Zam p).length ((([M.Zbs p]++Zan p)++Zau p++Zam p).map Zbe):=by
  have e:(([M.Zbs p]++Zan p)++Zau p++Zam p).map Zbe=[.string H]:=by
   rw[E1.out,E2.out,E3.out]
   show [Zbe (M.Zbs p)] = _
   rw[Zcd HH.out]
  have e2:(([M.Zbs p]++Zan p)++Zau p++Zam p).length=1:=by rw[E1.out,E2.out,E3.out];rfl
  rw[e,e2]
  exact qV
 have cJ:=Ze4 _ ⟨#[10]⟩ _ _ W0 hown' (by have:=(Zci p HP.out).2;omega) (Zci p HP.out).1
 have e0:(ByteArray.mk #[10]).data.toList=[10]:=rfl
 rw[e0,Zgt p] at cJ
 refine cJ.mono ?_
 rintro e w9 ⟨rfl,hB9⟩
 go_wp2
 go_ret
 exact⟨_,rfl,rfl,bt hO.b hB9⟩
theorem Zx3{p:M.Pk}{N V:ByteArray}{w:World}{an ab af:Option Addr}{cn cb cf:Nat}(h:Zud p N V w an ab af cn cb cf)(z1:¬ (0:Int)<(p.needs.length:Int))(z2:¬ (0:Int)<(p.bars.length:Int))(z3 :  (0:Int)<(p.files.length:Int)):Zi4 p N V w an ab af cn cb cf:=by
 obtain⟨HN,HV,hNs,hVs,HP,-,-,hf⟩:=h
 unfold Zi4
 obtain⟨i0,hi0,hz0,hz1,hz2⟩:=info_parts Zco
 have E1:=Znm z1
 have E2:=Ztz z2
 have E3:=Zla z3
 obtain⟨hO,qV⟩:=Zgw p N V w an ab af cn cb cf
 obtain⟨H,hH⟩:∃ H:ByteArray,H=⟨#[112,97,99,107,97,103,101,32]⟩++N++⟨#[32]⟩++V:=⟨_,rfl⟩
 have HH:Hid (H.data.toList=M.Zbs p):=by
  show _ = _
  rw[hH,Zah,Zah,Zah,HN.out,HV.out]
  rfl
 have HO:=hid hO
 have HW:=hid qV
 clear hO qV
 go_enter Tryz.func34,Tryz.ntmps34
 go_wp2_with fail
 have hO:=HO.out
 have qV:=HW.out
 rw[<-hH] at hO qV ⊢
 clear HO HW hH
 generalize (w.alloc (.cells #[.string N,.string V,.slice an p.needs.length cn,.slice ab p.bars.length cb,.slice af p.files.length cf] 87)).alloc (.cells #[.string H] 9)=W0 at hO qV ⊢
 have cf:=Zfo (.slice af p.files.length cf) p.files ⟨#[10]⟩ W0 ((hf.out.keep fun g o _ hg=>Zcb hO.b hg).wide (Nat.zero_le _) hO.b.size) HP.out.filen HP.out.files (by decide)
 have lf:(M.Zal [10] (p.files.map Zcf)).length<=1000000000000:=by
  have:=Zfa p HP.out (M.Zal [10] (p.files.map Zcf)) (by rw[E3.out];simp)
  try simp only[List.length_append] at this
  omega
 obtain⟨Gf,hGf⟩:∃ G:ByteArray,G=⟨(M.Zal [10] (p.files.map Zcf)).toArray⟩:=⟨_,rfl⟩
 have hsf:Gf.size<=1000000000000:=by rw[hGf,<-Zaq];exact lf
 have HGf:Hid (Gf.data.toList=M.Zal [10] (p.files.map Zcf)):=by show _ = _;rw[hGf]
 rw[<-hGf] at cf
 clear hGf lf
 refine cf.mono ?_
 rintro e Wf ⟨rfl,hBf⟩
 clear cf
 replace hO:=hO.below hBf
 replace qV:=own_below qV hBf
 have d2f:=hO.c2
 have d3f:=hO.c3
 have d4f:=hO.c4
 have hltf:=hO.lt
 go_wp2_with (at_builtin;refine wpList_append_own _ rfl _ _ 41 rfl (w.heap.size+1) 9 i0 (.string ⟨#[]⟩) 1 16 Tryz.underlying41 hi0 hz0 hz1 hz2 rfl (by decide) _ _ _ rfl (qV.alloc _) ⟨Wf.heap.size,0,none⟩ 1 1 [.string Gf] rfl rfl ?c1 ?c2 ?c3 ?c4 ?c5 ?_)
 case c1=>exact Zca _ _ _
 case c2=>intro u hu;simp at hu;subst hu;rfl
 case c3=>unfold maxLen;omega
 case c4=>omega
 case c5=>simp;omega
 intro vf Xf hownf hgrowf _
 replace hO:=hO.push qV hgrowf
 replace qV:=hownf
 clear hownf hgrowf d2f d3f d4f hBf hltf
 obtain⟨alf,clf,elf⟩:=Zac qV
 subst elf
 have e2f:=hO.c2
 have e3f:=hO.c3
 have e4f:=hO.c4
 go_wp2_with fail
 have hown':Xf.ownsRow (w.heap.size+1) 9 1 (.slice alf 2 clf) (([M.Zbs p]++Zan p)++Zau p++Zam p).length ((([M.Zbs p]++Zan p)++Zau p++Zam p).map Zbe):=by
  have e:(([M.Zbs p]++Zan p)++Zau p++Zam p).map Zbe=[.string H,.string Gf]:=by
   rw[E1.out,E2.out,E3.out]
   show [Zbe (M.Zbs p),Zbe (M.Zal [10] (p.files.map Zcf))] = _
   rw[Zcd HH.out,Zcd HGf.out]
  have e2:(([M.Zbs p]++Zan p)++Zau p++Zam p).length=2:=by rw[E1.out,E2.out,E3.out];rfl
  rw[e,e2]
  exact qV
 have cJ:=Ze4 _ ⟨#[10]⟩ _ _ Xf hown' (by have:=(Zci p HP.out).2;omega) (Zci p HP.out).1
 have e0:(ByteArray.mk #[10]).data.toList=[10]:=rfl
 rw[e0,Zgt p] at cJ
 refine cJ.mono ?_
 rintro e w9 ⟨rfl,hB9⟩
 go_wp2
 go_ret
 exact⟨_,rfl,rfl,bt hO.b hB9⟩
theorem Zyr{p:M.Pk}{N V:ByteArray}{w:World}{an ab af:Option Addr}{cn cb cf:Nat}(h:Zud p N V w an ab af cn cb cf)(z1:¬ (0:Int)<(p.needs.length:Int))(z2 :  (0:Int)<(p.bars.length:Int))(z3:¬ (0:Int)<(p.files.length:Int)):Zi4 p N V w an ab af cn cb cf:=by
 obtain⟨HN,HV,hNs,hVs,HP,-,hb,-⟩:=h
 unfold Zi4
 obtain⟨i0,hi0,hz0,hz1,hz2⟩:=info_parts Zco
 have E1:=Znm z1
 have E2:=Znj z2
 have E3:=Znt z3
 obtain⟨hO,qV⟩:=Zgw p N V w an ab af cn cb cf
 obtain⟨H,hH⟩:∃ H:ByteArray,H=⟨#[112,97,99,107,97,103,101,32]⟩++N++⟨#[32]⟩++V:=⟨_,rfl⟩
 have HH:Hid (H.data.toList=M.Zbs p):=by
  show _ = _
  rw[hH,Zah,Zah,Zah,HN.out,HV.out]
  rfl
 have HO:=hid hO
 have HW:=hid qV
 clear hO qV
 go_enter Tryz.func34,Tryz.ntmps34
 go_wp2_with fail
 have hO:=HO.out
 have qV:=HW.out
 rw[<-hH] at hO qV ⊢
 clear HO HW hH
 generalize (w.alloc (.cells #[.string N,.string V,.slice an p.needs.length cn,.slice ab p.bars.length cb,.slice af p.files.length cf] 87)).alloc (.cells #[.string H] 9)=W0 at hO qV ⊢
 have cb:=Zdj (.slice ab p.bars.length cb) p.bars ⟨#[44,32]⟩ W0 ((hb.out.keep fun g o _ hg=>Zcb hO.b hg).wide (Nat.zero_le _) hO.b.size) HP.out.bars (by decide)
 have lb:(M.Zab [44,32] p.bars).length<=1000000000000:=by
  have:=Zft p HP.out (M.Zcr++M.Zab [44,32] p.bars) (by rw[E2.out];simp)
  try simp only[List.length_append] at this
  omega
 obtain⟨Gb,hGb⟩:∃ G:ByteArray,G=⟨(M.Zab [44,32] p.bars).toArray⟩:=⟨_,rfl⟩
 have hsb:Gb.size<=1000000000000:=by rw[hGb,<-Zaq];exact lb
 have HGb:Hid (Gb.data.toList=M.Zab [44,32] p.bars):=by show _ = _;rw[hGb]
 rw[<-hGb] at cb
 clear hGb lb
 refine cb.mono ?_
 rintro e Wb ⟨rfl,hBb⟩
 clear cb
 replace hO:=hO.below hBb
 replace qV:=own_below qV hBb
 have d2b:=hO.c2
 have d3b:=hO.c3
 have d4b:=hO.c4
 have hltb:=hO.lt
 go_wp2_with (at_builtin;refine wpList_append_own _ rfl _ _ 41 rfl (w.heap.size+1) 9 i0 (.string ⟨#[]⟩) 1 16 Tryz.underlying41 hi0 hz0 hz1 hz2 rfl (by decide) _ _ _ rfl (qV.alloc _) ⟨Wb.heap.size,0,none⟩ 1 1 [.string (⟨#[98,97,114,115,32]⟩++Gb)] rfl rfl ?c1 ?c2 ?c3 ?c4 ?c5 ?_)
 case c1=>exact Zca _ _ _
 case c2=>intro u hu;simp at hu;subst hu;rfl
 case c3=>unfold maxLen;omega
 case c4=>omega
 case c5=>simp;omega
 intro vb Xb hownb hgrowb _
 replace hO:=hO.push qV hgrowb
 replace qV:=hownb
 clear hownb hgrowb d2b d3b d4b hBb hltb
 obtain⟨alb,clb,elb⟩:=Zac qV
 subst elb
 have e2b:=hO.c2
 have e3b:=hO.c3
 have e4b:=hO.c4
 go_wp2_with fail
 have hown':Xb.ownsRow (w.heap.size+1) 9 1 (.slice alb 2 clb) (([M.Zbs p]++Zan p)++Zau p++Zam p).length ((([M.Zbs p]++Zan p)++Zau p++Zam p).map Zbe):=by
  have e:(([M.Zbs p]++Zan p)++Zau p++Zam p).map Zbe=[.string H,.string (⟨#[98,97,114,115,32]⟩++Gb)]:=by
   rw[E1.out,E2.out,E3.out]
   show [Zbe (M.Zbs p),Zbe (M.Zcr++M.Zab [44,32] p.bars)] = _
   rw[Zcd HH.out,Zcd (show (⟨#[98,97,114,115,32]⟩++Gb).data.toList=M.Zcr++M.Zab [44,32] p.bars from by rw[Zah,HGb.out];rfl)]
  have e2:(([M.Zbs p]++Zan p)++Zau p++Zam p).length=2:=by rw[E1.out,E2.out,E3.out];rfl
  rw[e,e2]
  exact qV
 have cJ:=Ze4 _ ⟨#[10]⟩ _ _ Xb hown' (by have:=(Zci p HP.out).2;omega) (Zci p HP.out).1
 have e0:(ByteArray.mk #[10]).data.toList=[10]:=rfl
 rw[e0,Zgt p] at cJ
 refine cJ.mono ?_
 rintro e w9 ⟨rfl,hB9⟩
 go_wp2
 go_ret
 exact⟨_,rfl,rfl,bt hO.b hB9⟩
theorem Zyn{p:M.Pk}{N V:ByteArray}{w:World}{an ab af:Option Addr}{cn cb cf:Nat}(h:Zud p N V w an ab af cn cb cf)(z1:¬ (0:Int)<(p.needs.length:Int))(z2 :  (0:Int)<(p.bars.length:Int))(z3 :  (0:Int)<(p.files.length:Int)):Zi4 p N V w an ab af cn cb cf:=by
 obtain⟨HN,HV,hNs,hVs,HP,-,hb,hf⟩:=h
 unfold Zi4
 obtain⟨i0,hi0,hz0,hz1,hz2⟩:=info_parts Zco
 have E1:=Znm z1
 have E2:=Znj z2
 have E3:=Zla z3
 obtain⟨hO,qV⟩:=Zgw p N V w an ab af cn cb cf
 obtain⟨H,hH⟩:∃ H:ByteArray,H=⟨#[112,97,99,107,97,103,101,32]⟩++N++⟨#[32]⟩++V:=⟨_,rfl⟩
 have HH:Hid (H.data.toList=M.Zbs p):=by
  show _ = _
  rw[hH,Zah,Zah,Zah,HN.out,HV.out]
  rfl
 have HO:=hid hO
 have HW:=hid qV
 clear hO qV
 go_enter Tryz.func34,Tryz.ntmps34
 go_wp2_with fail
 have hO:=HO.out
 have qV:=HW.out
 rw[<-hH] at hO qV ⊢
 clear HO HW hH
 generalize (w.alloc (.cells #[.string N,.string V,.slice an p.needs.length cn,.slice ab p.bars.length cb,.slice af p.files.length cf] 87)).alloc (.cells #[.string H] 9)=W0 at hO qV ⊢
 have cb:=Zdj (.slice ab p.bars.length cb) p.bars ⟨#[44,32]⟩ W0 ((hb.out.keep fun g o _ hg=>Zcb hO.b hg).wide (Nat.zero_le _) hO.b.size) HP.out.bars (by decide)
 have lb:(M.Zab [44,32] p.bars).length<=1000000000000:=by
  have:=Zft p HP.out (M.Zcr++M.Zab [44,32] p.bars) (by rw[E2.out];simp)
  try simp only[List.length_append] at this
  omega
 obtain⟨Gb,hGb⟩:∃ G:ByteArray,G=⟨(M.Zab [44,32] p.bars).toArray⟩:=⟨_,rfl⟩
 have hsb:Gb.size<=1000000000000:=by rw[hGb,<-Zaq];exact lb
 have HGb:Hid (Gb.data.toList=M.Zab [44,32] p.bars):=by show _ = _;rw[hGb]
 rw[<-hGb] at cb
 clear hGb lb
 refine cb.mono ?_
 rintro e Wb ⟨rfl,hBb⟩
 clear cb
 replace hO:=hO.below hBb
 replace qV:=own_below qV hBb
 have d2b:=hO.c2
 have d3b:=hO.c3
 have d4b:=hO.c4
 have hltb:=hO.lt
 go_wp2_with (at_builtin;refine wpList_append_own _ rfl _ _ 41 rfl (w.heap.size+1) 9 i0 (.string ⟨#[]⟩) 1 16 Tryz.underlying41 hi0 hz0 hz1 hz2 rfl (by decide) _ _ _ rfl (qV.alloc _) ⟨Wb.heap.size,0,none⟩ 1 1 [.string (⟨#[98,97,114,115,32]⟩++Gb)] rfl rfl ?c1 ?c2 ?c3 ?c4 ?c5 ?_)
 case c1=>exact Zca _ _ _
 case c2=>intro u hu;simp at hu;subst hu;rfl
 case c3=>unfold maxLen;omega
 case c4=>omega
 case c5=>simp;omega
 intro vb Xb hownb hgrowb _
 replace hO:=hO.push qV hgrowb
 replace qV:=hownb
 clear hownb hgrowb d2b d3b d4b hBb hltb
 obtain⟨alb,clb,elb⟩:=Zac qV
 subst elb
 have e2b:=hO.c2
 have e3b:=hO.c3
 have e4b:=hO.c4
 go_wp2_with fail
 have cf:=Zfo (.slice af p.files.length cf) p.files ⟨#[10]⟩ Xb ((hf.out.keep fun g o _ hg=>Zcb hO.b hg).wide (Nat.zero_le _) hO.b.size) HP.out.filen HP.out.files (by decide)
 have lf:(M.Zal [10] (p.files.map Zcf)).length<=1000000000000:=by
  have:=Zfa p HP.out (M.Zal [10] (p.files.map Zcf)) (by rw[E3.out];simp)
  try simp only[List.length_append] at this
  omega
 obtain⟨Gf,hGf⟩:∃ G:ByteArray,G=⟨(M.Zal [10] (p.files.map Zcf)).toArray⟩:=⟨_,rfl⟩
 have hsf:Gf.size<=1000000000000:=by rw[hGf,<-Zaq];exact lf
 have HGf:Hid (Gf.data.toList=M.Zal [10] (p.files.map Zcf)):=by show _ = _;rw[hGf]
 rw[<-hGf] at cf
 clear hGf lf
 refine cf.mono ?_
 rintro e Wf ⟨rfl,hBf⟩
 clear cf
 replace hO:=hO.below hBf
 replace qV:=own_below qV hBf
 have d2f:=hO.c2
 have d3f:=hO.c3
 have d4f:=hO.c4
 have hltf:=hO.lt
 go_wp2_with (at_builtin;refine wpList_append_own _ rfl _ _ 41 rfl (w.heap.size+1) 9 i0 (.string ⟨#[]⟩) 1 16 Tryz.underlying41 hi0 hz0 hz1 hz2 rfl (by decide) _ _ _ rfl (qV.alloc _) ⟨Wf.heap.size,0,none⟩ 1 1 [.string Gf] rfl rfl ?c1 ?c2 ?c3 ?c4 ?c5 ?_)
 case c1=>exact Zca _ _ _
 case c2=>intro u hu;simp at hu;subst hu;rfl
 case c3=>unfold maxLen;omega
 case c4=>omega
 case c5=>simp;omega
 intro vf Xf hownf hgrowf _
 replace hO:=hO.push qV hgrowf
 replace qV:=hownf
 clear hownf hgrowf d2f d3f d4f hBf hltf
 obtain⟨alf,clf,elf⟩:=Zac qV
 subst elf
 have e2f:=hO.c2
 have e3f:=hO.c3
 have e4f:=hO.c4
 go_wp2_with fail
 have hown':Xf.ownsRow (w.heap.size+1) 9 1 (.slice alf 3 clf) (([M.Zbs p]++Zan p)++Zau p++Zam p).length ((([M.Zbs p]++Zan p)++Zau p++Zam p).map Zbe):=by
  have e:(([M.Zbs p]++Zan p)++Zau p++Zam p).map Zbe=[.string H,.string (⟨#[98,97,114,115,32]⟩++Gb),.string Gf]:=by
   rw[E1.out,E2.out,E3.out]
   show [Zbe (M.Zbs p),Zbe (M.Zcr++M.Zab [44,32] p.bars),Zbe (M.Zal [10] (p.files.map Zcf))] = _
   rw[Zcd HH.out,Zcd (show (⟨#[98,97,114,115,32]⟩++Gb).data.toList=M.Zcr++M.Zab [44,32] p.bars from by rw[Zah,HGb.out];rfl),Zcd HGf.out]
  have e2:(([M.Zbs p]++Zan p)++Zau p++Zam p).length=3:=by rw[E1.out,E2.out,E3.out];rfl
  rw[e,e2]
  exact qV
 have cJ:=Ze4 _ ⟨#[10]⟩ _ _ Xf hown' (by have:=(Zci p HP.out).2;omega) (Zci p HP.out).1
 have e0:(ByteArray.mk #[10]).data.toList=[10]:=rfl
 rw[e0,Zgt p] at cJ
 refine cJ.mono ?_
 rintro e w9 ⟨rfl,hB9⟩
 go_wp2
 go_ret
 exact⟨_,rfl,rfl,bt hO.b hB9⟩
theorem Zx0{p:M.Pk}{N V:ByteArray}{w:World}{an ab af:Option Addr}{cn cb cf:Nat}(h:Zud p N V w an ab af cn cb cf)(z1 :  (0:Int)<(p.needs.length:Int))(z2:¬ (0:Int)<(p.bars.length:Int))(z3:¬ (0:Int)<(p.files.length:Int)):Zi4 p N V w an ab af cn cb cf:=by
 obtain⟨HN,HV,hNs,hVs,HP,hn,-,-⟩:=h
 unfold Zi4
 obtain⟨i0,hi0,hz0,hz1,hz2⟩:=info_parts Zco
 have E1:=Zk4 z1
 have E2:=Ztz z2
 have E3:=Znt z3
 obtain⟨hO,qV⟩:=Zgw p N V w an ab af cn cb cf
 obtain⟨H,hH⟩:∃ H:ByteArray,H=⟨#[112,97,99,107,97,103,101,32]⟩++N++⟨#[32]⟩++V:=⟨_,rfl⟩
 have HH:Hid (H.data.toList=M.Zbs p):=by
  show _ = _
  rw[hH,Zah,Zah,Zah,HN.out,HV.out]
  rfl
 have HO:=hid hO
 have HW:=hid qV
 clear hO qV
 go_enter Tryz.func34,Tryz.ntmps34
 go_wp2_with fail
 have hO:=HO.out
 have qV:=HW.out
 rw[<-hH] at hO qV ⊢
 clear HO HW hH
 generalize (w.alloc (.cells #[.string N,.string V,.slice an p.needs.length cn,.slice ab p.bars.length cb,.slice af p.files.length cf] 87)).alloc (.cells #[.string H] 9)=W0 at hO qV ⊢
 have cn:=Ze6 (.slice an p.needs.length cn) p.needs ⟨#[44,32]⟩ W0 ((hn.out.keep fun g o _ hg=>Zcb hO.b hg).wide (Nat.zero_le _) hO.b.size) HP.out.needn HP.out.needs (by decide)
 have ln:(M.Zal [44,32] (p.needs.map (M.Zab [32,124,32]))).length<=1000000000000:=by
  have:=Ze3 p HP.out (M.Zbi++M.Zal [44,32] (p.needs.map (M.Zab [32,124,32]))) (by rw[E1.out];simp)
  try simp only[List.length_append] at this
  omega
 obtain⟨Gn,hGn⟩:∃ G:ByteArray,G=⟨(M.Zal [44,32] (p.needs.map (M.Zab [32,124,32]))).toArray⟩:=⟨_,rfl⟩
 have hsn:Gn.size<=1000000000000:=by rw[hGn,<-Zaq];exact ln
 have HGn:Hid (Gn.data.toList=M.Zal [44,32] (p.needs.map (M.Zab [32,124,32]))):=by show _ = _;rw[hGn]
 rw[<-hGn] at cn
 clear hGn ln
 refine cn.mono ?_
 rintro e Wn ⟨rfl,hBn⟩
 clear cn
 replace hO:=hO.below hBn
 replace qV:=own_below qV hBn
 have d2n:=hO.c2
 have d3n:=hO.c3
 have d4n:=hO.c4
 have hltn:=hO.lt
 go_wp2_with (at_builtin;refine wpList_append_own _ rfl _ _ 41 rfl (w.heap.size+1) 9 i0 (.string ⟨#[]⟩) 1 16 Tryz.underlying41 hi0 hz0 hz1 hz2 rfl (by decide) _ _ _ rfl (qV.alloc _) ⟨Wn.heap.size,0,none⟩ 1 1 [.string (⟨#[110,101,101,100,115,32]⟩++Gn)] rfl rfl ?c1 ?c2 ?c3 ?c4 ?c5 ?_)
 case c1=>exact Zca _ _ _
 case c2=>intro u hu;simp at hu;subst hu;rfl
 case c3=>unfold maxLen;omega
 case c4=>omega
 case c5=>simp;omega
 intro vn Xn hownn hgrown _
 replace hO:=hO.push qV hgrown
 replace qV:=hownn
 clear hownn hgrown d2n d3n d4n hBn hltn
 obtain⟨aln,cln,eln⟩:=Zac qV
 subst eln
 have e2n:=hO.c2
 have e3n:=hO.c3
 have e4n:=hO.c4
 go_wp2_with fail
 have hown':Xn.ownsRow (w.heap.size+1) 9 1 (.slice aln 2 cln) (([M.Zbs p]++Zan p)++Zau p++Zam p).length ((([M.Zbs p]++Zan p)++Zau p++Zam p).map Zbe):=by
  have e:(([M.Zbs p]++Zan p)++Zau p++Zam p).map Zbe=[.string H,.string (⟨#[110,101,101,100,115,32]⟩++Gn)]:=by
   rw[E1.out,E2.out,E3.out]
   show [Zbe (M.Zbs p),Zbe (M.Zbi++M.Zal [44,32] (p.needs.map (M.Zab [32,124,32])))] = _
   rw[Zcd HH.out,Zcd (show (⟨#[110,101,101,100,115,32]⟩++Gn).data.toList=M.Zbi++M.Zal [44,32] (p.needs.map (M.Zab [32,124,32])) from by rw[Zah,HGn.out];rfl)]
  have e2:(([M.Zbs p]++Zan p)++Zau p++Zam p).length=2:=by rw[E1.out,E2.out,E3.out];rfl
  rw[e,e2]
  exact qV
 have cJ:=Ze4 _ ⟨#[10]⟩ _ _ Xn hown' (by have:=(Zci p HP.out).2;omega) (Zci p HP.out).1
 have e0:(ByteArray.mk #[10]).data.toList=[10]:=rfl
 rw[e0,Zgt p] at cJ
 refine cJ.mono ?_
 rintro e w9 ⟨rfl,hB9⟩
 go_wp2
 go_ret
 exact⟨_,rfl,rfl,bt hO.b hB9⟩
theorem Zxr{p:M.Pk}{N V:ByteArray}{w:World}{an ab af:Option Addr}{cn cb cf:Nat}(h:Zud p N V w an ab af cn cb cf)(z1 :  (0:Int)<(p.needs.length:Int))(z2:¬ (0:Int)<(p.bars.length:Int))(z3 :  (0:Int)<(p.files.length:Int)):Zi4 p N V w an ab af cn cb cf:=by
 obtain⟨HN,HV,hNs,hVs,HP,hn,-,hf⟩:=h
 unfold Zi4
 obtain⟨i0,hi0,hz0,hz1,hz2⟩:=info_parts Zco
 have E1:=Zk4 z1
 have E2:=Ztz z2
 have E3:=Zla z3
 obtain⟨hO,qV⟩:=Zgw p N V w an ab af cn cb cf
 obtain⟨H,hH⟩:∃ H:ByteArray,H=⟨#[112,97,99,107,97,103,101,32]⟩++N++⟨#[32]⟩++V:=⟨_,rfl⟩
 have HH:Hid (H.data.toList=M.Zbs p):=by
  show _ = _
  rw[hH,Zah,Zah,Zah,HN.out,HV.out]
  rfl
 have HO:=hid hO
 have HW:=hid qV
 clear hO qV
 go_enter Tryz.func34,Tryz.ntmps34
 go_wp2_with fail
 have hO:=HO.out
 have qV:=HW.out
 rw[<-hH] at hO qV ⊢
 clear HO HW hH
 generalize (w.alloc (.cells #[.string N,.string V,.slice an p.needs.length cn,.slice ab p.bars.length cb,.slice af p.files.length cf] 87)).alloc (.cells #[.string H] 9)=W0 at hO qV ⊢
 have cn:=Ze6 (.slice an p.needs.length cn) p.needs ⟨#[44,32]⟩ W0 ((hn.out.keep fun g o _ hg=>Zcb hO.b hg).wide (Nat.zero_le _) hO.b.size) HP.out.needn HP.out.needs (by decide)
 have ln:(M.Zal [44,32] (p.needs.map (M.Zab [32,124,32]))).length<=1000000000000:=by
  have:=Ze3 p HP.out (M.Zbi++M.Zal [44,32] (p.needs.map (M.Zab [32,124,32]))) (by rw[E1.out];simp)
  try simp only[List.length_append] at this
  omega
 obtain⟨Gn,hGn⟩:∃ G:ByteArray,G=⟨(M.Zal [44,32] (p.needs.map (M.Zab [32,124,32]))).toArray⟩:=⟨_,rfl⟩
 have hsn:Gn.size<=1000000000000:=by rw[hGn,<-Zaq];exact ln
 have HGn:Hid (Gn.data.toList=M.Zal [44,32] (p.needs.map (M.Zab [32,124,32]))):=by show _ = _;rw[hGn]
 rw[<-hGn] at cn
 clear hGn ln
 refine cn.mono ?_
 rintro e Wn ⟨rfl,hBn⟩
 clear cn
 replace hO:=hO.below hBn
 replace qV:=own_below qV hBn
 have d2n:=hO.c2
 have d3n:=hO.c3
 have d4n:=hO.c4
 have hltn:=hO.lt
 go_wp2_with (at_builtin;refine wpList_append_own _ rfl _ _ 41 rfl (w.heap.size+1) 9 i0 (.string ⟨#[]⟩) 1 16 Tryz.underlying41 hi0 hz0 hz1 hz2 rfl (by decide) _ _ _ rfl (qV.alloc _) ⟨Wn.heap.size,0,none⟩ 1 1 [.string (⟨#[110,101,101,100,115,32]⟩++Gn)] rfl rfl ?c1 ?c2 ?c3 ?c4 ?c5 ?_)
 case c1=>exact Zca _ _ _
 case c2=>intro u hu;simp at hu;subst hu;rfl
 case c3=>unfold maxLen;omega
 case c4=>omega
 case c5=>simp;omega
 intro vn Xn hownn hgrown _
 replace hO:=hO.push qV hgrown
 replace qV:=hownn
 clear hownn hgrown d2n d3n d4n hBn hltn
 obtain⟨aln,cln,eln⟩:=Zac qV
 subst eln
 have e2n:=hO.c2
 have e3n:=hO.c3
 have e4n:=hO.c4
 go_wp2_with fail
 have cf:=Zfo (.slice af p.files.length cf) p.files ⟨#[10]⟩ Xn ((hf.out.keep fun g o _ hg=>Zcb hO.b hg).wide (Nat.zero_le _) hO.b.size) HP.out.filen HP.out.files (by decide)
 have lf:(M.Zal [10] (p.files.map Zcf)).length<=1000000000000:=by
  have:=Zfa p HP.out (M.Zal [10] (p.files.map Zcf)) (by rw[E3.out];simp)
  try simp only[List.length_append] at this
  omega
 obtain⟨Gf,hGf⟩:∃ G:ByteArray,G=⟨(M.Zal [10] (p.files.map Zcf)).toArray⟩:=⟨_,rfl⟩
 have hsf:Gf.size<=1000000000000:=by rw[hGf,<-Zaq];exact lf
 have HGf:Hid (Gf.data.toList=M.Zal [10] (p.files.map Zcf)):=by show _ = _;rw[hGf]
 rw[<-hGf] at cf
 clear hGf lf
 refine cf.mono ?_
 rintro e Wf ⟨rfl,hBf⟩
 clear cf
 replace hO:=hO.below hBf
 replace qV:=own_below qV hBf
 have d2f:=hO.c2
 have d3f:=hO.c3
 have d4f:=hO.c4
 have hltf:=hO.lt
 go_wp2_with (at_builtin;refine wpList_append_own _ rfl _ _ 41 rfl (w.heap.size+1) 9 i0 (.string ⟨#[]⟩) 1 16 Tryz.underlying41 hi0 hz0 hz1 hz2 rfl (by decide) _ _ _ rfl (qV.alloc _) ⟨Wf.heap.size,0,none⟩ 1 1 [.string Gf] rfl rfl ?c1 ?c2 ?c3 ?c4 ?c5 ?_)
 case c1=>exact Zca _ _ _
 case c2=>intro u hu;simp at hu;subst hu;rfl
 case c3=>unfold maxLen;omega
 case c4=>omega
 case c5=>simp;omega
 intro vf Xf hownf hgrowf _
 replace hO:=hO.push qV hgrowf
 replace qV:=hownf
 clear hownf hgrowf d2f d3f d4f hBf hltf
 obtain⟨alf,clf,elf⟩:=Zac qV
 subst elf
 have e2f:=hO.c2
 have e3f:=hO.c3
 have e4f:=hO.c4
 go_wp2_with fail
 have hown':Xf.ownsRow (w.heap.size+1) 9 1 (.slice alf 3 clf) (([M.Zbs p]++Zan p)++Zau p++Zam p).length ((([M.Zbs p]++Zan p)++Zau p++Zam p).map Zbe):=by
  have e:(([M.Zbs p]++Zan p)++Zau p++Zam p).map Zbe=[.string H,.string (⟨#[110,101,101,100,115,32]⟩++Gn),.string Gf]:=by
   rw[E1.out,E2.out,E3.out]
   show [Zbe (M.Zbs p),Zbe (M.Zbi++M.Zal [44,32] (p.needs.map (M.Zab [32,124,32]))),Zbe (M.Zal [10] (p.files.map Zcf))] = _
   rw[Zcd HH.out,Zcd (show (⟨#[110,101,101,100,115,32]⟩++Gn).data.toList=M.Zbi++M.Zal [44,32] (p.needs.map (M.Zab [32,124,32])) from by rw[Zah,HGn.out];rfl),Zcd HGf.out]
  have e2:(([M.Zbs p]++Zan p)++Zau p++Zam p).length=3:=by rw[E1.out,E2.out,E3.out];rfl
  rw[e,e2]
  exact qV
 have cJ:=Ze4 _ ⟨#[10]⟩ _ _ Xf hown' (by have:=(Zci p HP.out).2;omega) (Zci p HP.out).1
 have e0:(ByteArray.mk #[10]).data.toList=[10]:=rfl
 rw[e0,Zgt p] at cJ
 refine cJ.mono ?_
 rintro e w9 ⟨rfl,hB9⟩
 go_wp2
 go_ret
 exact⟨_,rfl,rfl,bt hO.b hB9⟩
theorem Zx2{p:M.Pk}{N V:ByteArray}{w:World}{an ab af:Option Addr}{cn cb cf:Nat}(h:Zud p N V w an ab af cn cb cf)(z1 :  (0:Int)<(p.needs.length:Int))(z2 :  (0:Int)<(p.bars.length:Int))(z3:¬ (0:Int)<(p.files.length:Int)):Zi4 p N V w an ab af cn cb cf:=by
 obtain⟨HN,HV,hNs,hVs,HP,hn,hb,-⟩:=h
 unfold Zi4
 obtain⟨i0,hi0,hz0,hz1,hz2⟩:=info_parts Zco
 have E1:=Zk4 z1
 have E2:=Znj z2
 have E3:=Znt z3
 obtain⟨hO,qV⟩:=Zgw p N V w an ab af cn cb cf
 obtain⟨H,hH⟩:∃ H:ByteArray,H=⟨#[112,97,99,107,97,103,101,32]⟩++N++⟨#[32]⟩++V:=⟨_,rfl⟩
 have HH:Hid (H.data.toList=M.Zbs p):=by
  show _ = _
  rw[hH,Zah,Zah,Zah,HN.out,HV.out]
  rfl
 have HO:=hid hO
 have HW:=hid qV
 clear hO qV
 go_enter Tryz.func34,Tryz.ntmps34
 go_wp2_with fail
 have hO:=HO.out
 have qV:=HW.out
 rw[<-hH] at hO qV ⊢
 clear HO HW hH
 generalize (w.alloc (.cells #[.string N,.string V,.slice an p.needs.length cn,.slice ab p.bars.length cb,.slice af p.files.length cf] 87)).alloc (.cells #[.string H] 9)=W0 at hO qV ⊢
 have cn:=Ze6 (.slice an p.needs.length cn) p.needs ⟨#[44,32]⟩ W0 ((hn.out.keep fun g o _ hg=>Zcb hO.b hg).wide (Nat.zero_le _) hO.b.size) HP.out.needn HP.out.needs (by decide)
 have ln:(M.Zal [44,32] (p.needs.map (M.Zab [32,124,32]))).length<=1000000000000:=by
  have:=Ze3 p HP.out (M.Zbi++M.Zal [44,32] (p.needs.map (M.Zab [32,124,32]))) (by rw[E1.out];simp)
  try simp only[List.length_append] at this
  omega
 obtain⟨Gn,hGn⟩:∃ G:ByteArray,G=⟨(M.Zal [44,32] (p.needs.map (M.Zab [32,124,32]))).toArray⟩:=⟨_,rfl⟩
 have hsn:Gn.size<=1000000000000:=by rw[hGn,<-Zaq];exact ln
 have HGn:Hid (Gn.data.toList=M.Zal [44,32] (p.needs.map (M.Zab [32,124,32]))):=by show _ = _;rw[hGn]
 rw[<-hGn] at cn
 clear hGn ln
 refine cn.mono ?_
 rintro e Wn ⟨rfl,hBn⟩
 clear cn
 replace hO:=hO.below hBn
 replace qV:=own_below qV hBn
 have d2n:=hO.c2
 have d3n:=hO.c3
 have d4n:=hO.c4
 have hltn:=hO.lt
 go_wp2_with (at_builtin;refine wpList_append_own _ rfl _ _ 41 rfl (w.heap.size+1) 9 i0 (.string ⟨#[]⟩) 1 16 Tryz.underlying41 hi0 hz0 hz1 hz2 rfl (by decide) _ _ _ rfl (qV.alloc _) ⟨Wn.heap.size,0,none⟩ 1 1 [.string (⟨#[110,101,101,100,115,32]⟩++Gn)] rfl rfl ?c1 ?c2 ?c3 ?c4 ?c5 ?_)
 case c1=>exact Zca _ _ _
 case c2=>intro u hu;simp at hu;subst hu;rfl
 case c3=>unfold maxLen;omega
 case c4=>omega
 case c5=>simp;omega
 intro vn Xn hownn hgrown _
 replace hO:=hO.push qV hgrown
 replace qV:=hownn
 clear hownn hgrown d2n d3n d4n hBn hltn
 obtain⟨aln,cln,eln⟩:=Zac qV
 subst eln
 have e2n:=hO.c2
 have e3n:=hO.c3
 have e4n:=hO.c4
 go_wp2_with fail
 have cb:=Zdj (.slice ab p.bars.length cb) p.bars ⟨#[44,32]⟩ Xn ((hb.out.keep fun g o _ hg=>Zcb hO.b hg).wide (Nat.zero_le _) hO.b.size) HP.out.bars (by decide)
 have lb:(M.Zab [44,32] p.bars).length<=1000000000000:=by
  have:=Zft p HP.out (M.Zcr++M.Zab [44,32] p.bars) (by rw[E2.out];simp)
  try simp only[List.length_append] at this
  omega
 obtain⟨Gb,hGb⟩:∃ G:ByteArray,G=⟨(M.Zab [44,32] p.bars).toArray⟩:=⟨_,rfl⟩
 have hsb:Gb.size<=1000000000000:=by rw[hGb,<-Zaq];exact lb
 have HGb:Hid (Gb.data.toList=M.Zab [44,32] p.bars):=by show _ = _;rw[hGb]
 rw[<-hGb] at cb
 clear hGb lb
 refine cb.mono ?_
 rintro e Wb ⟨rfl,hBb⟩
 clear cb
 replace hO:=hO.below hBb
 replace qV:=own_below qV hBb
 have d2b:=hO.c2
 have d3b:=hO.c3
 have d4b:=hO.c4
 have hltb:=hO.lt
 go_wp2_with (at_builtin;refine wpList_append_own _ rfl _ _ 41 rfl (w.heap.size+1) 9 i0 (.string ⟨#[]⟩) 1 16 Tryz.underlying41 hi0 hz0 hz1 hz2 rfl (by decide) _ _ _ rfl (qV.alloc _) ⟨Wb.heap.size,0,none⟩ 1 1 [.string (⟨#[98,97,114,115,32]⟩++Gb)] rfl rfl ?c1 ?c2 ?c3 ?c4 ?c5 ?_)
 case c1=>exact Zca _ _ _
 case c2=>intro u hu;simp at hu;subst hu;rfl
 case c3=>unfold maxLen;omega
 case c4=>omega
 case c5=>simp;omega
 intro vb Xb hownb hgrowb _
 replace hO:=hO.push qV hgrowb
 replace qV:=hownb
 clear hownb hgrowb d2b d3b d4b hBb hltb
 obtain⟨alb,clb,elb⟩:=Zac qV
 subst elb
 have e2b:=hO.c2
 have e3b:=hO.c3
 have e4b:=hO.c4
 go_wp2_with fail
 have hown':Xb.ownsRow (w.heap.size+1) 9 1 (.slice alb 3 clb) (([M.Zbs p]++Zan p)++Zau p++Zam p).length ((([M.Zbs p]++Zan p)++Zau p++Zam p).map Zbe):=by
  have e:(([M.Zbs p]++Zan p)++Zau p++Zam p).map Zbe=[.string H,.string (⟨#[110,101,101,100,115,32]⟩++Gn),.string (⟨#[98,97,114,115,32]⟩++Gb)]:=by
   rw[E1.out,E2.out,E3.out]
   show [Zbe (M.Zbs p),Zbe (M.Zbi++M.Zal [44,32] (p.needs.map (M.Zab [32,124,32]))),Zbe (M.Zcr++M.Zab [44,32] p.bars)] = _
   rw[Zcd HH.out,Zcd (show (⟨#[110,101,101,100,115,32]⟩++Gn).data.toList=M.Zbi++M.Zal [44,32] (p.needs.map (M.Zab [32,124,32])) from by rw[Zah,HGn.out];rfl),Zcd (show (⟨#[98,97,114,115,32]⟩++Gb).data.toList=M.Zcr++M.Zab [44,32] p.bars from by rw[Zah,HGb.out];rfl)]
  have e2:(([M.Zbs p]++Zan p)++Zau p++Zam p).length=3:=by rw[E1.out,E2.out,E3.out];rfl
  rw[e,e2]
  exact qV
 have cJ:=Ze4 _ ⟨#[10]⟩ _ _ Xb hown' (by have:=(Zci p HP.out).2;omega) (Zci p HP.out).1
 have e0:(ByteArray.mk #[10]).data.toList=[10]:=rfl
 rw[e0,Zgt p] at cJ
 refine cJ.mono ?_
 rintro e w9 ⟨rfl,hB9⟩
 go_wp2
 go_ret
 exact⟨_,rfl,rfl,bt hO.b hB9⟩
theorem Zx4{p:M.Pk}{N V:ByteArray}{w:World}{an ab af:Option Addr}{cn cb cf:Nat}(h:Zud p N V w an ab af cn cb cf)(z1 :  (0:Int)<(p.needs.length:Int))(z2 :  (0:Int)<(p.bars.length:Int))(z3 :  (0:Int)<(p.files.length:Int)):Zi4 p N V w an ab af cn cb cf:=by
 obtain⟨HN,HV,hNs,hVs,HP,hn,hb,hf⟩:=h
 unfold Zi4
 obtain⟨i0,hi0,hz0,hz1,hz2⟩:=info_parts Zco
 have E1:=Zk4 z1
 have E2:=Znj z2
 have E3:=Zla z3
 obtain⟨hO,qV⟩:=Zgw p N V w an ab af cn cb cf
 obtain⟨H,hH⟩:∃ H:ByteArray,H=⟨#[112,97,99,107,97,103,101,32]⟩++N++⟨#[32]⟩++V:=⟨_,rfl⟩
 have HH:Hid (H.data.toList=M.Zbs p):=by
  show _ = _
  rw[hH,Zah,Zah,Zah,HN.out,HV.out]
  rfl
 have HO:=hid hO
 have HW:=hid qV
 clear hO qV
 go_enter Tryz.func34,Tryz.ntmps34
 go_wp2_with fail
 have hO:=HO.out
 have qV:=HW.out
 rw[<-hH] at hO qV ⊢
 clear HO HW hH
 generalize (w.alloc (.cells #[.string N,.string V,.slice an p.needs.length cn,.slice ab p.bars.length cb,.slice af p.files.length cf] 87)).alloc (.cells #[.string H] 9)=W0 at hO qV ⊢
 have cn:=Ze6 (.slice an p.needs.length cn) p.needs ⟨#[44,32]⟩ W0 ((hn.out.keep fun g o _ hg=>Zcb hO.b hg).wide (Nat.zero_le _) hO.b.size) HP.out.needn HP.out.needs (by decide)
 have ln:(M.Zal [44,32] (p.needs.map (M.Zab [32,124,32]))).length<=1000000000000:=by
  have:=Ze3 p HP.out (M.Zbi++M.Zal [44,32] (p.needs.map (M.Zab [32,124,32]))) (by rw[E1.out];simp)
  try simp only[List.length_append] at this
  omega
 obtain⟨Gn,hGn⟩:∃ G:ByteArray,G=⟨(M.Zal [44,32] (p.needs.map (M.Zab [32,124,32]))).toArray⟩:=⟨_,rfl⟩
 have hsn:Gn.size<=1000000000000:=by rw[hGn,<-Zaq];exact ln
 have HGn:Hid (Gn.data.toList=M.Zal [44,32] (p.needs.map (M.Zab [32,124,32]))):=by show _ = _;rw[hGn]
 rw[<-hGn] at cn
 clear hGn ln
 refine cn.mono ?_
 rintro e Wn ⟨rfl,hBn⟩
 clear cn
 replace hO:=hO.below hBn
 replace qV:=own_below qV hBn
 have d2n:=hO.c2
 have d3n:=hO.c3
 have d4n:=hO.c4
 have hltn:=hO.lt
 go_wp2_with (at_builtin;refine wpList_append_own _ rfl _ _ 41 rfl (w.heap.size+1) 9 i0 (.string ⟨#[]⟩) 1 16 Tryz.underlying41 hi0 hz0 hz1 hz2 rfl (by decide) _ _ _ rfl (qV.alloc _) ⟨Wn.heap.size,0,none⟩ 1 1 [.string (⟨#[110,101,101,100,115,32]⟩++Gn)] rfl rfl ?c1 ?c2 ?c3 ?c4 ?c5 ?_)
 case c1=>exact Zca _ _ _
 case c2=>intro u hu;simp at hu;subst hu;rfl
 case c3=>unfold maxLen;omega
 case c4=>omega
 case c5=>simp;omega
 intro vn Xn hownn hgrown _
 replace hO:=hO.push qV hgrown
 replace qV:=hownn
 clear hownn hgrown d2n d3n d4n hBn hltn
 obtain⟨aln,cln,eln⟩:=Zac qV
 subst eln
 have e2n:=hO.c2
 have e3n:=hO.c3
 have e4n:=hO.c4
 go_wp2_with fail
 have cb:=Zdj (.slice ab p.bars.length cb) p.bars ⟨#[44,32]⟩ Xn ((hb.out.keep fun g o _ hg=>Zcb hO.b hg).wide (Nat.zero_le _) hO.b.size) HP.out.bars (by decide)
 have lb:(M.Zab [44,32] p.bars).length<=1000000000000:=by
  have:=Zft p HP.out (M.Zcr++M.Zab [44,32] p.bars) (by rw[E2.out];simp)
  try simp only[List.length_append] at this
  omega
 obtain⟨Gb,hGb⟩:∃ G:ByteArray,G=⟨(M.Zab [44,32] p.bars).toArray⟩:=⟨_,rfl⟩
 have hsb:Gb.size<=1000000000000:=by rw[hGb,<-Zaq];exact lb
 have HGb:Hid (Gb.data.toList=M.Zab [44,32] p.bars):=by show _ = _;rw[hGb]
 rw[<-hGb] at cb
 clear hGb lb
 refine cb.mono ?_
 rintro e Wb ⟨rfl,hBb⟩
 clear cb
 replace hO:=hO.below hBb
 replace qV:=own_below qV hBb
 have d2b:=hO.c2
 have d3b:=hO.c3
 have d4b:=hO.c4
 have hltb:=hO.lt
 go_wp2_with (at_builtin;refine wpList_append_own _ rfl _ _ 41 rfl (w.heap.size+1) 9 i0 (.string ⟨#[]⟩) 1 16 Tryz.underlying41 hi0 hz0 hz1 hz2 rfl (by decide) _ _ _ rfl (qV.alloc _) ⟨Wb.heap.size,0,none⟩ 1 1 [.string (⟨#[98,97,114,115,32]⟩++Gb)] rfl rfl ?c1 ?c2 ?c3 ?c4 ?c5 ?_)
 case c1=>exact Zca _ _ _
 case c2=>intro u hu;simp at hu;subst hu;rfl
 case c3=>unfold maxLen;omega
 case c4=>omega
 case c5=>simp;omega
 intro vb Xb hownb hgrowb _
 replace hO:=hO.push qV hgrowb
 replace qV:=hownb
 clear hownb hgrowb d2b d3b d4b hBb hltb
 obtain⟨alb,clb,elb⟩:=Zac qV
 subst elb
 have e2b:=hO.c2
 have e3b:=hO.c3
 have e4b:=hO.c4
 go_wp2_with fail
 have cf:=Zfo (.slice af p.files.length cf) p.files ⟨#[10]⟩ Xb ((hf.out.keep fun g o _ hg=>Zcb hO.b hg).wide (Nat.zero_le _) hO.b.size) HP.out.filen HP.out.files (by decide)
 have lf:(M.Zal [10] (p.files.map Zcf)).length<=1000000000000:=by
  have:=Zfa p HP.out (M.Zal [10] (p.files.map Zcf)) (by rw[E3.out];simp)
  try simp only[List.length_append] at this
  omega
 obtain⟨Gf,hGf⟩:∃ G:ByteArray,G=⟨(M.Zal [10] (p.files.map Zcf)).toArray⟩:=⟨_,rfl⟩
 have hsf:Gf.size<=1000000000000:=by rw[hGf,<-Zaq];exact lf
 have HGf:Hid (Gf.data.toList=M.Zal [10] (p.files.map Zcf)):=by show _ = _;rw[hGf]
 rw[<-hGf] at cf
 clear hGf lf
 refine cf.mono ?_
 rintro e Wf ⟨rfl,hBf⟩
 clear cf
 replace hO:=hO.below hBf
 replace qV:=own_below qV hBf
 have d2f:=hO.c2
 have d3f:=hO.c3
 have d4f:=hO.c4
 have hltf:=hO.lt
 go_wp2_with (at_builtin;refine wpList_append_own _ rfl _ _ 41 rfl (w.heap.size+1) 9 i0 (.string ⟨#[]⟩) 1 16 Tryz.underlying41 hi0 hz0 hz1 hz2 rfl (by decide) _ _ _ rfl (qV.alloc _) ⟨Wf.heap.size,0,none⟩ 1 1 [.string Gf] rfl rfl ?c1 ?c2 ?c3 ?c4 ?c5 ?_)
 case c1=>exact Zca _ _ _
 case c2=>intro u hu;simp at hu;subst hu;rfl
 case c3=>unfold maxLen;omega
 case c4=>omega
 case c5=>simp;omega
 intro vf Xf hownf hgrowf _
 replace hO:=hO.push qV hgrowf
 replace qV:=hownf
 clear hownf hgrowf d2f d3f d4f hBf hltf
 obtain⟨alf,clf,elf⟩:=Zac qV
 subst elf
 have e2f:=hO.c2
 have e3f:=hO.c3
 have e4f:=hO.c4
 go_wp2_with fail
 have hown':Xf.ownsRow (w.heap.size+1) 9 1 (.slice alf 4 clf) (([M.Zbs p]++Zan p)++Zau p++Zam p).length ((([M.Zbs p]++Zan p)++Zau p++Zam p).map Zbe):=by
  have e:(([M.Zbs p]++Zan p)++Zau p++Zam p).map Zbe=[.string H,.string (⟨#[110,101,101,100,115,32]⟩++Gn),.string (⟨#[98,97,114,115,32]⟩++Gb),.string Gf]:=by
   rw[E1.out,E2.out,E3.out]
   show [Zbe (M.Zbs p),Zbe (M.Zbi++M.Zal [44,32] (p.needs.map (M.Zab [32,124,32]))),Zbe (M.Zcr++M.Zab [44,32] p.bars),Zbe (M.Zal [10] (p.files.map Zcf))] = _
   rw[Zcd HH.out,Zcd (show (⟨#[110,101,101,100,115,32]⟩++Gn).data.toList=M.Zbi++M.Zal [44,32] (p.needs.map (M.Zab [32,124,32])) from by rw[Zah,HGn.out];rfl),Zcd (show (⟨#[98,97,114,115,32]⟩++Gb).data.toList=M.Zcr++M.Zab [44,32] p.bars from by rw[Zah,HGb.out];rfl),Zcd HGf.out]
  have e2:(([M.Zbs p]++Zan p)++Zau p++Zam p).length=4:=by rw[E1.out,E2.out,E3.out];rfl
  rw[e,e2]
  exact qV
 have cJ:=Ze4 _ ⟨#[10]⟩ _ _ Xf hown' (by have:=(Zci p HP.out).2;omega) (Zci p HP.out).1
 have e0:(ByteArray.mk #[10]).data.toList=[10]:=rfl
 rw[e0,Zgt p] at cJ
 refine cJ.mono ?_
 rintro e w9 ⟨rfl,hB9⟩
 go_wp2
 go_ret
 exact⟨_,rfl,rfl,bt hO.b hB9⟩
theorem Zkg(p:M.Pk)(v:Value)(w:World)(hv:Zc6 w p v)(hp:Zgv p):
 Calls Tryz.prog 34 #[v] w fun e w'=>∃ T:ByteArray,e=.returned (.string T)/\T.data.toList=M.Zaz p/\Below w.heap.size w w':=by
 obtain⟨nv,bv,fv,rfl,hn,hb,hf⟩:=hv
 obtain⟨an,cn,en⟩:=hn.form
 obtain⟨ab,cb,eb⟩:=hb.form
 obtain⟨af,cf,ef⟩:=hf.form
 subst en eb ef
 have s1:(ByteArray.mk p.name.toArray).size<=100000:=by rw[<-Zaq];exact Nat.le_trans hp.name (by decide)
 have s2:(ByteArray.mk p.ver.toArray).size<=100000:=by rw[<-Zaq];exact Nat.le_trans hp.ver (by decide)
 show Zi4 p ⟨p.name.toArray⟩ ⟨p.ver.toArray⟩ w an ab af cn cb cf
 by_cases z1:(0:Int)<(p.needs.length:Int) <;> by_cases z2:(0:Int)<(p.bars.length:Int) <;> by_cases z3:(0:Int)<(p.files.length:Int)
 ·exact Zx4 ⟨rfl,rfl,s1,s2,hp,hn,hb,hf⟩ z1 z2 z3
 ·exact Zx2 ⟨rfl,rfl,s1,s2,hp,hn,hb,hf⟩ z1 z2 z3
 ·exact Zxr ⟨rfl,rfl,s1,s2,hp,hn,hb,hf⟩ z1 z2 z3
 ·exact Zx0 ⟨rfl,rfl,s1,s2,hp,hn,hb,hf⟩ z1 z2 z3
 ·exact Zyn ⟨rfl,rfl,s1,s2,hp,hn,hb,hf⟩ z1 z2 z3
 ·exact Zyr ⟨rfl,rfl,s1,s2,hp,hn,hb,hf⟩ z1 z2 z3
 ·exact Zx3 ⟨rfl,rfl,s1,s2,hp,hn,hb,hf⟩ z1 z2 z3
 ·exact Zyf ⟨rfl,rfl,s1,s2,hp,hn,hb,hf⟩ z1 z2 z3
end Go.Proofs.YtgnfknjopafngabGreatDoor
