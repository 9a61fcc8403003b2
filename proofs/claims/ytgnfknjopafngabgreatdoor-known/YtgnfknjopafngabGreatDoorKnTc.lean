import Derived.Test.YtgnfknjopafngabGreatDoorKnTb
set_option maxRecDepth 100000
set_option maxHeartbeats 16000000
namespace Go.Proofs.YtgnfknjopafngabGreatDoor
open Go.RowKit Go.Maps
theorem xat_later{W W':World}{B x n:Nat}{l:List M.Pk}(h:XAt W B x n l)(hb:Below W.heap.size W W'):XAt W' B x n l:=by
 obtain⟨d,s,k,b,half,hv,sv,lv,D,h1,h2,h3⟩:=h
 exact⟨d,s,k,b,half,hv,sv,lv,D,h1.below hb,h2,h3⟩
theorem bytes_eq{a b:ByteArray}(h:a.data.toList=b.data.toList):a=b:=by
 obtain⟨⟨a⟩⟩:=a
 obtain⟨⟨b⟩⟩:=b
 exact congrArg (fun l:List UInt8=>(⟨⟨l⟩⟩:ByteArray)) h
theorem plan_row{w:World}{B x n k:Nat}(h:XAt w B x n [])(hk:k<pRows.length)(xv:Value)(hx:StrsIn w xv (pRows[k]).texts):
 Calls Tryz.prog 12 #[.pointer (some ⟨x,0,none⟩),xv] w fun e w'=>∃ a c,e=.returned (.tuple #[.slice a (pRows[k]).order.length c,.agg #[.int .i64 (pRows[k]).k,.int .i64 (pRows[k]).w,.int .i64 (pRows[k]).l,.string (pRows[k]).n]])/\StrsIn w' (.slice a (pRows[k]).order.length c) (pRows[k]).order/\Below w.heap.size w w':=by
 obtain⟨g1,g2,g3,g4⟩:=p_at hk
 refine(x_plan h xv (pRows[k]).texts hx.txts (by omega) (fun t ht=>Nat.le_trans (g3 t ht) (by decide))).mono ?_
 rintro e w' ⟨a,c,he,⟨N,hN,hN2⟩,hB⟩
 rcases g4 with ⟨f,e1,e2,e3,e4,e5,e6⟩|⟨all,names,e1,e2,e3,e4,e5,e6⟩
 ·rw[e1] at he hN
  have hN0:N=[]:=by
   rcases hN with ⟨_,h0,_⟩|⟨g,cap,h0,_⟩
   ·exact List.length_eq_zero_iff.1 h0
   ·injection h0 with _ h0 _
    exact List.length_eq_zero_iff.1 h0.symm
  refine⟨a,c,?_,?_,hB⟩
  ·rw[he,e6,<-e2,<-e3,<-e4,show (pRows[k]).n=⟨f.name.toArray⟩ from bytes_eq (by rw[e5])]
   rfl
  ·rw[e6,<-hN0]
   rw[hN0] at hN ⊢
   exact hN
 ·rw[e1] at he hN
  have hN3:=hN2 all names e1
  have hO:N=(pRows[k]).order:=by
   rw[hN3,e6,List.map_map]
   exact(List.map_congr_left fun t _=>bytes_eq (by simp)).trans (List.map_id _)
  have hl:names.length=(pRows[k]).order.length:=by rw[e6,List.length_map]
  refine⟨a,c,?_,?_,hB⟩
  ·rw[he,e2,e3,e4,show (pRows[k]).n=⟨#[]⟩ from bytes_eq (by rw[e5])]
   show Ending.returned (.tuple #[.slice a names.length c,_]) = _
   rw[hl]
   rfl
  ·rw[<-hO]
   rw[hO]
   have:StrsIn w' (.slice a names.length c) N:=hN
   rw[hl,hO] at this
   exact this
theorem known_law(c:Int)(w:World)(hR:Ready w)(b1 : -9223372036854775808<=c)(b2:c<=9223372036854775807)(cSt:∀ wx,Ready wx->Calls Tryz.prog 14 #[] wx fun e w'=>e=.returned (.bool true)/\Below wx.heap.size wx w'):
 Calls Tryz.prog 3 #[.int .i64 c] w fun e w'=>e=.returned (.bool true)/\Below w.heap.size w w':=by
 have cV:=versions_any w
 have cK:∀ wx,Calls Tryz.prog 8 #[.int .i64 c,.int .i64 88] wx fun e w'=>∃ m:Nat,m<88/\e=.returned (.int .i64 m)/\w'=wx:=fun wx=>kpick_any c 88 wx (by decide) (by decide) b1 b2
 have HR:=hid hR
 clear b1 b2 hR
 go_enter Tryz.func3,Tryz.ntmps3
 go_wp2_with fail
 refine cV.mono ?_
 rintro e w1 ⟨gv,rfl,hV,hB1⟩
 clear cV
 go_wp2_with fail
 refine(formsT_any w1).mono ?_
 rintro e w2 ⟨gf,rfl,hF,hB2⟩
 go_wp2_with fail
 refine(plansT_any w2).mono ?_
 rintro e w3 ⟨gp,rfl,hP,hB3⟩
 have H3:Hid (VIn w3 gv/\FIn w3 gf/\ExIn w3 gp/\Below w.heap.size w w3):=⟨hV.below (bt hB2 hB3),hF.below hB3,hP,bt (bt hB1 hB2) hB3⟩
 clear hV hF hP hB1 hB2 hB3
 go_wp2_with fail
 refine(cK w3).mono ?_
 rintro e w4 ⟨m,hm,rfl,e4⟩
 obtain⟨W,hW⟩:∃ W,W=w3:=⟨_,rfl⟩
 rw[<-hW] at e4 H3
 rw[e4]
 clear hW e4 cK
 have HRW:Hid (Ready W):=HR.out.below H3.out.2.2.2
 by_cases h1:m<21
 ·obtain⟨p0,p1,p2⟩:=H3.out.1 m (by rw[vLen];exact h1)
  obtain⟨g1,g2,g3⟩:=v_at (k:=m) (by rw[vLen];exact h1)
  have HB:Hid (Below w.heap.size w W):=H3.out.2.2.2
  generalize (vRows[m]'(by rw[vLen];exact h1)).a=A at p0 g1 g2
  generalize (vRows[m]'(by rw[vLen];exact h1)).b=B at p1 g1 g3
  generalize (vRows[m]'(by rw[vLen];exact h1)).o=O at p2 g1
  have cC:∀ wx,Calls Tryz.prog 9 #[.string A,.string B] wx fun e w'=>e=.returned (.int .i64 O)/\Below wx.heap.size wx w':=fun wx=>(plainCompare_any A B wx (by unfold maxLen;omega) (by unfold maxLen;omega)).mono fun e w' h=>by
   obtain⟨rfl,n,rfl⟩:=h
   exact⟨by rw[g1],below_same wx n⟩
  have hBd:Below W.heap.size W W.drew:=below_same W 1
  have hmi:(m:Int)<21:=by omega
  clear H3 g1 g2 g3 cSt HR HRW hm
  go_wp2
  go_region_with (go_at_call 9;refine(cC _).mono ?_;rintro e w5 ⟨rfl,hB5⟩)
  all_goals
   have hB6:Below W.heap.size W w5:=bt hBd hB5
   have q2:w5.cell? ⟨gv,m*3+2,none⟩=some (.int .i64 O):=(hB6.cell (p:=⟨gv,_,none⟩) (World.block_lt_of_cell? _ _ p2)).trans p2
   have HB6:Hid (Below w.heap.size w w5):=bt HB.out hB6
   clear hB5 hB6 cC
   go_wp2
   go_ret
   exact⟨rfl,HB6.out⟩
 ·by_cases h2:m<63
  ·obtain⟨k,rfl⟩:∃ k,m=k+21:=⟨m-21,by omega⟩
   have hk:k<fRows.length:=by rw[fLen];omega
   obtain⟨p0,p1,p2⟩:=H3.out.2.1 k hk
   obtain⟨g1,g2⟩:=f_at hk
   have HB:Hid (Below w.heap.size w W):=H3.out.2.2.2
   generalize (fRows[k]).text=T at p0 g1 g2
   generalize (fRows[k]).one=E at p1 g2
   generalize (fRows[k]).line=L at p2 g2
   have cR:=xRead_any T W (by omega) HRW.out
   have hgf:gf<W.heap.size:=World.block_lt_of_cell? _ _ p0
   have hki:(k:Int)<42:=by omega
   rcases g2 with ⟨n,e1,e2,e3⟩|⟨p,e1,e2,e3⟩
   ·subst e2
    have cR2:Calls Tryz.prog 10 #[.string T] W fun e w'=>e=.returned (.tuple #[.string ⟨#[]⟩,.agg #[.int .i64 1,.int .i64 0,.int .i64 n,.string ⟨#[]⟩]])/\Below W.heap.size W w':=cR.mono fun e w' h=>by
     obtain⟨T',N',a,b,c',rfl,hB,h1,_⟩:=h
     obtain⟨rfl,rfl,rfl,rfl,rfl⟩:=h1 n e1
     exact⟨rfl,hB⟩
    clear H3 g1 e1 e3 cSt HR HRW hm cR h1 h2 hk
    go_wp2_with fail
    refine cR2.mono ?_
    rintro e w5 ⟨rfl,hB5⟩
    have q2:w5.cell? ⟨gf,k*3+2,none⟩=some (.int .i64 n):=(hB5.cell (p:=⟨gf,_,none⟩) hgf).trans p2
    have hg5:gf<w5.heap.size:=World.block_lt_of_cell? _ _ q2
    have HB6:Hid (Below w.heap.size w w5):=bt HB.out hB5
    clear hB5 cR2 p0 p1 p2 HB
    go_wp2
    go_region
    all_goals
     go_wp2
     go_ret
     exact⟨rfl,bt (HB6.out.alloc HB6.out.size _) (below_same _ 1)⟩
   ·subst e2
    have cR2:Calls Tryz.prog 10 #[.string T] W fun e w'=>∃ b c:Nat,∃ N:ByteArray,e=.returned (.tuple #[.string E,.agg #[.int .i64 0,.int .i64 b,.int .i64 c,.string N]])/\Below W.heap.size W w':=cR.mono fun e w' h=>by
     obtain⟨T',N',a,b,c',rfl,hB,_,h1⟩:=h
     obtain⟨rfl,e4⟩:=h1 p e1
     exact⟨b,c',N',by rw[bytes_eq (a:=T') (b:=E) (by rw[e4,e3])];rfl,hB⟩
    clear H3 g1 e1 e3 cSt HR HRW hm cR h1 h2 hk
    go_wp2_with fail
    refine cR2.mono ?_
    rintro e w5 ⟨b,c',N,rfl,hB5⟩
    have q1:w5.cell? ⟨gf,k*3+1,none⟩=some (.string E):=(hB5.cell (p:=⟨gf,_,none⟩) hgf).trans p1
    have q2:w5.cell? ⟨gf,k*3+2,none⟩=some (.int .i64 (-1)):=(hB5.cell (p:=⟨gf,_,none⟩) hgf).trans p2
    have hg5:gf<w5.heap.size:=World.block_lt_of_cell? _ _ q2
    have HB6:Hid (Below w.heap.size w w5):=bt HB.out hB5
    clear hB5 cR2 p0 p1 p2 HB
    go_wp2
    go_ret
    exact⟨rfl,HB6.out.alloc HB6.out.size _⟩
  ·by_cases h3:m<87
   ·obtain⟨k,rfl⟩:∃ k,m=k+63:=⟨m-63,by omega⟩
    have hk:k<pRows.length:=by rw[pLen];omega
    have HP:Hid (ExAt W gp k pRows[k]):=H3.out.2.2.1 k hk
    have HB:Hid (Below w.heap.size w W):=H3.out.2.2.2
    have hki:(k:Int)<24:=by omega
    have cN:=x_new 30 W HRW.out
    have HPl:Hid (∀ {w:World} {B x n:Nat} (h:XAt w B x n []) (xv:Value) (hx:StrsIn w xv (pRows[k]).texts),Calls Tryz.prog 12 #[.pointer (some ⟨x,0,none⟩),xv] w fun e w'=>∃ a c,e=.returned (.tuple #[.slice a (pRows[k]).order.length c,.agg #[.int .i64 (pRows[k]).k,.int .i64 (pRows[k]).w,.int .i64 (pRows[k]).l,.string (pRows[k]).n]])/\StrsIn w' (.slice a (pRows[k]).order.length c) (pRows[k]).order/\Below w.heap.size w w'):=fun h xv hx=>plan_row h hk xv hx
    have hol:(pRows[k]).order.length<=100:=(p_at hk).2.1
    generalize pRows[k]=r at HP HPl hol
    clear H3 cSt HR HRW hm h1 h2 h3 hk
    go_wp2_with fail
    refine cN.mono ?_
    rintro e w5 ⟨x,rfl,hX,hB5⟩
    obtain⟨A5,hA5⟩:∃ A5,A5=w5.alloc (.cells okC 33):=⟨_,rfl⟩
    have hBA:Below w5.heap.size w5 A5:=by rw[hA5];exact(Below.refl _ w5).alloc ler _
    have hP5:=(HP.out.below hB5).below hBA
    obtain⟨⟨ga,gb,p0,s0,p1,s1⟩,p2,p3,p4,p5⟩:=hP5
    have cPl:=HPl.out (xat_later hX hBA) _ s0
    have hf5:A5.heap[w5.heap.size]? = some (.cells okC 33 (0,0)):=by rw[hA5];exact heap_alloc_new w5 _
    have p0':=p0
    rw[hA5] at p0'
    have HA5:=hid hA5
    have H5:Hid (ExAt A5 gp k r/\Below w.heap.size w A5/\A5.heap[w5.heap.size]? = some (.cells okC 33 (0,0))):=⟨(HP.out.below hB5).below hBA,bt (bt HB.out hB5) hBA,hf5⟩
    clear cN hX hB5 hBA p0 s0 p1 s1 p2 p3 p4 p5 hf5 hA5 HPl HP HB
    go_wp2_with fail
    rw[<-HA5.out]
    refine cPl.mono ?_
    rintro e w6 ⟨a,c',rfl,hS6,hB6⟩
    obtain⟨A6,hA6⟩:∃ A6,A6=w6.alloc (.cells #[.int .i64 r.k,.int .i64 r.w,.int .i64 r.l,.string r.n] 33):=⟨_,rfl⟩
    have hBA6:Below w6.heap.size w6 A6:=by rw[hA6];exact(Below.refl _ w6).alloc ler _
    have hP6:=(H5.out.1.below hB6).below hBA6
    obtain⟨⟨ga',gb',p0,s0,p1,s1⟩,p2,p3,p4,p5⟩:=hP6
    have cS:=ksame_any _ _ r.order r.order A6 (strs_later hS6 hBA6) s1 (by omega) (by omega)
    rw[decide_eq_true rfl] at cS
    have hg6:A6.heap[w6.heap.size]? = some (.cells #[.int .i64 r.k,.int .i64 r.w,.int .i64 r.l,.string r.n] 33 (0,0)):=by rw[hA6];exact heap_alloc_new w6 _
    have hf6:A6.heap[w5.heap.size]? = some (.cells okC 33 (0,0)):=((bt hB6 hBA6).block _ (ges.1 H5.out.2.2).1).trans H5.out.2.2
    have p1':=p1
    rw[hA6] at p1'
    have HA6:=hid hA6
    have H6:Hid (ExAt A6 gp k r/\Below w.heap.size w A6/\A6.heap[w5.heap.size]? = some (.cells okC 33 (0,0))/\A6.heap[w6.heap.size]? = some (.cells #[.int .i64 r.k,.int .i64 r.w,.int .i64 r.l,.string r.n] 33 (0,0))):=⟨(H5.out.1.below hB6).below hBA6,bt H5.out.2.1 (bt hB6 hBA6),hf6,hg6⟩
    clear cPl hS6 hB6 hBA6 p0 s0 p1 s1 p2 p3 p4 p5 hf6 hg6 hA6 p0'
    go_wp2_with fail
    rw[<-HA6.out]
    refine cS.mono ?_
    rintro e w7 ⟨rfl,hB7⟩
    obtain⟨k1,k2,k3,k4⟩:=H6.out
    obtain⟨-,p2,p3,p4,p5⟩:=k1.below hB7
    obtain⟨z0,-,-,-,-⟩:=okC_cell ((hB7.block _ (ges.1 k3).1).trans k3)
    have hg7:=(hB7.block _ (ges.1 k4).1).trans k4
    have y0:w7.cell? ⟨w6.heap.size,0,none⟩=some (.int .i64 r.k):=(cell_of_row w7 _ 0 _ _ (0,0) hg7).trans rfl
    have y1:w7.cell? ⟨w6.heap.size,1,none⟩=some (.int .i64 r.w):=(cell_of_row w7 _ 1 _ _ (0,0) hg7).trans rfl
    have y2:w7.cell? ⟨w6.heap.size,2,none⟩=some (.int .i64 r.l):=(cell_of_row w7 _ 2 _ _ (0,0) hg7).trans rfl
    have y3:w7.cell? ⟨w6.heap.size,3,none⟩=some (.string r.n):=(cell_of_row w7 _ 3 _ _ (0,0) hg7).trans rfl
    have H7:Hid (Below w.heap.size w w7):=bt k2 hB7
    clear cS hB7 k1 k2 k3 k4 hg7 p1' H5 H6 HA5 HA6
    generalize r.k=rk at p2 y0
    generalize r.w=rw' at p3 y1
    generalize r.l=rl at p4 y2
    generalize r.n=rn at p5 y3
    go_wp2
    go_region
    all_goals
     go_wp2
     go_ret
     exact⟨rfl,bt H7.out (below_same _ 1)⟩
   ·have hm':m=87:=by omega
    subst hm'
    have cT:=cSt W HRW.out
    have HB:Hid (Below w.heap.size w W):=H3.out.2.2.2
    clear H3 cSt HR HRW hm h1 h2 h3
    go_wp2_with fail
    refine cT.mono ?_
    rintro e w5 ⟨rfl,hB5⟩
    have H5:Hid (Below w.heap.size w w5):=bt HB.out hB5
    clear hB5 cT
    go_wp2
    go_ret
    exact⟨rfl,H5.out⟩
end Go.Proofs.YtgnfknjopafngabGreatDoor
