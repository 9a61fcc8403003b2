import Derived.Test.YtgnfknjopafngaaGreatDoorKup
set_option maxRecDepth 100000
set_option maxHeartbeats 8000000
namespace Go.Proofs.YtgnfknjopafngaaGreatDoor
open Go.RowKit
def faV(f:M.Fa):Value:=.agg #[.int .i64 f.kind,.int .i64 f.which,.int .i64 f.line,.string ⟨f.name.toArray⟩]
def Zjt(w:World)(v:Value)(l:List M.Pk):Prop:=l≠[]->∀ g o n c,v=.slice (some ⟨g,o,none⟩) n c->∃ cur fz,w.heap[g]? = some (.cells cur 30 fz)
theorem Zjt.below{w w':World}{v:Value}{l:List M.Pk}(h:Zjt w v l)(hb:Below w.heap.size w w'):Zjt w' v l:=fun h0 g o n c e=>by
 obtain⟨cur,fz,h1⟩:=h h0 g o n c e
 exact⟨cur,fz,(hb.block g (Array.getElem?_eq_some_iff.1 h1).1).trans h1⟩
theorem Zjt.own{w:World}{B size n:Nat}{v:Value}{l:List M.Pk}{xs:List Value}(h:w.ownsRow B 30 size v n xs):Zjt w v l:=fun _ g o k c e=>by
 obtain⟨_,⟨rfl,_⟩|⟨g2,cap2,cur2,rfl,_,hg2,_⟩⟩:=h
 ·cases e
 ·cases e
  exact⟨cur2,_,hg2⟩
theorem Zjt.set{w:World}{v:Value}{l:List M.Pk}(h:Zjt w v l)(b o:Nat)(u:Value):Zjt (w.setCell ⟨b,o,none⟩ u) v l:=fun h0 g o' n c e=>by
 obtain⟨cur,fz,h1⟩:=h h0 g o' n c e
 by_cases hb:b=g
 ·subst hb
  exact⟨cur.setIfInBounds o u,fz,by simp[World.setCell,Array.getElem?_modify,h1]⟩
 ·exact⟨cur,fz,(Below.heap_setCell _ _ _ _ (fun e=>hb e.symm)).trans h1⟩
def Zj8(qQ:List M.Pk)(qX:List ByteArray)(w:World)(e:Ending)(w':World):Prop:=
 Below w.heap.size w w'/\match M.Zar qQ (qX.map fun t=>t.data.toList) with
  | .inl f=>e=.returned (.tuple #[.slice none 0 0,.slice none 0 0,faV f])
  | .inr (all,qG)=>∃ av ov,e=.returned (.tuple #[av,ov,faV M.Ycn])/\Zbc w' av all/\Zas w' 0 w'.heap.size ov qG.length (Zaa qG)/\Zjt w' av all
theorem Zed{qQ:List M.Pk}{qX:List ByteArray}{w w':World}{f:M.Fa}{e:Ending}(hB:Below w.heap.size w w')(h:M.Zar qQ (qX.map fun t=>t.data.toList)=.inl f)(he:e=.returned (.tuple #[.slice none 0 0,.slice none 0 0,faV f])):Zj8 qQ qX w e w':=by
 refine⟨hB,?_⟩
 rw[h]
 exact he
theorem Zjb{s:ByteArray}{l:List UInt8}(h:s.data.toList=l):s=⟨l.toArray⟩:=by
 subst h
 cases s
 simp
theorem Zku{s:ByteArray}(h:s.toList.isEmpty=false):s.data.toList≠[]:=by
 rw[Lib.toList_data] at h
 intro e
 rw[e] at h
 cases h
theorem str_eq{s:ByteArray}(h:s.toList.isEmpty=true):s.data.toList=[]:=by
 rw[Lib.toList_data] at h
 exact List.isEmpty_iff.1 h
theorem Zkh{ts:List ByteArray}{k:Nat}(hk:k<ts.length):ts.map (fun p=>p.data.toList)=(ts.take k).map (fun p=>p.data.toList)++ts[k].data.toList :: (ts.drop (k+1)).map (fun p=>p.data.toList):=Zra hk
theorem Zlz{ts:List ByteArray}{k:Nat}(hk:k<ts.length):(ts.take (k+1)).map (fun p=>p.data.toList)=(ts.take k).map (fun p=>p.data.toList)++[ts[k].data.toList]:=by
 rw[List.take_succ_eq_append_getElem hk,List.map_append];rfl
theorem Zb0{w:World}{a:Addr}{v:Value}{g:Nat}(h:Zh6 (w.setCell a v) g):Zh6 w g:=by
 obtain⟨c,f,e⟩:=h
 by_cases hg:a.block=g
 ·subst hg
  have hlt:a.block<w.heap.size:=by have:=(Array.getElem?_eq_some_iff.1 e).1;simpa [World.setCell] using this
  cases h:w.heap[a.block]? with
  | none=>rw[Array.getElem?_eq_none_iff] at h;omega
  | some o=>
   unfold World.setCell at e
   rw[Array.getElem?_modify,if_pos rfl,h] at e
   cases o with
   | cells c' t' f'=>
    simp at e
    exact⟨c',f',by rw[h,e.2.1]⟩
   | _=>simp at e
 ·exact⟨c,f,(Below.heap_setCell _ _ _ _ (fun e=>hg e.symm)).symm.trans e⟩
theorem Zno{w:World}{a:Addr}{v:Value}(h:w.cell? a=some v)(b:Addr):(w.setCell a v).cell? b=w.cell? b:=by
 by_cases e:a=b
 ·subst e;rw[World.cell?_setCell_same _ _ _ h,h]
 ·exact World.cell?_setCell_other _ _ _ _ e
theorem Zkz{w:World}{b:Nat}{v0 v1 v2 v3:Value}(h0:w.cell? ⟨b,0,none⟩=some v0)(h1:w.cell? ⟨b,1,none⟩=some v1)(h2:w.cell? ⟨b,2,none⟩=some v2)(h3:w.cell? ⟨b,3,none⟩=some v3)(a:Addr):
 ((((w.setCell ⟨b,0,none⟩ v0).setCell ⟨b,1,none⟩ v1).setCell ⟨b,2,none⟩ v2).setCell ⟨b,3,none⟩ v3).cell? a=w.cell? a:=by
 have e0:=Zno h0
 have e1:=Zno ((e0 _).trans h1)
 have e2:=Zno ((e1 _).trans ((e0 _).trans h2))
 have e3:=Zno ((e2 _).trans ((e1 _).trans ((e0 _).trans h3)))
 rw[e3,e2,e1,e0]
theorem Zbc.same{w w':World}{v:Value}{l:List M.Pk}(h:Zbc w v l)(hs:w'.heap.size=w.heap.size)(hc:∀ a,w'.cell? a=w.cell? a)(hb:∀ g,Zh6 w' g->Zh6 w g):Zbc w' v l:=by
 rcases h with h|⟨g,off,cap,h1,h2,h3,h4⟩
 ·exact .inl h
 ·refine .inr ⟨g,off,cap,h1,h2,by omega,fun i p hp=>?_⟩
  obtain⟨nv,bv,fv,c0,c1,c2,c3,c4,c5,c6,c7⟩:=h4 i p hp
  refine⟨nv,bv,fv,(hc _).trans c0,(hc _).trans c1,(hc _).trans c2,(hc _).trans c3,(hc _).trans c4,?_,?_,?_⟩
  ·rw[hs];exact c5.keep (fun g _ _ _=>⟨hc _,hb g⟩)
  ·rw[hs];exact c6.keep (fun g _ _ _=>⟨hc _,hb g⟩)
  ·rw[hs];exact c7.keep (fun g _ _ _=>⟨hc _,hb g⟩)
theorem Zv2(qQ:List M.Pk):∀ (n:Nat) (l:List M.Pk) (out:List (List UInt8)),(M.Zb2 qQ n l out).2.length<=l.length
 | 0,l,out=>Nat.le_refl _
 | n+1,l,out=>by
  unfold M.Zb2
  split
  ·exact Nat.le_refl _
  ·split
   ·exact Nat.le_refl _
   ·rename_i k hk
    refine Nat.le_trans (Zv2 qQ n _ _) ?_
    rw[List.length_append,List.length_take,List.length_drop]
    omega
theorem Zor(tv xv:Value)(qQ:List M.Pk)(qX:List ByteArray)(w:World)(ht:Zbc w tv qQ)(hx:Zas w 0 w.heap.size xv qX.length (qX.map Value.string))(htn:qQ.length<=20000)(hxn:qX.length<=20000)(hxs:∀ t∈qX,t.size<=20000)(hs:∀ p∈qQ,Zri p):
 Calls Tryz.prog 66 #[tv,xv] w (Zj8 qQ qX w):=by
 obtain⟨i0,hi0,hz0,hz1,hz2⟩:=info_parts Z6a
 obtain⟨at',ct,et⟩:=ht.form
 subst et
 obtain⟨ax,cx,ex⟩:=hx.form
 subst ex
 have HT:=hid ht
 have HX:=hid hx
 have HXS:=hid hxs
 have HS:=hid hs
 clear ht hx hxs hs
 generalize hW1:w.alloc (.cells #[.int .i64 0,.int .i64 0,.int .i64 0,.string ⟨#[]⟩] 34)=W1
 have s1:W1.heap.size=w.heap.size+1:=by rw[<-hW1];simp
 have HB1:Hid (Below w.heap.size w W1):=by rw[<-hW1];exact(Below.refl _ w).alloc ler _
 have HK:Hid (∀ o u,[Value.int .i64 0,.int .i64 0,.int .i64 0,.string ⟨#[]⟩][o]? = some u->W1.cell? ⟨w.heap.size,o,none⟩=some u):=by rw[<-hW1];exact fun o u hu=>Zbk w _ _ o u hu
 have HFZ:Hid (∀ o,W1.frozen? ⟨w.heap.size,o,none⟩=false):=by
  rw[<-hW1]
  exact(Zme w [.int .i64 0,.int .i64 0,.int .i64 0,.string ⟨#[]⟩] 34 0).2.2.2
 have HZ:Hid (∀ W,Below W1.heap.size W1 W->W.cell? ⟨w.heap.size,0,none⟩=some (.int .i64 0)/\W.cell? ⟨w.heap.size,1,none⟩=some (.int .i64 0)/\W.cell? ⟨w.heap.size,2,none⟩=some (.int .i64 0)/\W.cell? ⟨w.heap.size,3,none⟩=some (.string ⟨#[]⟩)/\∀ o,W.frozen? ⟨w.heap.size,o,none⟩=false):=fun W hb=>by
  have kc:∀ o,W.cell? ⟨w.heap.size,o,none⟩=W1.cell? ⟨w.heap.size,o,none⟩:=fun o=>hb.cell (p:=⟨w.heap.size,o,none⟩) (by show w.heap.size < _;omega)
  exact⟨(kc 0).trans (HK.out 0 _ rfl),(kc 1).trans (HK.out 1 _ rfl),(kc 2).trans (HK.out 2 _ rfl),(kc 3).trans (HK.out 3 _ rfl),fun o=>(hb.frozen (p:=⟨w.heap.size,o,none⟩) (by show w.heap.size < _;omega)).trans (HFZ.out o)⟩
 go_enter Tryz.func66,Tryz.ntmps66
 go_wp2
 go_loopw [7,8,9,10] (fun fv i _ _ wr=>∃ (k:Nat) (qZ:List M.Pk) (xs:List Value),i=.int .i64 k/\k<=qX.length/\Below W1.heap.size W1 wr/\wr.ownsRow W1.heap.size 30 5 fv qZ.length xs/\Zdz fv.ownBlock wr qZ xs/\Hid (qZ.length=k)/\Hid (M.Zav ((qX.take k).map fun t=>t.data.toList) 0 []=.inr qZ)) (fun _ i _ _ _=>qX.length-(intOf i).toNat)
 case atStart=>exact⟨0,[],[],rfl,Nat.zero_le _,Below.refl _ _,World.ownsRow_nil _ _ _ _,rfl,rfl,rfl⟩
 case round=>
  obtain⟨k,qZ,xs,rfl,hk,hBr,qV,hrow,hfl,HR⟩:=hrel
  have hbw:Below w.heap.size w wr:=HB1.out.trans (hBr.mono (by omega))
  obtain⟨af,cf,ef⟩:=Zac qV
  subst ef
  have HOwn:=hid qV
  have HRow:=hid hrow
  clear qV hrow
  by_cases hlt:k<qX.length
  ·obtain⟨bx,rfl,hbx,hcapx,hcx⟩:=HX.out.cellAt (by omega)
   have cx0:wr.cell? ⟨bx,k,none⟩=some (.string qX[k]):=(hbw.cell (p:=⟨bx,k,none⟩) hbx).trans (hcx k _ (by simp[hlt]))
   have hts:qX[k].size<=20000:=HXS.out _ (List.getElem_mem hlt)
   generalize hT:qX[k]=T at cx0 hts
   have cR:=fun wx=>Zwo T wx (by omega)
   clear hcx
   go_wp2_with fail
   refine(cR _).mono ?_
   rintro e w2 ⟨v,rfl,hv,⟨xa,xb,x1,n1,c1,x2,n2,c2,x3,n3,c3,rfl⟩,hB2⟩
   clear cR
   generalize hW3:w2.alloc (.cells #[.string xa,.string xb,.slice x1 n1 c1,.slice x2 n2 c2,.slice x3 n3 c3] 30)=W3
   have HB3:Hid (Below w2.heap.size w2 W3):=by rw[<-hW3];exact(Below.refl _ w2).alloc ler _
   have HC3:Hid (∀ j u,[Value.string xa,.string xb,.slice x1 n1 c1,.slice x2 n2 c2,.slice x3 n3 c3][j]? = some u->W3.cell? ⟨w2.heap.size,j,none⟩=some u):=by rw[<-hW3];exact fun j u hu=>Zbk w2 _ _ j u hu
   have hB12:Below W1.heap.size W1 W3:=bt hBr (bt hB2 HB3.out)
   cases hr:Zx7 T with
   | inl n=>
    have el:Z32 (Sum.inl n:Sum Nat M.Pk)=(n:Int):=rfl
    rw[el]
    have hn0:(0:Int)<=n:=by omega
    have HP:Hid (M.Zar qQ (qX.map fun t=>t.data.toList)=.inl ⟨1,k,n,[]⟩):=by
     show _ = _
     unfold M.Zar
     rw[Zkh hlt,M.Zfs _ _ _ _ _ _ HR.out,hT,show M.Zcp T.data.toList=.inl n from hr]
     simp[Nat.min_eq_left (Nat.le_of_lt hlt)]
    obtain⟨z0,z1,z2,z3,zf⟩:=HZ.out W3 hB12
    have HB12:Hid (Below w.heap.size w W3):=HB1.out.trans (hB12.mono (by omega))
    clear hv hr el HRow HOwn
    go_wp2
    refine bodyPost_ret (v:=.tuple #[.slice none 0 0,.slice none 0 0,.agg #[.int .i64 1,.int .i64 k,.int .i64 n,.string ⟨#[]⟩]]) (by simp[results,Tryz.results66,go_sem,z0,z1,z2,z3]) rfl (Zed ?_ HP.out rfl)
    exact(((HB12.out.setCell ler _).setCell ler _).setCell ler _).setCell ler _
   | inr p=>
    have el:Z32 (Sum.inr p:Sum Nat M.Pk)=(-1:Int):=rfl
    rw[el]
    obtain⟨nv,bv,fv,e,p1,p2,p3⟩:=hv p hr
    simp only[Value.agg.injEq,Array.mk.injEq,List.cons.injEq,Value.string.injEq,and_true] at e
    obtain⟨rfl,rfl,rfl,rfl,rfl⟩:=e
    have hown3:=own_below (own_below HOwn.out hB2) HB3.out
    have q0:=HC3.out 0 _ rfl
    have q1:=HC3.out 1 _ rfl
    have q2:=HC3.out 2 _ rfl
    have q3:=HC3.out 3 _ rfl
    have q4:=HC3.out 4 _ rfl
    have HRow3:Hid (Zdz (Value.slice af qZ.length cf).ownBlock W3 (qZ++[p]) (xs++[.string ⟨p.name.toArray⟩,.string ⟨p.ver.toArray⟩,.slice x1 n1 c1,.slice x2 n2 c2,.slice x3 n3 c3])):=
     ((HRow.out.below hB2).snoc (Z5v HOwn.out) p1 p2 p3).below HB3.out
    have HR2:Hid (M.Zav ((qX.take (k+1)).map fun t=>t.data.toList) 0 []=.inr (qZ++[p])):=by
     show _ = _
     rw[Zlz hlt,M.Zfs _ _ _ _ _ _ HR.out,hT,show M.Zcp T.data.toList=.inr p from hr]
     rfl
    have hfn:qZ.length<=20000:=by have:=hfl.out;omega
    clear hv hr el HRow p1 p2 p3 HR
    go_wp2_with (at_builtin;refine wpList_append_own_at _ rfl _ _ 77 rfl W1.heap.size 30 i0 _ 5 104 Tryz.underlying77 hi0 hz0 hz1 hz2 rfl (by decide) _ _ _ rfl (hown3.alloc _) ⟨W3.heap.size,0,none⟩ 1 1 [.string ⟨p.name.toArray⟩,.string ⟨p.ver.toArray⟩,.slice x1 n1 c1,.slice x2 n2 c2,.slice x3 n3 c3] rfl rfl ?c1 ?c2 ?c3 ?c4 ?c5 ?_)
    case c1=>exact Zsc _ _ _ _ _ _ _
    case c2=>intro u hu;simp at hu;rcases hu with rfl|rfl|rfl|rfl|rfl <;> rfl
    case c3=>unfold maxLen;omega
    case c4=>omega
    case c5=>simp;have:=hB12.size;omega
    intro v4 w4 hown' hgrow _ hat
    have RB:Below W1.heap.size W1 w4:=(hB12.alloc hB12.size _).grown hgrow (by simp;have:=hB12.size;omega) (fun j hj=>(hown3.lt j hj).1)
    have RG:Zdz v4.ownBlock w4 (qZ++[p]) (xs++[.string ⟨p.name.toArray⟩,.string ⟨p.ver.toArray⟩,.slice x1 n1 c1,.slice x2 n2 c2,.slice x3 n3 c3]):=
     (HRow3.out.below ((Below.refl _ W3).alloc ler _)).step hgrow (hat.imp id (fun h=>h.trans (by simp)))
    have RO:w4.ownsRow W1.heap.size 30 5 v4 (qZ++[p]).length (xs++[.string ⟨p.name.toArray⟩,.string ⟨p.ver.toArray⟩,.slice x1 n1 c1,.slice x2 n2 c2,.slice x3 n3 c3]):=by
     rw[List.length_append,s1];exact hown'
    clear hown' hgrow hat hown3 HRow3
    go_wp2
    go_roundw
    case rel=>exact⟨k+1,qZ++[p],_,by go_num,by omega,RB,RO,RG,by show _ = _;rw[List.length_append,hfl.out];rfl,HR2⟩
    case measure=>simp[intOf];omega
  ·have hkk:k=qX.length:=by omega
   have HR2:Hid (M.Zav (qX.map fun t=>t.data.toList) 0 []=.inr qZ):=by
    have h:=HR.out
    rw[hkk,List.take_length] at h
    exact h
   have hfn:qZ.length<=20000:=by have:=hfl.out;omega
   have HSF:Hid (∀ p∈qZ,Zri p):=fun p hp=>by
    rcases M.Zgm _ _ _ _ HR2.out p hp with h|⟨t,_,h⟩
    ·cases h
    ·exact Zoo h
   have HF:Hid (Zbc wr (.slice af qZ.length cf) qZ):=Zbc.own HRow.out.row HOwn.out
   have HTr:Hid (Zbc wr (.slice at' qQ.length ct) qQ):=HT.out.below hbw
   clear hkk HR HRow HOwn HT hfl HX
   go_wp2_with (at_builtin;refine Zll rfl _ _ rfl (.slice at' qQ.length ct) qQ rfl rfl (Zg4.of HTr.out) (by omega) ?_;intro v' w2 xs2 hown2 hrow2 hB2)
   obtain⟨W2,hW2⟩:∃ W,W=wr:=⟨_,rfl⟩
   subst hW2
   go_loopw [11,12,13] (fun av i _ wr=>∃ (j:Nat) (AL:List M.Pk) (ys:List Value),i=.int .i64 j/\j<=qZ.length/\AL.length<=40000/\Below W2.heap.size W2 wr/\wr.ownsRow W2.heap.size 30 5 av AL.length ys/\Hid (Zei W2 AL ys)/\Hid (AL=qQ++qZ.take j)/\Hid (M.Zbf (qZ.take j) 0 qQ=.inr AL)) (fun _ i _ _=>qZ.length-(intOf i).toNat)
   case atStart=>
    have e:qQ++qZ.take 0=qQ:=by rw[List.take_zero,List.append_nil]
    exact⟨0,qQ,xs2,rfl,Nat.zero_le _,by omega,hB2,hown2,hrow2,e.symm,rfl⟩
   case round=>
    obtain⟨j,AL,ys,rfl,hj,hal,hBj,hownj,HRowj,HAL,HAdd⟩:=hrel
    obtain⟨aa,ca,ea⟩:=Zac hownj
    subst ea
    have HAll:Hid (Zbc wr (.slice aa AL.length ca) AL):=Zbc.own (HRowj.out.below hBj) hownj
    have HTy:Hid (Zjt wr (.slice aa AL.length ca) AL):=Zjt.own hownj
    have HOwnj:=hid hownj
    have hB1j:Below W1.heap.size W1 wr:=bt hBr hBj
    clear hownj hrow2 hown2
    by_cases hlj:j<qZ.length
    ·obtain⟨bf,of,rfl,_,hcapf,nv,bv,fv,o0,o1,o2,o3,o4,hn1,hn2,hn3⟩:=HF.out.cells hlj
     have p0:=(hBj.cell (p:=⟨bf,of+j*5,none⟩) (World.block_lt_of_cell? _ _ o0)).trans o0
     have p1:=(hBj.cell (p:=⟨bf,of+j*5+1,none⟩) (World.block_lt_of_cell? _ _ o1)).trans o1
     have p2:=(hBj.cell (p:=⟨bf,of+j*5+2,none⟩) (World.block_lt_of_cell? _ _ o2)).trans o2
     have p3:=(hBj.cell (p:=⟨bf,of+j*5+3,none⟩) (World.block_lt_of_cell? _ _ o3)).trans o3
     have p4:=(hBj.cell (p:=⟨bf,of+j*5+4,none⟩) (World.block_lt_of_cell? _ _ o4)).trans o4
     clear o0 o1 o2 o3 o4
     have HRow4:Hid (Zei W2 (AL++[qZ[j]]) (ys++[.string ⟨qZ[j].name.toArray⟩,.string ⟨qZ[j].ver.toArray⟩,nv,bv,fv])):=HRowj.out.snoc hn1 hn2 hn3
     obtain⟨an,cn,en⟩:=hn1.form
     obtain⟨ab,cb,eb⟩:=hn2.form
     obtain⟨ac,cc,ec⟩:=hn3.form
     subst en eb ec
     obtain⟨Y,hY⟩:∃ Y:ByteArray,Y=⟨qZ[j].name.toArray⟩:=⟨_,rfl⟩
     obtain⟨V,hV⟩:∃ V:ByteArray,V=⟨qZ[j].ver.toArray⟩:=⟨_,rfl⟩
     rw[<-hY] at p0
     rw[<-hV] at p1
     have hYn:Y.data.toList=qZ[j].name:=by rw[hY]
     have cN:=fun wx (hb:Below wr.heap.size wr wx)=>Zni (.slice aa AL.length ca) AL Y wx (HAll.out.below hb) (by omega)
     have HFn:Hid (Zke AL Y=M.Zex AL qZ[j].name):=by show M.Zex _ _ = _;rw[hYn]
     have HYn:=hid hYn
     have HYV:Hid (Y=⟨qZ[j].name.toArray⟩/\V=⟨qZ[j].ver.toArray⟩):=⟨hY,hV⟩
     clear hn1 hn2 hn3 hYn hY hV
     go_wp2_with fail
     refine(cN _ (Below.refl _ _)).mono ?_
     rintro e w3 ⟨rfl,hB3⟩
     have hB13:Below W1.heap.size W1 w3:=bt hB1j hB3
     have HBw3:Hid (Below w.heap.size w w3):=HB1.out.trans (hB13.mono (by omega))
     have k0:=(hB3.cell (p:=⟨bf,of+j*5,none⟩) (World.block_lt_of_cell? _ _ p0)).trans p0
     have k1:=(hB3.cell (p:=⟨bf,of+j*5+1,none⟩) (World.block_lt_of_cell? _ _ p1)).trans p1
     have k2:=(hB3.cell (p:=⟨bf,of+j*5+2,none⟩) (World.block_lt_of_cell? _ _ p2)).trans p2
     have k3:=(hB3.cell (p:=⟨bf,of+j*5+3,none⟩) (World.block_lt_of_cell? _ _ p3)).trans p3
     have k4:=(hB3.cell (p:=⟨bf,of+j*5+4,none⟩) (World.block_lt_of_cell? _ _ p4)).trans p4
     generalize hfi:Zke AL Y=fi at HFn
     clear p0 p1 p2 p3 p4 cN hfi
     by_cases hf:0<=fi
     ·have HP:Hid (M.Zar qQ (qX.map fun t=>t.data.toList)=.inl ⟨2,j,0,qZ[j].name⟩):=by
       show _ = _
       unfold M.Zar
       rw[HR2.out]
       dsimp only
       have e:qZ=qZ.take j++qZ[j] :: qZ.drop (j+1):=by simp
       have h2:=M.Zgg (qZ.take j) 0 qQ AL qZ[j] (qZ.drop (j+1)) HAdd.out
       rw[<-e,if_pos (by rw[<-HFn.out];exact hf)] at h2
       rw[h2]
       simp[Nat.min_eq_left hj]
      have HPV:Hid (faV ⟨2,j,0,qZ[j].name⟩=.agg #[.int .i64 2,.int .i64 j,.int .i64 0,.string Y]):=by show faV _ = _;rw[HYV.out.1];rfl
      obtain⟨z0,z1,z2,z3,zf⟩:=HZ.out w3 hB13
      clear HF HTr
      go_wp2
      go_region
      all_goals
       go_wp2
       refine bodyPost_ret (v:=.tuple #[.slice none 0 0,.slice none 0 0,.agg #[.int .i64 2,.int .i64 j,.int .i64 0,.string Y]]) (by simp[results,Tryz.results66,go_sem,z0,z1,z2,z3]) rfl (Zed ?_ HP.out (by rw[HPV.out]))
       exact below_drewN ((((HBw3.out.setCell ler _).setCell ler _).setCell ler _).setCell ler _) 1
     ·have hfneg:¬ (0<=fi):=hf
      have HAdd2:Hid (M.Zbf (qZ.take (j+1)) 0 qQ=.inr (AL++[qZ[j]])):=by
       show _ = _
       have h2:=M.Zgg (qZ.take j) 0 qQ AL qZ[j] [] HAdd.out
       rw[if_neg (by rw[<-HFn.out];exact hf)] at h2
       rw[List.take_succ_eq_append_getElem hlj]
       exact h2
      have HAL2:Hid (AL++[qZ[j]]=qQ++qZ.take (j+1)):=by
       show _ = _
       rw[HAL.out,List.take_succ_eq_append_getElem hlj,List.append_assoc]
      have HALn:Hid ((AL++[qZ[j]]).length<=40000):=by
       show _<=_
       rw[HAL2.out,List.length_append,List.length_take];omega
      have hown3:=own_below HOwnj.out hB3
      have HRow5:Hid (Zei W2 (AL++[qZ[j]]) (ys++[.string Y,.string V,.slice an qZ[j].needs.length cn,.slice ab qZ[j].bars.length cb,.slice ac qZ[j].files.length cc])):=by rw[HYV.out.1,HYV.out.2];exact HRow4.out
      have hB23:Below W2.heap.size W2 w3:=bt hBj hB3
      clear HRow4 HF HTr
      go_wp2_with (at_builtin;refine wpList_append_own _ rfl _ _ 77 rfl W2.heap.size 30 i0 _ 5 104 Tryz.underlying77 hi0 hz0 hz1 hz2 rfl (by decide) _ _ _ rfl (hown3.alloc _) ⟨w3.heap.size,0,none⟩ 1 1 [.string Y,.string V,.slice an qZ[j].needs.length cn,.slice ab qZ[j].bars.length cb,.slice ac qZ[j].files.length cc] rfl rfl ?c1 ?c2 ?c3 ?c4 ?c5 ?_)
      case c1=>exact Zsc _ _ _ _ _ _ _
      case c2=>intro u hu;simp at hu;rcases hu with rfl|rfl|rfl|rfl|rfl <;> rfl
      case c3=>unfold maxLen;omega
      case c4=>omega
      case c5=>simp;have:=hB23.size;omega
      intro v4 w4 hown' hgrow _
      have RB:Below W2.heap.size W2 w4:=(hB23.alloc hB23.size _).grown hgrow (by simp;have:=hB23.size;omega) (fun i hi=>(hown3.lt i hi).1)
      have RO:w4.ownsRow W2.heap.size 30 5 v4 (AL++[qZ[j]]).length (ys++[.string Y,.string V,.slice an qZ[j].needs.length cn,.slice ab qZ[j].bars.length cb,.slice ac qZ[j].files.length cc]):=by
       rw[List.length_append];exact hown'
      clear hown' hgrow hown3
      go_wp2
      go_roundw
      case rel=>exact⟨j+1,AL++[qZ[j]],_,by go_num,by omega,HALn.out,RB,RO,HRow5,HAL2,HAdd2⟩
      case measure=>simp[intOf];omega
    ·have hjj:j=qZ.length:=by omega
     have HAL2:Hid (AL=qQ++qZ):=by
      have h:=HAL.out
      rw[hjj,List.take_length] at h
      exact h
     have HCh:Hid (M.Zar qQ (qX.map fun t=>t.data.toList)=M.Zcc qQ qZ AL):=by
      show _ = _
      unfold M.Zar
      rw[HR2.out]
      dsimp only
      have h:=HAdd.out
      rw[hjj,List.take_length] at h
      rw[h]
     have HSA:Hid (∀ p∈AL,Zri p):=fun p hp=>by
      rw[HAL2.out] at hp
      rcases List.mem_append.1 hp with hp|hp
      ·exact HS.out p hp
      ·exact HSF.out p hp
     have HFr:Hid (Zbc wr (.slice af qZ.length cf) qZ):=HF.out.below hBj
     have HTw:Hid (Zbc wr (.slice at' qQ.length ct) qQ):=HTr.out.below hBj
     have cL:=fun wx (hb:Below wr.heap.size wr wx)=>Zoc (.slice aa AL.length ca) AL wx (HAll.out.below hb) (by omega) (fun p hp=>(HSA.out p hp).1)
     clear hjj HAdd HAL HRowj HOwnj HF HTr HR2
     go_wp2_with fail
     refine(cL _ (Below.refl _ _)).mono ?_
     rintro e w3 ⟨T1,rfl,hT1,hB3⟩
     have HT1:=hid hT1
     clear cL hT1
     by_cases ht1:T1.toList.isEmpty=true
     ·have HC1:Hid (¬ M.Za2 AL≠[]):=by show ¬ _;rw[<-HT1.out,str_eq ht1];simp
      have cB:=fun wx (hb:Below wr.heap.size wr wx)=>Zxk (.slice aa AL.length ca) AL wx (HAll.out.below hb) (by omega) (fun p hp=>(HSA.out p hp).1)
      go_wp2_with fail
      refine(cB _ hB3).mono ?_
      rintro e w4 ⟨T2,rfl,hT2,hB4⟩
      have HT2:=hid hT2
      have hB4':=bt hB3 hB4
      clear cB hT2 hB4
      by_cases ht2:T2.toList.isEmpty=true
      ·have HC2:Hid (¬ M.Zbg AL≠[]):=by show ¬ _;rw[<-HT2.out,str_eq ht2];simp
       have cC:=fun wx (hb:Below wr.heap.size wr wx)=>Z6t (.slice aa AL.length ca) AL wx (HAll.out.below hb) (by omega) (fun p hp=>(HSA.out p hp).1) (fun p hp=>(HSA.out p hp).2)
       go_wp2_with fail
       refine(cC _ hB4').mono ?_
       rintro e w5 ⟨T3,rfl,hT3,hB5⟩
       have HT3:=hid hT3
       have hB5':=bt hB4' hB5
       clear cC hT3 hB5
       by_cases ht3:T3.toList.isEmpty=true
       ·have HC3:Hid (¬ M.Za4 AL≠[]):=by show ¬ _;rw[<-HT3.out,str_eq ht3];simp
        have cO:=fun wx (hb:Below wr.heap.size wr wx)=>Z6v (.slice af qZ.length cf) (.slice at' qQ.length ct) qZ qQ wx (HFr.out.below hb) (HTw.out.below hb) (by omega) (by omega) (fun p hp=>(HSF.out p hp).1) (fun p hp=>(HS.out p hp).1)
        go_wp2_with fail
        refine(cO _ hB5').mono ?_
        rintro e w6 ⟨ov,lv,rfl,hov,hlv,hB6⟩
        have hB6':=bt hB5' hB6
        clear cO hB6
        have HT30:Hid (T3.data.toList=[]):=str_eq ht3
        generalize hO:M.Zb2 qQ qZ.length qZ []=R at hov hlv
        have HO:=hid hO
        have hlen:R.2.length<=qZ.length:=by rw[<-hO];exact Zv2 qQ _ _ _
        obtain⟨al,cl,el⟩:=hlv.form
        subst el
        obtain⟨ao,co,eo⟩:=hov.form
        subst eo
        have HLV:=hid hlv
        have HOV:=hid hov
        clear hO hov hlv HFr HTw
        obtain⟨W6,hW6⟩:∃ W,W=w6:=⟨_,rfl⟩
        subst hW6
        go_wp2
        go_loopw [14,17] (fun t i wr=>∃ (T:ByteArray) (m:Nat),t=.string T/\i=.int .i64 m/\m<=R.2.length/\Below W6.heap.size W6 wr/\Hid (T.data.toList=(R.2.take m).foldl (fun n p=>M.Zc5 n p.name) [])) (fun _ i _=>R.2.length-(intOf i).toNat)
        case atStart=>exact⟨T3,0,rfl,rfl,Nat.zero_le _,Below.refl _ _,by show _ = _;rw[HT30.out];rfl⟩
        case round=>
         obtain⟨T,m,rfl,rfl,hm,hBm,HT⟩:=hrel
         by_cases hlm:m<R.2.length
         ·obtain⟨bl,ol,rfl,_,hcapl,_,_,_,q0,_⟩:=(HLV.out.below hBm).cells hlm
          obtain⟨Y,hY⟩:∃ Y:ByteArray,Y=⟨R.2[m].name.toArray⟩:=⟨_,rfl⟩
          rw[<-hY] at q0
          have cF:=fun wx=>Zhi T Y wx
          have HT2:Hid ((Zcu T Y).data.toList=(R.2.take (m+1)).foldl (fun n p=>M.Zc5 n p.name) []):=by
           show _ = _
           rw[Zd2 _ _ hlm,<-HT.out,hY]
           rfl
          generalize Zcu T Y=Z at cF HT2
          clear hY
          go_wp2_with (go_at_call 113;refine(cF _).mono ?_;rintro e w' ⟨rfl,rfl⟩)
          go_roundw
          case rel=>exact⟨Z,m+1,rfl,by go_num,by omega,hBm,HT2⟩
          case measure=>simp[intOf];omega
         ·have hmm:m=R.2.length:=by omega
          have HT2:Hid (T.data.toList=M.Zfe R.2):=by
           have h:=HT.out
           rw[hmm,List.take_length] at h
           exact h
          have hB1x:=bt (bt hB1j hB6') hBm
          obtain⟨z0,z1,z2,z3,zf⟩:=HZ.out wr hB1x
          have HBx:Hid (Below w.heap.size w wr):=HB1.out.trans (hB1x.mono (by omega))
          clear hmm HT
          by_cases ht4:T.toList.isEmpty=true
          ·have HP:Hid (M.Zar qQ (qX.map fun t=>t.data.toList)=.inr (AL,R.1)):=by
            show _ = _
            rw[HCh.out]
            unfold M.Zcc
            rw[if_neg HC1.out,if_neg HC2.out,if_neg HC3.out,HO.out,if_neg (by rw[<-HT2.out,str_eq ht4];simp)]
           go_wp2
           refine bodyPost_ret (v:=.tuple #[.slice aa AL.length ca,.slice ao R.1.length co,.agg #[.int .i64 0,.int .i64 0,.int .i64 0,.string ⟨#[]⟩]]) (by simp[results,Tryz.results66,go_sem,z0,z1,z2,z3]) rfl ⟨?_,?_⟩
           ·exact(((HBx.out.setCell ler _).setCell ler _).setCell ler _).setCell ler _
           ·rw[HP.out]
            refine⟨_,_,rfl,?_,?_,((((HTy.out.below (bt hB6' hBm)).set _ _ _).set _ _ _).set _ _ _).set _ _ _⟩
            ·exact((HAll.out.below hB6').below hBm).same (by rw[Za0,Za0,Za0,Za0]) (fun a=>Zkz z0 z1 z2 z3 a) (fun g e=>Zb0 (Zb0 (Zb0 (Zb0 e))))
            ·rw[Za0,Za0,Za0,Za0]
             exact((HOV.out.keep (fun g o _ hg=>Zcb hBm hg)).wide ler hBm.size).keep (fun g _ _ _=>⟨Zkz z0 z1 z2 z3 _,fun e=>Zb0 (Zb0 (Zb0 (Zb0 e)))⟩)
          ·replace ht4:T.toList.isEmpty=false:=by simpa using ht4
           have HP:Hid (M.Zar qQ (qX.map fun t=>t.data.toList)=.inl ⟨7,0,0,M.Zfe R.2⟩):=by
            show _ = _
            rw[HCh.out]
            unfold M.Zcc
            rw[if_neg HC1.out,if_neg HC2.out,if_neg HC3.out,HO.out,if_pos (by rw[<-HT2.out];exact Zku ht4)]
           have HPV:Hid (faV ⟨7,0,0,M.Zfe R.2⟩=.agg #[.int .i64 7,.int .i64 0,.int .i64 0,.string T]):=by show faV _ = _;rw[Zjb HT2.out];rfl
           go_wp2
           refine bodyPost_ret (v:=.tuple #[.slice none 0 0,.slice none 0 0,.agg #[.int .i64 7,.int .i64 0,.int .i64 0,.string T]]) (by simp[results,Tryz.results66,go_sem,z0,z1,z2,z3]) rfl (Zed ?_ HP.out (by rw[HPV.out]))
           exact(((HBx.out.setCell ler _).setCell ler _).setCell ler _).setCell ler _
       ·replace ht3:T3.toList.isEmpty=false:=by simpa using ht3
        have HP:Hid (M.Zar qQ (qX.map fun t=>t.data.toList)=.inl ⟨6,0,0,M.Za4 AL⟩):=by
         show _ = _
         rw[HCh.out]
         unfold M.Zcc
         rw[if_neg HC1.out,if_neg HC2.out,if_pos (by rw[<-HT3.out];exact Zku ht3)]
        have HPV:Hid (faV ⟨6,0,0,M.Za4 AL⟩=.agg #[.int .i64 6,.int .i64 0,.int .i64 0,.string T3]):=by show faV _ = _;rw[Zjb HT3.out];rfl
        have hB1x:=bt hB1j hB5'
        obtain⟨z0,z1,z2,z3,zf⟩:=HZ.out w5 hB1x
        have HBx:Hid (Below w.heap.size w w5):=HB1.out.trans (hB1x.mono (by omega))
        go_wp2
        refine bodyPost_ret (v:=.tuple #[.slice none 0 0,.slice none 0 0,.agg #[.int .i64 6,.int .i64 0,.int .i64 0,.string T3]]) (by simp[results,Tryz.results66,go_sem,z0,z1,z2,z3]) rfl (Zed ?_ HP.out (by rw[HPV.out]))
        exact(((HBx.out.setCell ler _).setCell ler _).setCell ler _).setCell ler _
      ·replace ht2:T2.toList.isEmpty=false:=by simpa using ht2
       have HP:Hid (M.Zar qQ (qX.map fun t=>t.data.toList)=.inl ⟨5,0,0,M.Zbg AL⟩):=by
        show _ = _
        rw[HCh.out]
        unfold M.Zcc
        rw[if_neg HC1.out,if_pos (by rw[<-HT2.out];exact Zku ht2)]
       have HPV:Hid (faV ⟨5,0,0,M.Zbg AL⟩=.agg #[.int .i64 5,.int .i64 0,.int .i64 0,.string T2]):=by show faV _ = _;rw[Zjb HT2.out];rfl
       have hB1x:=bt hB1j hB4'
       obtain⟨z0,z1,z2,z3,zf⟩:=HZ.out w4 hB1x
       have HBx:Hid (Below w.heap.size w w4):=HB1.out.trans (hB1x.mono (by omega))
       go_wp2
       refine bodyPost_ret (v:=.tuple #[.slice none 0 0,.slice none 0 0,.agg #[.int .i64 5,.int .i64 0,.int .i64 0,.string T2]]) (by simp[results,Tryz.results66,go_sem,z0,z1,z2,z3]) rfl (Zed ?_ HP.out (by rw[HPV.out]))
       exact(((HBx.out.setCell ler _).setCell ler _).setCell ler _).setCell ler _
     ·replace ht1:T1.toList.isEmpty=false:=by simpa using ht1
      have HP:Hid (M.Zar qQ (qX.map fun t=>t.data.toList)=.inl ⟨4,0,0,M.Za2 AL⟩):=by
       show _ = _
       rw[HCh.out]
       unfold M.Zcc
       rw[if_pos (by rw[<-HT1.out];exact Zku ht1)]
      have HPV:Hid (faV ⟨4,0,0,M.Za2 AL⟩=.agg #[.int .i64 4,.int .i64 0,.int .i64 0,.string T1]):=by show faV _ = _;rw[Zjb HT1.out];rfl
      have hB1x:=bt hB1j hB3
      obtain⟨z0,z1,z2,z3,zf⟩:=HZ.out w3 hB1x
      have HBx:Hid (Below w.heap.size w w3):=HB1.out.trans (hB1x.mono (by omega))
      go_wp2
      refine bodyPost_ret (v:=.tuple #[.slice none 0 0,.slice none 0 0,.agg #[.int .i64 4,.int .i64 0,.int .i64 0,.string T1]]) (by simp[results,Tryz.results66,go_sem,z0,z1,z2,z3]) rfl (Zed ?_ HP.out (by rw[HPV.out]))
      exact(((HBx.out.setCell ler _).setCell ler _).setCell ler _).setCell ler _
end Go.Proofs.YtgnfknjopafngaaGreatDoor
